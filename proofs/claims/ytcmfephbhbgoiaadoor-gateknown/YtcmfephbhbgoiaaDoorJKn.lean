import Derived.Test.YtcmfephbhbgoiaaDoorJEv
import Derived.Test.YtcmfephbhbgoiaaDoorJWr
import Derived.Test.YtcmfephbhbgoiaaDoorJGr
namespace Go.Proofs.YtcmfephbhbgoiaaDoor
open Go.RowKit Go.WideShapes
set_option maxRecDepth 100000
/-- a gate whose blocks lie below B -/
def GtB (B : Nat) (w : World) (g : Nat) (f : Int → Option Int) : Prop :=
  ∃ b, g < B ∧ b < B ∧ w.cell? ⟨g, 0, none⟩ = some (.pointer (some ⟨g, 0, none⟩)) ∧ w.cell? ⟨g, 1, none⟩ = some (.map (some b)) ∧ MapR w b 64 f
theorem GtS.toB {w : World} {g : Nat} {f : Int → Option Int} (h : GtS w g f) : GtB w.heap.size w g f := h
theorem GtB.toS {B : Nat} {w : World} {g : Nat} {f : Int → Option Int} (h : GtB B w g f) (hB : B ≤ w.heap.size) : GtS w g f := by
  obtain ⟨b, h1, h2, h3, h4, h5⟩ := h
  exact ⟨b, by omega, by omega, h3, h4, h5⟩
theorem GtB.below {B : Nat} {w w' : World} {g : Nat} {f : Int → Option Int} (h : GtB B w g f) (hb : Below B w w') : GtB B w' g f := by
  obtain ⟨b, h1, h2, h3, h4, h5⟩ := h
  exact ⟨b, h1, h2, (hb.cell (p := ⟨g, 0, none⟩) h1).trans h3, (hb.cell (p := ⟨g, 1, none⟩) h1).trans h4, h5.block (hb.block b h2)⟩
/-- a gate and a segment -/
structure KSt (w0 : World) (B gg a : Nat) (f : Int → Option Int) (bs : List Int) (W : World) : Prop where
  gt : GtB B W gg f
  seg : Seg B W a bs
  tab : Tab W
  lo : B ≤ W.heap.size
  bel : Below w0.heap.size w0 W
  one : 1 < B
  b0 : w0.heap.size ≤ B
theorem KSt.step {w0 : World} {B gg a : Nat} {f : Int → Option Int} {bs bs' : List Int} {W W' : World} (h : KSt w0 B gg a f bs W) (hs : Seg B W' a bs') (hb : Below B W W') : KSt w0 B gg a f bs' W' :=
  ⟨h.gt.below hb, hs, h.tab.below hb h.one, Nat.le_trans h.lo hb.size, h.bel.trans (hb.mono h.b0), h.one, h.b0⟩
theorem KSt.below {w0 : World} {B gg a : Nat} {f : Int → Option Int} {bs : List Int} {W W' : World} (h : KSt w0 B gg a f bs W) (hb : Below W.heap.size W W') : KSt w0 B gg a f bs W' :=
  h.step (h.seg.below hb) (hb.mono h.lo)
theorem KSt.gate {w0 : World} {B gg a : Nat} {f : Int → Option Int} {bs : List Int} {W : World} (h : KSt w0 B gg a f bs W) : GtS W gg f := h.gt.toS h.lo
theorem seg_lds {B : Nat} {w w' : World} {a g cap : Nat} {bs : List Int} {tv : Value} {ts : List (Int × Bool)} (ha : B ≤ a) (hg : B ≤ g) (ht : ∀ k, tv.ownBlock = some k → B ≤ k) (hB : B ≤ w.heap.size) (h : LdS w a g cap bs tv ts w') : Seg B w' a bs ∧ Below B w w' := by
  obtain ⟨tv', h1, h2, h3⟩ := h
  refine ⟨⟨g, cap, tv', ts, h1, ha, hg, fun k e => (h2 k e).elim (ht k) (fun h => by omega)⟩, h3.below hB ?_⟩
  rintro i (e | e | e)
  · omega
  · omega
  · exact ht i e
theorem seg_aps {B : Nat} {w w' : World} {a g cap : Nat} {bs' : List Int} {tv : Value} {ts : List (Int × Bool)} (ha : B ≤ a) (hg : B ≤ g) (ht : ∀ k, tv.ownBlock = some k → B ≤ k) (hB : B ≤ w.heap.size) (h : ApS w a g cap tv ts bs' w') : Seg B w' a bs' ∧ Below B w w' := by
  obtain ⟨tv', h1, h2, h3⟩ := h
  refine ⟨⟨g, cap, tv', ts, h1, ha, hg, fun k e => (h2 k e).elim (ht k) (fun h => by omega)⟩, h3.below hB ?_⟩
  rintro i (e | e | e)
  · omega
  · omega
  · exact ht i e
theorem words_k {w0 : World} {B gg a : Nat} {f : Int → Option Int} {bs : List Int} {W : World} (h : KSt w0 B gg a f bs W) (sp k n : Nat) (hk : k < 4294967296) (hf : f k = some (n : Int)) (hn : n ≤ 15) (hl : bs.length = 256) :
    Calls Tryd.prog 9 #[.pointer (some ⟨gg, 0, none⟩), .pointer (some ⟨a, 0, none⟩), .int .u32 sp, .int .u32 k] W fun e w' => e = .returned (.tuple #[.slice (some ⟨W.heap.size, 0, none⟩) n n, .bool true]) ∧ Hid (KSt w0 B gg a f bs w') ∧ ∀ j, j < n → w'.cell? ⟨W.heap.size, j, none⟩ = some (.int .u32 ((wdL bs ((sp + 4) % 4294967296) n).getD j 0)) := by
  obtain ⟨g, cap, tv, ts, hM, ha, hg, ht⟩ := h.seg
  refine (words_any gg f a g cap sp k n bs tv ts W h.gate hM hl h.tab hk hf hn).mono ?_
  rintro e w' ⟨he, hL, hrow⟩
  obtain ⟨hs, hb⟩ := seg_lds ha hg ht h.lo hL
  refine ⟨he, h.step hs hb, fun j hj => ?_⟩
  rw [hrow.cellAt j (by omega)]
  have : j < (wdL bs ((sp + 4) % 4294967296) n).length := by rw [wdL_len]; exact hj
  simp [wv, List.getElem?_eq_getElem this, List.getD]
theorem apply_k {w0 : World} {B gg a : Nat} {f : Int → Option Int} {bs : List Int} {V W : World} (h : KSt w0 B gg a f bs V) (hb : Below V.heap.size V W) (v : Int) (ao : Option Addr) (cp : Nat) (cs : List WCell) (WS : List (Nat × List Int)) (hw : WsN (fun k => V.heap.size ≤ k) W ao cs WS) (hf : fitC cs = true) (hl : bs.length = 256) :
    Calls Tryd.prog 14 #[.pointer (some ⟨gg, 0, none⟩), .pointer (some ⟨a, 0, none⟩), .agg #[.int .u32 v, .slice ao cs.length cp]] W fun e w' => e = .returned (.int .i64 0) ∧ Hid (KSt w0 B gg a f (applyL bs WS) w') := by
  obtain ⟨g, cap, tv, ts, hM, ha, hg, ht⟩ := h.seg
  have hW := h.below hb
  have hM2 := hM.kept (S := fun _ => False) (Kp.ofBelow hb) (fun _ _ h => h)
  have hlt := hM.lt
  have hw2 : WsN (fun k => ¬ Foot a g tv k) W ao cs WS := ⟨hw.1, fun k hk => by
      obtain ⟨a1, a2, a3, a4, a5, sb, so, a6, a7, a8⟩ := hw.2.1 k hk
      exact ⟨a1, a2, a3, a4, a5, sb, so, a6, a7, fun e => by have := hlt sb e; omega⟩, fun hp => by
      obtain ⟨b, off, e, h1, h2, h3⟩ := hw.2.2 hp
      exact ⟨b, off, e, h1, fun e => by have := hlt b e; omega, h3⟩⟩
  refine (apply_ok gg f a g cap bs tv ts v ao cp cs WS W hW.gate hM2 hl hW.tab (by have := hW.lo; have := h.one; omega) hw2 hf).mono ?_
  rintro e w' ⟨he, hA⟩
  obtain ⟨hs, hb2⟩ := seg_aps ha hg ht hW.lo hA
  exact ⟨he, hW.step hs hb2⟩
end Go.Proofs.YtcmfephbhbgoiaaDoor
