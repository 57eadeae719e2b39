import Derived.Test.YtibhlcfligfhdaaGreatCZDl15
import Derived.Test.YtibhlcfligfhdaaGreatCDRl
import Derived.Test.YtibhlcfligfhdaaGreatCSStD
import Derived.ProofKit
import Derived.OpenShut
import Derived.SizedLaws
import Derived.JoinedCond
import Derived.Test.YtibhlcfligfhdaaGreatCIRef
import Derived.Deep.SlicePairs
namespace Go.Proofs.YtibhlcfligfhdaaGreat
open Go.RowKit
set_option maxRecDepth 100000
theorem gC {w W : World} {b o : Nat} {v0 v1 : Value} (hb : b < w.heap.size) (h0 : w.cell? ⟨b, o, none⟩ = some v0) (h1 : w.cell? ⟨b, o + 1, none⟩ = some v1) (h : Below w.heap.size w W) : W.cell? ⟨b, o, none⟩ = some v0 ∧ W.cell? ⟨b, o + 1, none⟩ = some v1 :=
 ⟨(h.cell (p := ⟨b, o, none⟩) hb).trans h0, (h.cell (p := ⟨b, o + 1, none⟩) hb).trans h1⟩
theorem getD_app_left {L M : List (Nat × Nat)} {k : Nat} (h : k < L.length) : (L ++ M).getD k (0, 0) = L.getD k (0, 0) := by
 simp [List.getD, List.getElem?_append_left h]
theorem getD_app_right {L M : List (Nat × Nat)} {j : Nat} : (L ++ M).getD (L.length + j) (0, 0) = M.getD j (0, 0) := by
 simp only [List.getD]
 rw [List.getElem?_append_right (by omega), Nat.add_sub_cancel_left]
theorem mksC_get {j : Nat} (h : j < 64) : (mksC 64).getD j (0, 0) = (200, 1000003 + j) := by
 simp [mksC, mk0, List.getD, h]
set_option maxRecDepth 100000 in
set_option maxHeartbeats 2000000 in
theorem keptc_any (ao : Option Addr) (cap : Nat) (L : List (Nat × Nat)) (g capF : Nat) (w : World) (hn : L.length ≤ 17592186044352) (hr : CRd w ao L w.heap.size)
   (hcl : CRd w (some ⟨g, 0, none⟩) (L ++ mksC 64) w.heap.size) :
   Calls Tryz.prog 9 #[.slice (some ⟨g, 0, none⟩) (L.length + 64) capF, .slice ao L.length cap] w fun e w' => e = .returned (.bool true) ∧ Below w.heap.size w w' := by
 obtain ⟨b', off', e', hgl, hcc⟩ := hcl (by simp [mksC_len])
 simp only [Option.some.injEq, Addr.mk.injEq] at e'
 obtain ⟨rfl, rfl, _⟩ := e'
 have HC := hid_of hcc
 clear hcc hcl
 go_enter Tryz.func9, Tryz.ntmps9
 go_wp2
 go_loopw [5] (fun i wr => ∃ k : Nat, k ≤ L.length ∧ i = .int .i64 k ∧ Below w.heap.size w wr)
   (fun i _ => L.length - (intOf i).toNat)
 case atStart => exact ⟨0, Nat.zero_le _, rfl, Below.refl _ _⟩
 case round =>
   obtain ⟨k, hk, rfl, hb⟩ := hrel
   by_cases hlt : k < L.length
   · obtain ⟨b, off, rfl, hbl, hc⟩ := (hr.below hb) (by omega)
     obtain ⟨x0, x1⟩ := hc k hlt
     have hk0 := HC.out k (by simp [mksC_len]; omega)
     rw [getD_app_left hlt, Nat.zero_add] at hk0
     obtain ⟨y0, y1⟩ := gC hgl hk0.1 hk0.2 hb
     clear hc hk0
     generalize L.getD k (0, 0) = c at x0 x1 y0 y1
     have hlt' : (k : Int) < (L.length : Int) := by omega
     have hlt2 : (k : Int) < (L.length : Int) + 64 := by omega
     go_wp2
     go_quiet (fail)
     go_wp2
     go_roundw
     case rel => exact ⟨k + 1, by omega, by go_num, bt hb (below_drew0 _)⟩
     case measure => simp [intOf]; omega
   · go_wp2
     go_loopw [6] (fun i wr => ∃ k : Nat, k ≤ 64 ∧ i = .int .i64 k ∧ Below w.heap.size w wr)
       (fun i _ => 64 - (intOf i).toNat)
     case atStart => exact ⟨0, by omega, rfl, hb⟩
     case round =>
       clear hb
       obtain ⟨j, hj, rfl, hb⟩ := hrel
       by_cases hlt2 : j < 64
       · have hk0 := HC.out (L.length + j) (by simp [mksC_len]; omega)
         rw [getD_app_right, mksC_get hlt2, Nat.zero_add] at hk0
         have hk1 : w.cell? ⟨g, (L.length + j) * 2, none⟩ = some (.int .u8 200) ∧ w.cell? ⟨g, (L.length + j) * 2 + 1, none⟩ = some (.int .u32 (1000003 + (j : Int))) := by
           refine ⟨hk0.1, ?_⟩
           rw [hk0.2]; simp
         obtain ⟨q, hq⟩ : ∃ q, q = L.length + j := ⟨_, rfl⟩
         rw [← hq] at hk1
         have hwr : IntKind.i64.wrap ((L.length : Int) + (j : Int)) = (q : Int) := by rw [IntKind.wrap_i64]; omega
         have hq0 : (0 : Int) ≤ (q : Int) := by omega
         have hq1 : (q : Int) < (L.length : Int) + 64 := by omega
         have hq2 : q < L.length + 64 := by omega
         have hbl2 : g < wr.heap.size := Nat.lt_of_lt_of_le hgl hb.size
         obtain ⟨y0, y1⟩ := gC hgl hk1.1 hk1.2 hb
         have hGC := fun W h => gC (W := W) hbl2 y0 y1 h
         have hlt3 : (L.length : Int) + (j : Int) < (L.length : Int) + 64 := by omega
         have hltI : (j : Int) < 64 := by omega
         have hM := fun w => markc_any j w (by omega)
         clear hk0 hk1 hq
         have HB : Below wr.heap.size wr wr := Below.refl _ _
         go_wp2
         go_region_held3 (fun w' => w'.cell? ⟨g, q * 2, none⟩ = some (.int .u8 200) ∧ w'.cell? ⟨g, q * 2 + 1, none⟩ = some (.int .u32 (1000003 + (j : Int)))) ((refine hGC _ ?_; (repeat (first | exact HB | exact Below.refl _ _ | with_reducible refine bel ?_ | with_reducible refine Below.drew ?_)))) (first
           | (go_at_call 16; with_reducible refine (hM _).mono ?_; rintro e wq ⟨rfl, hq⟩; subst wq))
         clear hM hGC
         go_wp2
         go_roundw
         case rel => exact ⟨j + 1, by omega, by go_num, bt hb (by (repeat (first | exact HB | exact Below.refl _ _ | with_reducible refine bel ?_ | with_reducible refine Below.drew ?_)))⟩
         case measure => simp [intOf]; omega
       · go_wp2
         go_ret
         exact ⟨rfl, hb⟩
end Go.Proofs.YtibhlcfligfhdaaGreat
namespace Go.Proofs.YtibhlcfligfhdaaGreat
open Go.RowKit Go.WideShapes
set_option maxRecDepth 100000
end Go.Proofs.YtibhlcfligfhdaaGreat
namespace Go.Proofs.YtibhlcfligfhdaaGreat
open Go.RowKit Go.WideShapes
set_option maxRecDepth 100000
theorem crd_left {w : World} {ao : Option Addr} {A Z : List (Nat × Nat)} {B : Nat} (h : CRd w ao (A ++ Z) B) : CRd w ao A B := by
 intro hl
 obtain ⟨b, off, e, hlt, hc⟩ := h (by rw [List.length_append]; omega)
 refine ⟨b, off, e, hlt, fun j hj => ?_⟩
 have := hc j (by rw [List.length_append]; omega)
 rw [List.getD_eq_getElem?_getD, List.getElem?_append_left hj, ← List.getD_eq_getElem?_getD] at this
 exact this
theorem own_g {w : World} {B : Nat} {v : Value} {L : List (Nat × Nat)} (h : w.ownsRow B 37 2 v L.length (cv L)) (h0 : 0 < L.length) : ∃ g c, v = .slice (some ⟨g, 0, none⟩) L.length c ∧ L.length ≤ c ∧ B ≤ g ∧ g < w.heap.size ∧ CRd w (some ⟨g, 0, none⟩) L w.heap.size := by
 rcases h.2 with ⟨rfl, h1⟩ | ⟨g, cap, cur, rfl, hh⟩
 · omega
 · obtain ⟨q1, q2⟩ := h.lt g rfl
   obtain ⟨ao, c, e, hc, hr⟩ := own_crdD h
   cases e
   exact ⟨g, cap, rfl, hc, q1, q2, hr⟩
end Go.Proofs.YtibhlcfligfhdaaGreat
namespace Go.Proofs.YtibhlcfligfhdaaGreat
open Go.RowKit Go.WideShapes Go.Shelf
set_option maxRecDepth 100000
structure Tb (w wr : World) (A B : Nat) (f g : Fz) : Prop where
 bw : Below w.heap.size w wr
 ba : wr.heap[A]? = some (.cells (fzA f) 28)
 bb : wr.heap[B]? = some (.cells (fzA g) 28)
 la : w.heap.size ≤ A
 lb : w.heap.size ≤ B
 ne : A < B
theorem Tb.next {w wr w' : World} {A B : Nat} {f g : Fz} (h : Tb w wr A B f g) (hb : Below wr.heap.size wr w') : Tb w w' A B f g :=
 ⟨h.bw.trans (hb.mono h.bw.size), (hb.block _ (Array.getElem?_eq_some_iff.1 h.ba).1).trans h.ba, (hb.block _ (Array.getElem?_eq_some_iff.1 h.bb).1).trans h.bb, h.la, h.lb, h.ne⟩
theorem Tb.setA {w wr : World} {A B : Nat} {f g : Fz} (h : Tb w wr A B f g) (f' : Fz) : Tb w (wr.setRow A (fzA f')) A B f' g := by
 have hk := KpSetRow (S := fun i => i = A) wr A (fzA f') rfl
 have h1 := h.la
 have h2 := h.ne
 exact ⟨h.bw.trans (hk.below h.bw.size (fun i e => by omega)), setRow_heap _ _ _ _ _ _ h.ba, (hk.block _ (Array.getElem?_eq_some_iff.1 h.bb).1 (by omega)).trans h.bb, h.la, h.lb, h.ne⟩
theorem Tb.setB {w wr : World} {A B : Nat} {f g : Fz} (h : Tb w wr A B f g) (g' : Fz) : Tb w (wr.setRow B (fzA g')) A B f g' := by
 have hk := KpSetRow (S := fun i => i = B) wr B (fzA g') rfl
 have h1 := h.lb
 have h2 := h.ne
 exact ⟨h.bw.trans (hk.below h.bw.size (fun i e => by omega)), (hk.block _ (Array.getElem?_eq_some_iff.1 h.ba).1 (by omega)).trans h.ba, setRow_heap _ _ _ _ _ _ h.bb, h.la, h.lb, h.ne⟩
set_option maxHeartbeats 8000000 in
theorem ffits_law (ao : Option Addr) (cap a e k : Nat) (L : List (Nat × Nat)) (w : World) (hn : L.length ≤ 17592186044352) (ha : a < 4294967296) (he : e < 4294967296) (hwf : Wfc L) (hr : CRd w ao L w.heap.size) :
   Calls Tryz.prog 3 #[.slice ao L.length cap, .int .u32 (a : Int), .int .u32 (e : Int), .int .u8 (k : Int)] w fun x w' => x = .returned (.bool true) ∧ Below w.heap.size w w' := by
 have HR := dhid hr
 clear hr
 go_enter Tryz.func3, Tryz.ntmps3
 go_wp2_with fail
 refine (lentc_any ao cap L w hn HR.out).mono ?_
 rintro x w1 ⟨v, rfl, own1, B1⟩
 have hlen : (L ++ mksC 64).length = L.length + 64 := by rw [List.length_append, mksC_len]
 rw [← hlen] at own1
 obtain ⟨g, c, rfl, hlc, hg1, hg2, rd1⟩ := own_g own1 (by rw [hlen]; omega)
 rw [hlen] at own1 hlc ⊢
 have hcI : (L.length : Int) ≤ (c : Int) := by omega
 have z1 := B1.size
 clear own1
 replace B1 := dhid B1
 replace rd1 := dhid rd1
 have HF1 := dhid (fun s W (hb : Below w1.heap.size w1 W) => fits_any (some ⟨g, 0, none⟩) c a e s L W (by omega) (by omega) ha he hwf (crd_left ((rd1.out.below hb).mono hb.size)))
 have HF2 := dhid (fun s W (hb : Below w1.heap.size w1 W) => dfits_any ao cap a e s L W (by omega) ha he hwf (((HR.out.below B1.out).mono B1.out.size |>.below hb).mono hb.size))
 have HK := dhid (fun W (hb : Below w1.heap.size w1 W) => keptc_any ao cap L g c W hn (((HR.out.below B1.out).mono B1.out.size |>.below hb).mono hb.size) ((rd1.out.below hb).mono hb.size))
 generalize ftV L a e = fv at HF1 HF2
 clear rd1 hwf ha he HR hlen
 have HA := HF1.out k w1 (Below.refl _ _)
 have HA2 := dhid (fun W hb => HF2.out k W hb)
 generalize fv k = q at HA HA2
 obtain ⟨⟨f0, f1, f2, f3, f4, f5⟩, ok⟩ := q
 simp only [fzA] at HA HA2
 go_wp2_with fail
 refine HA.mono ?_
 rintro x w2 ⟨rfl, b2⟩
 have FA := dhid (fun o => HA2.out (w2.alloc o) (b2.alloc b2.size o))
 have B2 := dhid b2
 have z2 := b2.size
 clear HA HA2 b2
 go_wp2_with fail
 refine (FA.out _).mono ?_
 rintro x w3 ⟨rfl, b3⟩
 have p3 := (b3.block w2.heap.size (by simp)).trans (heap_alloc_new w2 _)
 obtain ⟨e0, e1, e2, e3, e4, e5⟩ := fz_cells (f := ⟨f0, f1, f2, f3, f4, f5⟩) p3
 simp only at e0 e1 e2 e3 e4 e5
 have hl3 : w2.heap.size < w3.heap.size := (Array.getElem?_eq_some_iff.1 p3).1
 have T3 : Hid (Tb w1 (w3.alloc (.cells #[.int .u32 (f0 : Int), .int .u32 (f1 : Int), .int .u8 (f2 : Int), .int .u8 (f3 : Int), .int .u32 (f4 : Int), .int .u32 (f5 : Int)] 28)) w2.heap.size w3.heap.size ⟨f0, f1, f2, f3, f4, f5⟩ ⟨f0, f1, f2, f3, f4, f5⟩) := dhid
   ⟨((B2.out.alloc B2.out.size _).trans (b3.mono (by simp; omega))).trans ((bel1 w3 _).mono (by omega)), (Below.heap_alloc w3 _ _ hl3).trans p3, heap_alloc_new w3 _, z2, by omega, hl3⟩
 clear FA b3 p3 B2
 go_wp2_with fail
 refine (HK.out _ T3.out.bw).mono ?_
 rintro x w4 ⟨rfl, b4⟩
 have T4 := dhid (T3.out.next b4)
 generalize w2.heap.size = A at *
 generalize w3.heap.size = B at *
 clear T3 b4 HK e0 e1 e2 e3 e4 e5
 go_wp2_with fail
 go_loopw [14] (fun v wr => ∃ (s : Nat) (f g : Fz), v = .int .i64 (s : Int) ∧ s ≤ 18 ∧ Hid (Tb w1 wr A B f g)) (fun v _ => 18 - (intOf v).toNat)
 case atStart => exact ⟨0, _, _, rfl, by omega, T4⟩
 case round =>
   clear T4
   obtain ⟨s, f, h, rfl, hs, TX⟩ := hrel
   by_cases hlt : s ≤ 17
   · have hltI : (s : Int) ≤ 17 := by omega
     have q1 : (s : Int) % 256 = (s : Int) := by omega
     have q2 : IntKind.u8.wrap (s : Int) = (s : Int) := by rw [IntKind.wrap_u8]; omega
     have HA := dhid (HF1.out s wr TX.out.bw)
     have HA2 := dhid (fun W hb => HF2.out s W hb)
     generalize fv s = q at HA HA2
     obtain ⟨⟨j0, j1, j2, j3, j4, j5⟩, ok⟩ := q
     simp only [fzA] at HA HA2
     go_wp2_with fail
     refine HA.out.mono ?_
     rintro x w5 ⟨rfl, b5⟩
     have T5 := dhid (TX.out.next b5)
     have T6 := dhid (T5.out.setA ⟨j0, j1, j2, j3, j4, j5⟩)
     have HA3 := dhid (HA2.out _ T6.out.bw)
     clear HA HA2 TX b5
     go_wp2_with (refine wpList_storeF rfl _ _ rfl A f ⟨j0, j1, j2, j3, j4, j5⟩ rfl rfl T5.out.ba ?_)
     simp only [fzA] at HA3 ⊢
     refine HA3.out.mono ?_
     rintro x w6 ⟨rfl, b6⟩
     have T7 := dhid (T6.out.next b6)
     have T8 := dhid (T7.out.setB ⟨j0, j1, j2, j3, j4, j5⟩)
     obtain ⟨e0, e1, e2, e3, e4, e5⟩ := fz_cells T8.out.ba
     obtain ⟨d0, d1, d2, d3, d4, d5⟩ := fz_cells T8.out.bb
     simp only at e0 e1 e2 e3 e4 e5 d0 d1 d2 d3 d4 d5
     clear T5 T6 HA3 b6
     go_wp2_with (refine wpList_storeF rfl _ _ rfl B h ⟨j0, j1, j2, j3, j4, j5⟩ rfl rfl T7.out.bb ?_)
     go_roundw
     case rel => exact ⟨s + 1, _, _, by go_num, by omega, T8⟩
     case measure => simp [intOf]; omega
   · have hltI : ¬ (s : Int) ≤ 17 := by omega
     go_wp2_with fail
     go_ret
     exact ⟨rfl, B1.out.trans (TX.out.bw.mono z1)⟩
end Go.Proofs.YtibhlcfligfhdaaGreat
namespace Go.Proofs.YtibhlcfligfhdaaGreat
open Go.ChangeShapes Go.WideShapes Go.ChangeAt Go.RowKit
theorem Tryz.own : ownKnob Tryz.prog.godebug = none := by kernel_rfl
theorem Tryz.laidOut : laidOutB Tryz.prog = true := by kernel_rfl
theorem byte_wf {z : Int} (h : (Lit.int .u8 z).wf = true) : 0 ≤ z ∧ z ≤ 255 := by
 simpa [Lit.wf, IntKind.min, IntKind.max, IntKind.signed, IntKind.bits] using h
theorem word_wf {z : Int} (h : (Lit.int .u32 z).wf = true) : 0 ≤ z ∧ z ≤ 4294967295 := by
 simpa [Lit.wf, IntKind.min, IntKind.max, IntKind.signed, IntKind.bits] using h
end Go.Proofs.YtibhlcfligfhdaaGreat
namespace Go.Proofs.YtibhlcfligfhdaaGreat
open Go.ChangeShapes Go.WideShapes Go.ChangeAt Go.RowKit
theorem Tryz.cellsI2 : Tryz.prog.cellsOf 37 = 2 := by kernel_rfl
theorem Tryz.cellsO1 : Tryz.prog.cellsOf 26 = 1 := by kernel_rfl
theorem Tryz.cellsD1 : Tryz.prog.cellsOf 23 = 1 := by kernel_rfl
theorem Tryz.bytesI : Tryz.prog.bytesOf 37 = 8 := by kernel_rfl
theorem code_open {H : Type} {enc : TypeId × Value → H} {W : World} {a0 : Option Addr} {len cap : Nat} {d : DataW H} {p : List MemPlace}
   (h : DataW.Trod enc Tryz.prog W 0 (fun _ => true) true 22 (.slice a0 len cap) d p) (hlt : ∀ x ∈ p, x.block < W.heap.size) :
   ∃ L : List (Nat × Nat), L.length = len ∧ Wfc L ∧ CRd W a0 L W.heap.size ∧ (d = .nil ∧ L = [] ∨ ∃ l sp, d = .slice l sp ∧ l.length = L.length ∧ ∀ x ∈ l, 1 ≤ Rows.uptoBulk x) := by
 obtain ⟨fuel, hf⟩ := h
 rcases Go.Deep.open_slice_pairs Tryz.underlying22 Tryz.underlying37 Tryz.cellsI2 rfl rfl Tryz.cellsO1 Tryz.cellsD1 hf with ⟨hcs, hx⟩ | ⟨a, len', cap', m, n, V0, V1, D0, D1, P0, P1, hcs, _, hl, hm, hz, hx, hcell⟩
 · simp only [Prod.mk.injEq] at hx
   simp [Value.cells] at hcs
   obtain ⟨rfl, rfl, rfl⟩ := hcs
   exact ⟨[], rfl, fun p hp => by simp at hp, fun hp => by simp at hp, .inl ⟨hx.1, rfl⟩⟩
 · simp only [Prod.mk.injEq] at hx
   obtain ⟨rfl, rfl⟩ := hx
   simp [Value.cells] at hcs
   obtain ⟨rfl, rfl, rfl⟩ := hcs
   simp only [if_true] at hz
   subst hz
   have each : ∀ i, i < len → ∃ q : Nat × Nat, V0 i = .int .u8 q.1 ∧ V1 i = .int .u32 q.2 ∧ q.1 < 256 ∧ q.2 < 4294967296 := by
     intro i hi
     obtain ⟨_, _, g0, g1⟩ := hcell i (by omega)
     obtain ⟨s, e0, _, w0⟩ := DataW.trod_int Tryz.underlying26 g0
     obtain ⟨u, e1, _, w1⟩ := DataW.trod_int Tryz.underlying23 g1
     simp at e0 e1
     have h0 := byte_wf w0
     have h1 := word_wf w1
     exact ⟨(s.toNat, u.toNat), by rw [e0]; simp only []; rw [Int.toNat_of_nonneg h0.1], by rw [e1]; simp only []; rw [Int.toNat_of_nonneg h1.1], by simp only []; omega, by simp only []; omega⟩
   obtain ⟨f, hfx⟩ : ∃ f : Nat → Nat × Nat, ∀ i, i < len → V0 i = .int .u8 (f i).1 ∧ V1 i = .int .u32 (f i).2 ∧ (f i).1 < 256 ∧ (f i).2 < 4294967296 :=
     ⟨fun i => if hi : i < len then (each i hi).choose else (0, 0), fun i hi => by simp only [hi, dite_true]; exact (each i hi).choose_spec⟩
   have hgd : ∀ j, j < len → ((List.range len).map f).getD j (0, 0) = f j := fun j hj => by simp [hj]
   refine ⟨(List.range len).map f, by simp, ?_, ?_, .inr ⟨_, _, rfl, by simp, ?_⟩⟩
   · intro p hp
     obtain ⟨i, hi, rfl⟩ := List.mem_map.1 hp
     exact (hfx i (List.mem_range.1 hi)).2.2
   · intro hpos
     simp at hpos
     obtain ⟨b, off, spot⟩ := a
     have hspot : spot = none := by simpa [Addr.add] using World.cell?_spot (hcell 0 (by omega)).1
     subst hspot
     have hbW : b < W.heap.size := hlt (.cell b off) (List.mem_append_left _ (MemPlace.mem_row.2 ⟨0, by omega, by simp⟩))
     refine ⟨b, off, rfl, hbW, fun j hj => ?_⟩
     simp at hj
     obtain ⟨c0, c1, _, _⟩ := hcell j (by omega)
     obtain ⟨e0, e1, _, _⟩ := hfx j hj
     rw [add_plain] at c0 c1
     rw [hgd j hj]
     exact ⟨by rw [c0, e0], by rw [Nat.add_assoc, c1, e1]⟩
   · intro x hx
     obtain ⟨i, _, rfl⟩ := List.mem_map.1 hx
     simp only [Rows.uptoBulk, Rows.uptoBulkAll]
     omega
end Go.Proofs.YtibhlcfligfhdaaGreat
namespace Go.Proofs.YtibhlcfligfhdaaGreat
open Go.ChangeShapes Go.WideShapes Go.ChangeAt Go.RowKit
set_option maxRecDepth 100000 in
theorem fuseFits_lifted (os : Os) (started : os.Started) (H : Type) (enc : TypeId × Value → H) :
   ReturnsInHanded {} Tryz.checked os 3 .any (Rows.fuseFitsSpec.pre6 enc Tryz.prog Tryz.f3 Rows.fuseFitsRow.domain false) (Rows.fuseFitsSpec.post enc Tryz.prog Tryz.f3 false true false false) := by
 refine returnsInHanded_of_change_sized (C := Tryz.checked) Tryz.own started (by kernel_rfl) Tryz.func3
   (ChangeSpec.witness6 (enc := enc) (C := Tryz.checked) false ⟨#[], #[.slice none 0 0, .int .u32 0, .int .u32 0, .int .u8 0], []⟩ 8 (by kernel_rfl) (by kernel_rfl) (by kernel_rfl) (by kernel_rfl)) ?_
 intro W base args ds gs before hval0 hW _ hsz0 _
 have hsz : (DataW.weightsEach Tryz.prog (Tryz.f3.params.toList ++ Rows.fuseFitsSpec.plain.varTypes Tryz.prog) (ds ++ gs)).all (· ≤ reachBytes) = true := hsz0
 clear hsz0
 have hval : ∀ (j : Nat) t v, Tryz.f3.params[j]? = some t → args[j]? = some v → Value.okWide Tryz.prog W .any base t v := hval0
 have hW' := hW
 obtain ⟨p, q, hA0, hV, rfl, hfz, hnd⟩ := hW
 have hA : DataW.TrodAll enc Tryz.prog W 0 (fun _ => true) true Tryz.f3.params.toList args.toList ds p := hA0
 rw [Tryz.params3] at hA hval hsz
 obtain ⟨v0, vs0, d0, ds0, p0, q0, hargs, rfl, rfl, h0, r0⟩ := trodAll_cons hA
 obtain ⟨v1, vs1, d1, ds1, p1, q1, rfl, rfl, rfl, h1, r1⟩ := trodAll_cons r0
 obtain ⟨v2, vs2, d2, ds2, p2, q2, rfl, rfl, rfl, h2, r2⟩ := trodAll_cons r1
 obtain ⟨v3, vs3, d3, ds3, p3, q3, rfl, rfl, rfl, h3, r3⟩ := trodAll_cons r2
 obtain ⟨rfl, rfl, rfl⟩ := trodAll_nil r3
 obtain rfl : args = #[v0, v1, v2, v3] := by cases args; simp_all
 obtain ⟨rfl, rfl⟩ := trodVars_none hV
 obtain ⟨a0, len0, cap0, rfl⟩ := okWide_slice Tryz.underlying22 (hval 0 22 v0 rfl rfl)
 obtain ⟨a1, rfl, rfl, rfl, w1⟩ := open_int Tryz.underlying23 (hval 1 23 v1 rfl rfl) h1
 obtain ⟨a2, rfl, rfl, rfl, w2⟩ := open_int Tryz.underlying23 (hval 2 23 v2 rfl rfl) h2
 obtain ⟨a3, rfl, rfl, rfl, w3⟩ := open_int Tryz.underlying5 (hval 3 5 v3 rfl rfl) h3
 clear hA0 hval0
 simp only [List.append_nil] at hW' hsz
 have hlt0 : ∀ x ∈ p0, x.block < W.heap.size := fun x hx => by simpa using hW'.lt x (by simp [hx])
 obtain ⟨zs0, rfl, hwf0, hr0, hd0⟩ := code_open h0 hlt0
 have hs0 : zs0.length * 8 ≤ 140737488351232 := by
   rcases hd0 with ⟨_, rfl⟩ | ⟨l, sp, rfl, hl, _⟩
   · simp
   · have := sized_slice hsz (j := 0) (t := 22) rfl rfl Tryz.underlying22
     rw [Tryz.bytesI] at this
     simp only [reachBytes] at this
     omega
 obtain ⟨n1, rfl⟩ : ∃ n : Nat, a1 = (n : Int) := ⟨a1.toNat, by have := word_wf w1; omega⟩
 obtain ⟨n2, rfl⟩ : ∃ n : Nat, a2 = (n : Int) := ⟨a2.toNat, by have := word_wf w2; omega⟩
 have hn1 : n1 < 4294967296 := by have := word_wf w1; omega
 have hn2 : n2 < 4294967296 := by have := word_wf w2; omega
 obtain ⟨n3, rfl⟩ : ∃ n : Nat, a3 = (n : Int) := ⟨a3.toNat, by have := byte_wf w3; omega⟩
 refine (ffits_law a0 cap0 n1 n2 n3 zs0 W (by omega) hn1 hn2 hwf0 hr0).mono fun e W' ⟨he, hnx⟩ => ?_
 subst he
 have hback0 : DataW.Trod enc Tryz.prog W' 0 (fun b => decide (b < W.heap.size)) true 22 (.slice a0 zs0.length cap0) d0 p0 :=
   Below.trod Tryz.laidOut (by kernel_rfl) (of_decide_eq_true (by kernel_rfl)) h0 hnx hlt0
 refine ⟨_, rfl, _, _, _, [], p0 ++ ([] ++ ([] ++ ([] ++ ([])))), [], hW', ?_, ?_, rfl, hnx.frame _, fun h => by cases h⟩
 · exact trodAll_cons_mk (shut_bool Tryz.underlying4 _) trodAll_mk0
 · exact trodAll_cons_mk hback0 (trodAll_cons_mk (shut_int Tryz.underlying23 w1) (trodAll_cons_mk (shut_int Tryz.underlying23 w2) (trodAll_cons_mk (shut_int Tryz.underlying5 w3) (trodAll_mk0))))
theorem fuseFits_holds : Rows.FuseFitsSaid :=
 OpenClaim.holds_of_wide 3 Tryz.f3 rfl rfl rfl rfl rfl rfl rfl ⟨rfl, rfl, rfl, rfl, rfl⟩ rfl rfl rfl rfl rfl (by kernel_rfl) Tryz.func3 (by kernel_rfl)
   (of_decide_eq_true (by kernel_rfl)) (by unfold Func.isWrapper; first | (rw [if_pos (by decide +kernel)]; kernel_rfl) | (rw [if_neg (by decide +kernel)]; exact ⟨rfl, rfl⟩))
   (fun os started H enc _ => fuseFits_lifted os started H enc)
end Go.Proofs.YtibhlcfligfhdaaGreat
