import Derived.Test.YtcmfephbhbgoiaaDoorENw
namespace Go.Proofs.YtcmfephbhbgoiaaDoor
open Go.RowKit Go.WideShapes
set_option maxRecDepth 100000

theorem onesc_any (n : Nat) (w : World) (h : Pw n) : Calls Tryd.prog 46 #[.int .u64 n] w fun e w' => e = .returned (.int .i64 1) ∧ w' = w := by
  have hO := ones_any n w h
  go_enter Tryd.func46, Tryd.ntmps46
  go_wp2_with (first
    | (go_at_call 63; with_reducible refine hO.mono ?_; rintro e wq ⟨rfl, hq⟩; subst wq)
    | fail)
  go_ret
  exact ⟨rfl, rfl⟩
theorem size_any (n : Nat) (w : World) (h : Pw n) : Calls Tryd.prog 35 #[.int .i64 n] w fun e w' => e = .returned (.bool true) ∧ w' = w := by
  have hO := onesc_any n w h
  have hb := h.bd
  have b1 : (256 : Int) ≤ (n : Int) := by omega
  have b2 : (n : Int) ≤ 65536 := by omega
  clear h
  go_enter Tryd.func35, Tryd.ntmps35
  go_wp2_with (first
    | (go_at_call 46; with_reducible refine hO.mono ?_; rintro e wq ⟨rfl, hq⟩; subst wq)
    | fail)
  go_ret
  exact ⟨rfl, rfl⟩
/-- a segment whose log is off, all of whose blocks lie from B on -/
def Seg (B : Nat) (w : World) (a : Nat) (bs : List Int) : Prop := ∃ g cap tv ts, MemS w a g cap bs false tv ts ∧ B ≤ a ∧ B ≤ g ∧ ∀ k, tv.ownBlock = some k → B ≤ k
set_option maxHeartbeats 1000000 in
theorem from_any (ao : Option Addr) (cap : Nat) (zs : List Int) (w : World) (hp : Pw zs.length) (hwf : ∀ z ∈ zs, 0 ≤ z ∧ z ≤ 255) (hr : Reads w ao zs w.heap.size) :
    Calls Tryd.prog 16 #[.slice ao zs.length cap] w fun e w' => ∃ a, e = .returned (.tuple #[.pointer (some ⟨a, 0, none⟩), .int .i64 0]) ∧ Seg w.heap.size w' a zs ∧ Below w.heap.size w w' := by
  have hb := hp.bd
  have hZ := size_any zs.length w hp
  have hC := clone_any ao cap zs w (by omega) (fun e => by obtain ⟨_, _, e2, _⟩ := hr (by omega); rw [e] at e2; cases e2) hr
  have hC2 : Calls Tryd.prog 36 #[.slice ao zs.length cap] w fun e w1 => ∃ g c, e = .returned (.slice (some ⟨g, 0, none⟩) zs.length c) ∧ Hid (w1.ownsRow w.heap.size 5 1 (.slice (some ⟨g, 0, none⟩) zs.length c) zs.length (bv zs) ∧ Below w.heap.size w w1) := hC.mono fun e w1 ⟨v, he, ho, hb⟩ => by
    obtain ⟨g, c, rfl, _⟩ := own_form ho (by omega)
    exact ⟨g, c, he, ho, hb⟩
  have hH := fun g c W ho => hold_any g c zs W ho hp hwf
  have HC := hidS hC2
  have HH := hidS hH
  clear hC hC2 hH hr hwf hp
  go_enter Tryd.func16, Tryd.ntmps16
  go_wp2_with (first
    | (go_at_call 35; with_reducible refine hZ.mono ?_; rintro e wq ⟨rfl, hq⟩; subst wq)
    | (go_at_call 36; with_reducible refine HC.out.mono ?_; rintro e w1 ⟨g, c, rfl, HQ⟩)
    | (go_at_call 23; with_reducible refine (HH.out _ _ _ (own_base HQ.out.1 (Nat.zero_le _))).mono ?_; rintro e w2 ⟨rfl, hq1, hq2⟩; have HQ1 := hidS hq1; have HQ2 := hidS hq2; clear hq1 hq2)
    | fail)
  go_ret2
  have hgB := (HQ.out.1.lt g rfl).1
  exact ⟨_, rfl, ⟨g, c, _, _, HQ1.out, HQ.out.2.size, hgB, fun k h => by simp [Value.ownBlock] at h⟩, HQ.out.2.trans (HQ2.out.mono HQ.out.2.size)⟩
theorem new8s_any (w : World) : Calls Tryd.prog 7 #[.int .i64 8] w fun e w' => ∃ a, e = .returned (.tuple #[.pointer (some ⟨a, 0, none⟩), .int .i64 0]) ∧ Seg w.heap.size w' a (List.replicate 256 0) ∧ Below w.heap.size w w' :=
  (new8_any w).mono fun e w' ⟨a, g, cap, he, hS, hB, ha, hg⟩ => ⟨a, he, ⟨g, cap, _, _, hS, ha, hg, fun k h => by simp [Value.ownBlock] at h⟩, hB⟩
theorem Seg.len {B : Nat} {w : World} {a : Nat} {bs : List Int} (h : Seg B w a bs) : Pw bs.length := by
  obtain ⟨_, _, _, _, h, _⟩ := h; exact h.pw
theorem Seg.wf {B : Nat} {w : World} {a : Nat} {bs : List Int} (h : Seg B w a bs) : ∀ z ∈ bs, 0 ≤ z ∧ z ≤ 255 := by
  obtain ⟨_, _, _, _, h, _⟩ := h; exact h.wf
theorem Seg.after {B : Nat} {w w' : World} {a g cap : Nat} {bs bs' : List Int} {tv : Value} {ts : List (Int × Bool)} (_h : MemS w a g cap bs false tv ts) (ha : B ≤ a) (hg : B ≤ g) (ht : ∀ k, tv.ownBlock = some k → B ≤ k) (hB : B ≤ w.heap.size)
    (h2 : ∃ tv', MemS w' a g cap bs' false tv' ts ∧ (∀ j, tv'.ownBlock = some j → tv.ownBlock = some j ∨ w.heap.size ≤ j)) (hk : Kp (Foot a g tv) w w') : Seg B w' a bs' ∧ Below B w w' := by
  obtain ⟨tv', h3, h4⟩ := h2
  refine ⟨⟨g, cap, tv', ts, h3, ha, hg, fun k hk => (h4 k hk).elim (ht k) (fun h => by omega)⟩, hk.below hB ?_⟩
  rintro i (h | h | h)
  · omega
  · omega
  · exact ht i h
theorem load4_any (B a x : Nat) (bs : List Int) (w : World) (hS : Seg B w a bs) (hB : B ≤ w.heap.size) (hx : x < 4294967296) :
    Calls Tryd.prog 20 #[.pointer (some ⟨a, 0, none⟩), .int .u32 x] w fun e w' => e = .returned (.int .u32 (n4 (rdL bs x 4))) ∧ Seg B w' a bs ∧ Below B w w' := by
  obtain ⟨g, cap, tv, ts, h, ha, hg, ht⟩ := hS
  have hL : Calls Tryd.prog 39 #[.pointer (some ⟨a, 0, none⟩), .int .u32 x, .int .i64 4] w fun e w' => e = .returned (.int .u32 (n4 (rdL bs x 4))) ∧ Seg B w' a bs ∧ Below B w w' :=
    (load_any false (note_ok_off _ _) a g cap x 4 bs tv ts w h hx (by decide)).mono fun e w' ⟨he, h1, h2⟩ => ⟨he, Seg.after h ha hg ht hB h1 h2⟩
  clear h
  go_enter Tryd.func20, Tryd.ntmps20
  go_wp2_with (first
    | (go_at_call 39; with_reducible refine hL.mono ?_; rintro e w1 ⟨rfl, hq1, hq2⟩)
    | fail)
  go_ret
  exact ⟨rfl, hq1, hq2⟩
theorem store4_any (B a x : Nat) (v : Int) (bs : List Int) (w : World) (hS : Seg B w a bs) (hB : B ≤ w.heap.size) (hx : x < 4294967296) (hv : 0 ≤ v ∧ v < 4294967296) :
    Calls Tryd.prog 19 #[.pointer (some ⟨a, 0, none⟩), .int .u32 x, .int .u32 v] w fun e w' => e = .returned (.tuple #[]) ∧ Seg B w' a (wrL bs x ((by4 v).take 4)) ∧ Below B w w' := by
  obtain ⟨g, cap, tv, ts, h, ha, hg, ht⟩ := hS
  have hL : Calls Tryd.prog 38 #[.pointer (some ⟨a, 0, none⟩), .int .u32 x, .int .u32 v, .int .i64 4] w fun e w' => e = .returned (.tuple #[]) ∧ Hid (Seg B w' a (wrL bs x ((by4 v).take 4)) ∧ Below B w w') :=
    (store_any false (note_ok_off _ _) a g cap x 4 v bs tv ts w h hx (by decide) hv).mono fun e w' ⟨he, h1, h2⟩ => ⟨he, Seg.after h ha hg ht hB h1 h2⟩
  clear h hv
  go_enter Tryd.func19, Tryd.ntmps19
  go_wp2_with (first
    | (go_at_call 38; with_reducible refine hL.mono ?_; rintro e w1 ⟨rfl, HQ⟩)
    | fail)
  go_end0
  exact ⟨rfl, HQ.out.1, HQ.out.2⟩
end Go.Proofs.YtcmfephbhbgoiaaDoor
