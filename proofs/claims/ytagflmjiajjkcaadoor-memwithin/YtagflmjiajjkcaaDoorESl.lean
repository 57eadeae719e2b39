import Derived.Test.YtagflmjiajjkcaaDoorENon
import Derived.Test.YtagflmjiajjkcaaDoorEMd
namespace Go.Proofs.YtagflmjiajjkcaaDoor
open Go.RowKit Go.WideShapes
set_option maxRecDepth 100000

/-- a segment with its log, all blocks from B on -/
def SegL (B : Nat) (lg : Bool) (w : World) (a : Nat) (bs : List Int) (ts : List (Int × Bool)) : Prop := ∃ g cap tv, MemS w a g cap bs lg tv ts ∧ ∀ k, Foot a g tv k → B ≤ k
theorem SegL.below {B a : Nat} {lg : Bool} {bs : List Int} {ts : List (Int × Bool)} {w w' : World} (hb : Below w.heap.size w w') : SegL B lg w a bs ts → SegL B lg w' a bs ts := fun ⟨g, cap, tv, h1, h3⟩ =>
  ⟨g, cap, tv, h1.kept (S := fun _ => False) (Kp.ofBelow hb) (fun _ _ h => h), h3⟩
theorem SegL.len {B a : Nat} {lg : Bool} {bs : List Int} {ts : List (Int × Bool)} {w : World} : SegL B lg w a bs ts → Pw bs.length := fun ⟨_, _, _, h1, _⟩ => h1.pw
theorem SegL.wf {B a : Nat} {lg : Bool} {bs : List Int} {ts : List (Int × Bool)} {w : World} : SegL B lg w a bs ts → ∀ z ∈ bs, 0 ≤ z ∧ z ≤ 255 := fun ⟨_, _, _, h1, _⟩ => h1.wf
theorem Seg.segl {B a : Nat} {bs : List Int} {w : World} : Seg B w a bs → ∃ ts, SegL B false w a bs ts := fun ⟨g, cap, tv, ts, h, ha, hg, ht⟩ => ⟨ts, g, cap, tv, h, fun k hk => by
  rcases hk with e | e | e
  · omega
  · omega
  · exact ht k e⟩
theorem segl_after {B : Nat} {w w' : World} {a g cap : Nat} {bs' : List Int} {lg : Bool} {tv : Value} {ts' : List (Int × Bool)} (h3 : ∀ k, Foot a g tv k → B ≤ k) (hB : B ≤ w.heap.size)
    (p : ∃ t2, MemS w' a g cap bs' lg t2 ts' ∧ ∀ j, t2.ownBlock = some j → tv.ownBlock = some j ∨ w.heap.size ≤ j) (hk : Kp (Foot a g tv) w w') : SegL B lg w' a bs' ts' ∧ Below B w w' := by
  obtain ⟨t2, p1, p2⟩ := p
  refine ⟨⟨g, cap, t2, p1, ?_⟩, hk.below hB h3⟩
  rintro k (e | e | e)
  · exact h3 k (.inl e)
  · exact h3 k (.inr (.inl e))
  · rcases p2 k e with e | e
    · exact h3 k (.inr (.inr e))
    · omega
theorem load1_l (B a x : Nat) (lg : Bool) (bs : List Int) (ts : List (Int × Bool)) (w : World) (hT : SegL B lg w a bs ts) (hB : B ≤ w.heap.size) (hx : x < 4294967296) :
    Calls Tryd.prog 23 #[.pointer (some ⟨a, 0, none⟩), .int .u32 x] w fun e w' => e = .returned (.int .u32 (n4 (rdL bs x 1))) ∧ SegL B lg w' a bs (lgL lg ts (tcs x 1 bs.length false)) ∧ Below B w w' := by
  obtain ⟨g, cap, tv, h1, h3⟩ := hT
  exact (load1_m lg (note_R lg) a g cap x bs tv ts w h1 hx).mono fun e w' ⟨he, p, hk⟩ => ⟨he, segl_after h3 hB p hk⟩
theorem store1_l (B a x : Nat) (v : Int) (lg : Bool) (bs : List Int) (ts : List (Int × Bool)) (w : World) (hT : SegL B lg w a bs ts) (hB : B ≤ w.heap.size) (hx : x < 4294967296) (hv : 0 ≤ v ∧ v < 4294967296) :
    Calls Tryd.prog 14 #[.pointer (some ⟨a, 0, none⟩), .int .u32 x, .int .u32 v] w fun e w' => e = .returned (.tuple #[]) ∧ SegL B lg w' a (wrL bs x ((by4 v).take 1)) (lgL lg ts (tcs x 1 bs.length true)) ∧ Below B w w' := by
  obtain ⟨g, cap, tv, h1, h3⟩ := hT
  exact (store1_m lg (note_W lg) a g cap x v bs tv ts w h1 hx hv).mono fun e w' ⟨he, p, hk⟩ => ⟨he, segl_after h3 hB p hk⟩
theorem load2_l (B a x : Nat) (lg : Bool) (bs : List Int) (ts : List (Int × Bool)) (w : World) (hT : SegL B lg w a bs ts) (hB : B ≤ w.heap.size) (hx : x < 4294967296) :
    Calls Tryd.prog 13 #[.pointer (some ⟨a, 0, none⟩), .int .u32 x] w fun e w' => e = .returned (.int .u32 (n4 (rdL bs x 2))) ∧ SegL B lg w' a bs (lgL lg ts (tcs x 2 bs.length false)) ∧ Below B w w' := by
  obtain ⟨g, cap, tv, h1, h3⟩ := hT
  exact (load2_m lg (note_R lg) a g cap x bs tv ts w h1 hx).mono fun e w' ⟨he, p, hk⟩ => ⟨he, segl_after h3 hB p hk⟩
theorem store2_l (B a x : Nat) (v : Int) (lg : Bool) (bs : List Int) (ts : List (Int × Bool)) (w : World) (hT : SegL B lg w a bs ts) (hB : B ≤ w.heap.size) (hx : x < 4294967296) (hv : 0 ≤ v ∧ v < 4294967296) :
    Calls Tryd.prog 24 #[.pointer (some ⟨a, 0, none⟩), .int .u32 x, .int .u32 v] w fun e w' => e = .returned (.tuple #[]) ∧ SegL B lg w' a (wrL bs x ((by4 v).take 2)) (lgL lg ts (tcs x 2 bs.length true)) ∧ Below B w w' := by
  obtain ⟨g, cap, tv, h1, h3⟩ := hT
  exact (store2_m lg (note_W lg) a g cap x v bs tv ts w h1 hx hv).mono fun e w' ⟨he, p, hk⟩ => ⟨he, segl_after h3 hB p hk⟩
theorem load4_l (B a x : Nat) (lg : Bool) (bs : List Int) (ts : List (Int × Bool)) (w : World) (hT : SegL B lg w a bs ts) (hB : B ≤ w.heap.size) (hx : x < 4294967296) :
    Calls Tryd.prog 11 #[.pointer (some ⟨a, 0, none⟩), .int .u32 x] w fun e w' => e = .returned (.int .u32 (n4 (rdL bs x 4))) ∧ SegL B lg w' a bs (lgL lg ts (tcs x 4 bs.length false)) ∧ Below B w w' := by
  obtain ⟨g, cap, tv, h1, h3⟩ := hT
  exact (load4_m lg (note_R lg) a g cap x bs tv ts w h1 hx).mono fun e w' ⟨he, p, hk⟩ => ⟨he, segl_after h3 hB p hk⟩
theorem store4_l (B a x : Nat) (v : Int) (lg : Bool) (bs : List Int) (ts : List (Int × Bool)) (w : World) (hT : SegL B lg w a bs ts) (hB : B ≤ w.heap.size) (hx : x < 4294967296) (hv : 0 ≤ v ∧ v < 4294967296) :
    Calls Tryd.prog 22 #[.pointer (some ⟨a, 0, none⟩), .int .u32 x, .int .u32 v] w fun e w' => e = .returned (.tuple #[]) ∧ SegL B lg w' a (wrL bs x ((by4 v).take 4)) (lgL lg ts (tcs x 4 bs.length true)) ∧ Below B w w' := by
  obtain ⟨g, cap, tv, h1, h3⟩ := hT
  exact (store4_m lg (note_W lg) a g cap x v bs tv ts w h1 hx hv).mono fun e w' ⟨he, p, hk⟩ => ⟨he, segl_after h3 hB p hk⟩
theorem copy_l (B a to fr n : Nat) (lg : Bool) (bs : List Int) (ts : List (Int × Bool)) (w : World) (hT : SegL B lg w a bs ts) (hB : B ≤ w.heap.size) (ht : to < 4294967296) (hf : fr < 4294967296) (hn : n ≤ 4096) :
    Calls Tryd.prog 10 #[.pointer (some ⟨a, 0, none⟩), .int .u32 to, .int .u32 fr, .int .u32 n] w fun e w' => e = .returned (.int .i64 0) ∧ SegL B lg w' a (wrL bs to (rdL bs fr n)) (lgL lg (lgL lg ts (tcs fr n bs.length false)) (tcs to n bs.length true)) ∧ Below B w w' := by
  obtain ⟨g, cap, tv, h1, h3⟩ := hT
  exact (copy_m lg (note_R lg) (note_W lg) a g cap to fr n bs tv ts w h1 ht hf hn).mono fun e w' ⟨he, p, hk⟩ => ⟨he, segl_after h3 hB p hk⟩
theorem copy_ll (B a n : Nat) (to fr : Value) (lg : Bool) (bs : List Int) (ts : List (Int × Bool)) (w : World) (hT : SegL B lg w a bs ts) (hn : 4096 < n) :
    Calls Tryd.prog 10 #[.pointer (some ⟨a, 0, none⟩), to, fr, .int .u32 n] w fun e w' => e = .returned (.int .i64 92) ∧ SegL B lg w' a bs ts ∧ Below B w w' := by
  obtain ⟨g, cap, tv, h1, h3⟩ := hT
  refine (copy_long a n to fr w ((obj_cell h1.obj 0).trans rfl) hn).mono fun e w' ⟨he, hw⟩ => ⟨he, ?_, ?_⟩
  · rw [hw]; exact ⟨g, cap, tv, h1, h3⟩
  · rw [hw]; exact Below.refl _ _
theorem read_l (B a x n : Nat) (lg : Bool) (bs : List Int) (ts : List (Int × Bool)) (w : World) (hT : SegL B lg w a bs ts) (hB : B ≤ w.heap.size) (hx : x < 4294967296) (hn : n ≤ 4096) :
    Calls Tryd.prog 16 #[.pointer (some ⟨a, 0, none⟩), .int .u32 x, .int .i64 n] w fun e w' => ∃ d, e = .returned (.tuple #[.slice (some ⟨d, 0, none⟩) n n, .int .i64 0]) ∧ SegL B lg w' a bs (lgL lg ts (tcs x n bs.length false)) ∧ Below B w w' := by
  obtain ⟨g, cap, tv, h1, h3⟩ := hT
  refine (read_m lg (note_R lg) a g cap x n bs tv ts w h1 hx hn).mono fun e w' ⟨he, ⟨t2, p1, p2⟩, hk, _⟩ => ⟨_, he, segl_after h3 hB ⟨t2, p1, fun j hj => (p2 j hj).imp id (fun h => by omega)⟩ hk⟩
theorem read_bad (B a : Nat) (x : Value) (n : Int) (lg : Bool) (bs : List Int) (ts : List (Int × Bool)) (w : World) (hT : SegL B lg w a bs ts) (hn : n < 0 ∨ 4096 < n) :
    Calls Tryd.prog 16 #[.pointer (some ⟨a, 0, none⟩), x, .int .i64 n] w fun e w' => e = .returned (.tuple #[.slice none 0 0, .int .i64 92]) ∧ w' = w := by
  obtain ⟨g, cap, tv, h1, h3⟩ := hT
  have hM := made_yes a w ((obj_cell h1.obj 0).trans rfl)
  clear h1 h3
  rcases hn with hn | hn
  · go_enter Tryd.func16, Tryd.ntmps16
    go_wp2_with (first
      | (go_at_call 30; with_reducible refine hM.mono ?_; rintro e wq ⟨rfl, hq⟩; subst wq)
      | fail)
    go_ret2
    exact ⟨rfl, rfl⟩
  · have h0 : ¬ n < 0 := by omega
    go_enter Tryd.func16, Tryd.ntmps16
    go_wp2_with (first
      | (go_at_call 30; with_reducible refine hM.mono ?_; rintro e wq ⟨rfl, hq⟩; subst wq)
      | fail)
    go_ret2
    exact ⟨rfl, rfl⟩
theorem write_bad (B a n c : Nat) (x : Value) (bo : Option Addr) (lg : Bool) (bs : List Int) (ts : List (Int × Bool)) (w : World) (hT : SegL B lg w a bs ts) (hn : 4096 < n) :
    Calls Tryd.prog 25 #[.pointer (some ⟨a, 0, none⟩), x, .slice bo n c] w fun e w' => e = .returned (.int .i64 92) ∧ w' = w := by
  obtain ⟨g, cap, tv, h1, h3⟩ := hT
  have hM := made_yes a w ((obj_cell h1.obj 0).trans rfl)
  have hI : (4096 : Int) < (n : Int) := by omega
  clear h1 h3
  go_enter Tryd.func25, Tryd.ntmps25
  go_wp2_with (first
    | (go_at_call 30; with_reducible refine hM.mono ?_; rintro e wq ⟨rfl, hq⟩; subst wq)
    | fail)
  go_ret
  exact ⟨rfl, rfl⟩
theorem write_l (B a x cap : Nat) (bo : Option Addr) (lg : Bool) (bs zs : List Int) (ts : List (Int × Bool)) (w : World) (hT : SegL B lg w a bs ts) (hB : B ≤ w.heap.size) (hx : x < 4294967296) (hn : zs.length ≤ 4096) (hc : zs.length ≤ cap) (hwf : ∀ z ∈ zs, 0 ≤ z ∧ z ≤ 255) (hr : Reads w bo zs B) :
    Calls Tryd.prog 25 #[.pointer (some ⟨a, 0, none⟩), .int .u32 x, .slice bo zs.length cap] w fun e w' => e = .returned (.int .i64 0) ∧ SegL B lg w' a (wrL bs x zs) (lgL lg ts (tcs x zs.length bs.length true)) ∧ Below B w w' := by
  obtain ⟨g, cp, tv, h1, h3⟩ := hT
  by_cases h0 : 0 < zs.length
  · obtain ⟨b, off, rfl, hlt, hcell⟩ := hr h0
    exact (write_m lg (note_W lg) a g cp x cap b off (some ⟨b, off, none⟩) bs zs tv ts w h1 hx hn hc hwf (fun _ => ⟨rfl, by omega, hcell⟩) (fun hF => by have := h3 b hF; omega)).mono fun e w' ⟨he, p, hk⟩ => ⟨he, segl_after h3 hB p hk⟩
  · exact (write_m lg (note_W lg) a g cp x cap w.heap.size 0 bo bs zs tv ts w h1 hx hn hc hwf (fun h => absurd h h0) (fun hF => by have := h1.lt _ hF; omega)).mono fun e w' ⟨he, p, hk⟩ => ⟨he, segl_after h3 hB p hk⟩
theorem log_l (B a : Nat) (lg on : Bool) (bs : List Int) (ts : List (Int × Bool)) (w : World) (hT : SegL B lg w a bs ts) (hB : B ≤ w.heap.size) :
    Calls Tryd.prog 12 #[.pointer (some ⟨a, 0, none⟩), .bool on] w fun e w' => e = .returned (.tuple #[]) ∧ SegL B on w' a bs [] ∧ Below B w w' := by
  obtain ⟨g, cap, tv, h1, h3⟩ := hT
  refine (log_any a g cap bs lg on tv ts w h1).mono fun e w' ⟨he, p, hk⟩ => ⟨he, ⟨g, cap, _, p, ?_⟩, hk.below hB (fun i hi => h3 i (.inl hi))⟩
  rintro k (e | e | e)
  · exact h3 k (.inl e)
  · exact h3 k (.inr (.inl e))
  · simp [Value.ownBlock] at e
theorem touched_l (B a : Nat) (lg : Bool) (bs : List Int) (ts : List (Int × Bool)) (w : World) (hT : SegL B lg w a bs ts) (hB : B ≤ w.heap.size) :
    Calls Tryd.prog 15 #[.pointer (some ⟨a, 0, none⟩)] w fun e w' => ∃ tv, e = .returned tv ∧ SegL B lg w' a bs [] ∧ Below B w w' ∧ w'.ownsRow 0 34 2 tv ts.length (tvv ts) ∧ (∀ k, tv.ownBlock = some k → B ≤ k) := by
  obtain ⟨g, cap, tv, h1, h3⟩ := hT
  refine (touched_any a g cap bs lg tv ts w h1).mono fun e w' ⟨he, p, hl, hk⟩ => ⟨tv, he, ⟨g, cap, _, p, ?_⟩, hk.below hB (fun i hi => h3 i (.inl hi)), hl, fun k hk => h3 k (.inr (.inr hk))⟩
  rintro k (e | e | e)
  · exact h3 k (.inl e)
  · exact h3 k (.inr (.inl e))
  · simp [Value.ownBlock] at e
set_option maxHeartbeats 1000000 in
theorem bytes_m (a g cap : Nat) (bs : List Int) (lg : Bool) (tv : Value) (ts : List (Int × Bool)) (w : World) (h : MemS w a g cap bs lg tv ts) :
    Calls Tryd.prog 21 #[.pointer (some ⟨a, 0, none⟩)] w fun e w' => ∃ g c, e = .returned (.slice (some ⟨g, 0, none⟩) bs.length c) ∧ w'.ownsRow w.heap.size 5 1 (.slice (some ⟨g, 0, none⟩) bs.length c) bs.length (bv bs) ∧ Below w.heap.size w w' := by
  have hb := h.pw.bd
  have hM := made_yes a w ((obj_cell h.obj 0).trans rfl)
  have c1 : w.cell? ⟨a, 1, none⟩ = some (.slice (some ⟨g, 0, none⟩) bs.length cap) := (obj_cell h.obj 1).trans rfl
  have hC := clone_any (some ⟨g, 0, none⟩) cap bs w (by omega) (fun e => by cases e) (reads_own h.row (by simp))
  have HC : Hid (Calls Tryd.prog 37 #[.slice (some ⟨g, 0, none⟩) bs.length cap] w fun e w1 => ∃ g c, e = .returned (.slice (some ⟨g, 0, none⟩) bs.length c) ∧ Hid (w1.ownsRow w.heap.size 5 1 (.slice (some ⟨g, 0, none⟩) bs.length c) bs.length (bv bs) ∧ Below w.heap.size w w1)) := hC.mono fun e w1 ⟨v, he, ho, hb⟩ => by
    obtain ⟨g, c, rfl, _⟩ := own_form ho (by omega)
    exact ⟨g, c, he, ho, hb⟩
  clear h hC
  go_enter Tryd.func21, Tryd.ntmps21
  go_wp2_with (first
    | (go_at_call 30; with_reducible refine hM.mono ?_; rintro e wq ⟨rfl, hq⟩; subst wq)
    | (go_at_call 37; with_reducible refine HC.out.mono ?_; rintro e w1 ⟨g2, c2, rfl, HQ⟩)
    | fail)
  go_ret
  exact ⟨_, _, rfl, HQ.out.1, HQ.out.2⟩
theorem bytes_l (B a : Nat) (lg : Bool) (bs : List Int) (ts : List (Int × Bool)) (w : World) (hT : SegL B lg w a bs ts) :
    Calls Tryd.prog 21 #[.pointer (some ⟨a, 0, none⟩)] w fun e w' => ∃ g c, e = .returned (.slice (some ⟨g, 0, none⟩) bs.length c) ∧ w'.ownsRow w.heap.size 5 1 (.slice (some ⟨g, 0, none⟩) bs.length c) bs.length (bv bs) ∧ SegL B lg w' a bs ts ∧ Below w.heap.size w w' := by
  obtain ⟨g, cap, tv, h1, h3⟩ := hT
  exact (bytes_m a g cap bs lg tv ts w h1).mono fun e w' ⟨g2, c, he, h4, h5⟩ => ⟨g2, c, he, h4, SegL.below h5 ⟨g, cap, tv, h1, h3⟩, h5⟩
end Go.Proofs.YtagflmjiajjkcaaDoor
