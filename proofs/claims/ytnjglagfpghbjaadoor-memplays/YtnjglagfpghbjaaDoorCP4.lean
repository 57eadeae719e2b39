import Derived.Test.YtnjglagfpghbjaaDoorCP3
import Derived.Deep.QuietTactic
import Derived.Laws.BytesArg
namespace Go.Proofs.YtnjglagfpghbjaaDoor
open Go.RowKit Go.WideShapes
set_option maxRecDepth 100000

/-- a segment with its log, all blocks from B on -/
def SegL (B : Nat) (lg : Bool) (w : World) (a : Nat) (bs : List Int) (ts : List (Int × Bool)) : Prop := ∃ g cap tv, MemS w a g cap bs lg tv ts ∧ ∀ k, Foot a g tv k → B ≤ k
theorem SegL.below {B a : Nat} {lg : Bool} {bs : List Int} {ts : List (Int × Bool)} {w w' : World} (hb : Below w.heap.size w w') : SegL B lg w a bs ts → SegL B lg w' a bs ts := fun ⟨g, cap, tv, h1, h3⟩ =>
  ⟨g, cap, tv, h1.kept (S := fun _ => False) (Kp.ofBelow hb) (fun _ _ h => h), h3⟩
theorem SegL.len {B a : Nat} {lg : Bool} {bs : List Int} {ts : List (Int × Bool)} {w : World} : SegL B lg w a bs ts → Pw bs.length := fun ⟨_, _, _, h1, _⟩ => h1.pw
theorem SegL.wf {B a : Nat} {lg : Bool} {bs : List Int} {ts : List (Int × Bool)} {w : World} : SegL B lg w a bs ts → ∀ z ∈ bs, 0 ≤ z ∧ z ≤ 255 := fun ⟨_, _, _, h1, _⟩ => h1.wf
theorem Seg.segl {B a : Nat} {bs : List Int} {w : World} : Seg B w a bs → ∃ ts, SegL B false w a bs ts := fun ⟨g, cap, tv, ts, h, ha, hg, ht⟩ => ⟨ts, g, cap, tv, h, fun k hk => by
  rcases hk with e | e | e
  · omega
  · omega
  · exact ht k e⟩
theorem segl_after {B : Nat} {w w' : World} {a g cap : Nat} {bs' : List Int} {lg : Bool} {tv : Value} {ts' : List (Int × Bool)} (h3 : ∀ k, Foot a g tv k → B ≤ k) (hB : B ≤ w.heap.size)
    (p : ∃ t2, MemS w' a g cap bs' lg t2 ts' ∧ ∀ j, t2.ownBlock = some j → tv.ownBlock = some j ∨ w.heap.size ≤ j) (hk : Kp (Foot a g tv) w w') : SegL B lg w' a bs' ts' ∧ Below B w w' := by
  obtain ⟨t2, p1, p2⟩ := p
  refine ⟨⟨g, cap, t2, p1, ?_⟩, hk.below hB h3⟩
  rintro k (e | e | e)
  · exact h3 k (.inl e)
  · exact h3 k (.inr (.inl e))
  · rcases p2 k e with e | e
    · exact h3 k (.inr (.inr e))
    · omega
theorem load1_l (B a x : Nat) (lg : Bool) (bs : List Int) (ts : List (Int × Bool)) (w : World) (hT : SegL B lg w a bs ts) (hB : B ≤ w.heap.size) (hx : x < 4294967296) :
    Calls Tryd.prog 36 #[.pointer (some ⟨a, 0, none⟩), .int .u32 x] w fun e w' => e = .returned (.int .u32 (n4 (rdL bs x 1))) ∧ SegL B lg w' a bs (lgL lg ts (tcs x 1 bs.length false)) ∧ Below B w w' := by
  obtain ⟨g, cap, tv, h1, h3⟩ := hT
  exact (load1_m lg (note_R lg) a g cap x bs tv ts w h1 hx).mono fun e w' ⟨he, p, hk⟩ => ⟨he, segl_after h3 hB p hk⟩
theorem store1_l (B a x : Nat) (v : Int) (lg : Bool) (bs : List Int) (ts : List (Int × Bool)) (w : World) (hT : SegL B lg w a bs ts) (hB : B ≤ w.heap.size) (hx : x < 4294967296) (hv : 0 ≤ v ∧ v < 4294967296) :
    Calls Tryd.prog 13 #[.pointer (some ⟨a, 0, none⟩), .int .u32 x, .int .u32 v] w fun e w' => e = .returned (.tuple #[]) ∧ SegL B lg w' a (wrL bs x ((by4 v).take 1)) (lgL lg ts (tcs x 1 bs.length true)) ∧ Below B w w' := by
  obtain ⟨g, cap, tv, h1, h3⟩ := hT
  exact (store1_m lg (note_W lg) a g cap x v bs tv ts w h1 hx hv).mono fun e w' ⟨he, p, hk⟩ => ⟨he, segl_after h3 hB p hk⟩
theorem load2_l (B a x : Nat) (lg : Bool) (bs : List Int) (ts : List (Int × Bool)) (w : World) (hT : SegL B lg w a bs ts) (hB : B ≤ w.heap.size) (hx : x < 4294967296) :
    Calls Tryd.prog 38 #[.pointer (some ⟨a, 0, none⟩), .int .u32 x] w fun e w' => e = .returned (.int .u32 (n4 (rdL bs x 2))) ∧ SegL B lg w' a bs (lgL lg ts (tcs x 2 bs.length false)) ∧ Below B w w' := by
  obtain ⟨g, cap, tv, h1, h3⟩ := hT
  exact (load2_m lg (note_R lg) a g cap x bs tv ts w h1 hx).mono fun e w' ⟨he, p, hk⟩ => ⟨he, segl_after h3 hB p hk⟩
theorem store2_l (B a x : Nat) (v : Int) (lg : Bool) (bs : List Int) (ts : List (Int × Bool)) (w : World) (hT : SegL B lg w a bs ts) (hB : B ≤ w.heap.size) (hx : x < 4294967296) (hv : 0 ≤ v ∧ v < 4294967296) :
    Calls Tryd.prog 40 #[.pointer (some ⟨a, 0, none⟩), .int .u32 x, .int .u32 v] w fun e w' => e = .returned (.tuple #[]) ∧ SegL B lg w' a (wrL bs x ((by4 v).take 2)) (lgL lg ts (tcs x 2 bs.length true)) ∧ Below B w w' := by
  obtain ⟨g, cap, tv, h1, h3⟩ := hT
  exact (store2_m lg (note_W lg) a g cap x v bs tv ts w h1 hx hv).mono fun e w' ⟨he, p, hk⟩ => ⟨he, segl_after h3 hB p hk⟩
theorem load4_l (B a x : Nat) (lg : Bool) (bs : List Int) (ts : List (Int × Bool)) (w : World) (hT : SegL B lg w a bs ts) (hB : B ≤ w.heap.size) (hx : x < 4294967296) :
    Calls Tryd.prog 39 #[.pointer (some ⟨a, 0, none⟩), .int .u32 x] w fun e w' => e = .returned (.int .u32 (n4 (rdL bs x 4))) ∧ SegL B lg w' a bs (lgL lg ts (tcs x 4 bs.length false)) ∧ Below B w w' := by
  obtain ⟨g, cap, tv, h1, h3⟩ := hT
  exact (load4_m lg (note_R lg) a g cap x bs tv ts w h1 hx).mono fun e w' ⟨he, p, hk⟩ => ⟨he, segl_after h3 hB p hk⟩
theorem store4_l (B a x : Nat) (v : Int) (lg : Bool) (bs : List Int) (ts : List (Int × Bool)) (w : World) (hT : SegL B lg w a bs ts) (hB : B ≤ w.heap.size) (hx : x < 4294967296) (hv : 0 ≤ v ∧ v < 4294967296) :
    Calls Tryd.prog 41 #[.pointer (some ⟨a, 0, none⟩), .int .u32 x, .int .u32 v] w fun e w' => e = .returned (.tuple #[]) ∧ SegL B lg w' a (wrL bs x ((by4 v).take 4)) (lgL lg ts (tcs x 4 bs.length true)) ∧ Below B w w' := by
  obtain ⟨g, cap, tv, h1, h3⟩ := hT
  exact (store4_m lg (note_W lg) a g cap x v bs tv ts w h1 hx hv).mono fun e w' ⟨he, p, hk⟩ => ⟨he, segl_after h3 hB p hk⟩
theorem copy_l (B a to fr n : Nat) (lg : Bool) (bs : List Int) (ts : List (Int × Bool)) (w : World) (hT : SegL B lg w a bs ts) (hB : B ≤ w.heap.size) (ht : to < 4294967296) (hf : fr < 4294967296) (hn : n ≤ 4096) :
    Calls Tryd.prog 42 #[.pointer (some ⟨a, 0, none⟩), .int .u32 to, .int .u32 fr, .int .u32 n] w fun e w' => e = .returned (.int .i64 0) ∧ SegL B lg w' a (wrL bs to (rdL bs fr n)) (lgL lg (lgL lg ts (tcs fr n bs.length false)) (tcs to n bs.length true)) ∧ Below B w w' := by
  obtain ⟨g, cap, tv, h1, h3⟩ := hT
  exact (copy_m lg (note_R lg) (note_W lg) a g cap to fr n bs tv ts w h1 ht hf hn).mono fun e w' ⟨he, p, hk⟩ => ⟨he, segl_after h3 hB p hk⟩
theorem copy_ll (B a n : Nat) (to fr : Value) (lg : Bool) (bs : List Int) (ts : List (Int × Bool)) (w : World) (hT : SegL B lg w a bs ts) (hn : 4096 < n) :
    Calls Tryd.prog 42 #[.pointer (some ⟨a, 0, none⟩), to, fr, .int .u32 n] w fun e w' => e = .returned (.int .i64 92) ∧ SegL B lg w' a bs ts ∧ Below B w w' := by
  obtain ⟨g, cap, tv, h1, h3⟩ := hT
  refine (copy_long a n to fr w ((obj_cell h1.obj 0).trans rfl) hn).mono fun e w' ⟨he, hw⟩ => ⟨he, ?_, ?_⟩
  · rw [hw]; exact ⟨g, cap, tv, h1, h3⟩
  · rw [hw]; exact Below.refl _ _
theorem read_l (B a x n : Nat) (lg : Bool) (bs : List Int) (ts : List (Int × Bool)) (w : World) (hT : SegL B lg w a bs ts) (hB : B ≤ w.heap.size) (hx : x < 4294967296) (hn : n ≤ 4096) :
    Calls Tryd.prog 44 #[.pointer (some ⟨a, 0, none⟩), .int .u32 x, .int .i64 n] w fun e w' => ∃ d, e = .returned (.tuple #[.slice (some ⟨d, 0, none⟩) n n, .int .i64 0]) ∧ SegL B lg w' a bs (lgL lg ts (tcs x n bs.length false)) ∧ Below B w w' := by
  obtain ⟨g, cap, tv, h1, h3⟩ := hT
  refine (read_m lg (note_R lg) a g cap x n bs tv ts w h1 hx hn).mono fun e w' ⟨he, ⟨t2, p1, p2⟩, hk, _⟩ => ⟨_, he, segl_after h3 hB ⟨t2, p1, fun j hj => (p2 j hj).imp id (fun h => by omega)⟩ hk⟩
theorem read_bad (B a : Nat) (x : Value) (n : Int) (lg : Bool) (bs : List Int) (ts : List (Int × Bool)) (w : World) (hT : SegL B lg w a bs ts) (hn : n < 0 ∨ 4096 < n) :
    Calls Tryd.prog 44 #[.pointer (some ⟨a, 0, none⟩), x, .int .i64 n] w fun e w' => e = .returned (.tuple #[.slice none 0 0, .int .i64 92]) ∧ w' = w := by
  obtain ⟨g, cap, tv, h1, h3⟩ := hT
  have hM := made_yes a w ((obj_cell h1.obj 0).trans rfl)
  clear h1 h3
  rcases hn with hn | hn
  · go_enter Tryd.func44, Tryd.ntmps44
    go_wp2_with (first
      | (go_at_call 24; with_reducible refine hM.mono ?_; rintro e wq ⟨rfl, hq⟩; subst wq)
      | fail)
    go_ret2
    exact ⟨rfl, rfl⟩
  · have h0 : ¬ n < 0 := by omega
    go_enter Tryd.func44, Tryd.ntmps44
    go_wp2_with (first
      | (go_at_call 24; with_reducible refine hM.mono ?_; rintro e wq ⟨rfl, hq⟩; subst wq)
      | fail)
    go_ret2
    exact ⟨rfl, rfl⟩
theorem write_bad (B a n c : Nat) (x : Value) (bo : Option Addr) (lg : Bool) (bs : List Int) (ts : List (Int × Bool)) (w : World) (hT : SegL B lg w a bs ts) (hn : 4096 < n) :
    Calls Tryd.prog 47 #[.pointer (some ⟨a, 0, none⟩), x, .slice bo n c] w fun e w' => e = .returned (.int .i64 92) ∧ w' = w := by
  obtain ⟨g, cap, tv, h1, h3⟩ := hT
  have hM := made_yes a w ((obj_cell h1.obj 0).trans rfl)
  have hI : (4096 : Int) < (n : Int) := by omega
  clear h1 h3
  go_enter Tryd.func47, Tryd.ntmps47
  go_wp2_with (first
    | (go_at_call 24; with_reducible refine hM.mono ?_; rintro e wq ⟨rfl, hq⟩; subst wq)
    | fail)
  go_ret
  exact ⟨rfl, rfl⟩
theorem write_l (B a x cap : Nat) (bo : Option Addr) (lg : Bool) (bs zs : List Int) (ts : List (Int × Bool)) (w : World) (hT : SegL B lg w a bs ts) (hB : B ≤ w.heap.size) (hx : x < 4294967296) (hn : zs.length ≤ 4096) (hc : zs.length ≤ cap) (hwf : ∀ z ∈ zs, 0 ≤ z ∧ z ≤ 255) (hr : Reads w bo zs B) :
    Calls Tryd.prog 47 #[.pointer (some ⟨a, 0, none⟩), .int .u32 x, .slice bo zs.length cap] w fun e w' => e = .returned (.int .i64 0) ∧ SegL B lg w' a (wrL bs x zs) (lgL lg ts (tcs x zs.length bs.length true)) ∧ Below B w w' := by
  obtain ⟨g, cp, tv, h1, h3⟩ := hT
  by_cases h0 : 0 < zs.length
  · obtain ⟨b, off, rfl, hlt, hcell⟩ := hr h0
    exact (write_m lg (note_W lg) a g cp x cap b off (some ⟨b, off, none⟩) bs zs tv ts w h1 hx hn hc hwf (fun _ => ⟨rfl, by omega, hcell⟩) (fun hF => by have := h3 b hF; omega)).mono fun e w' ⟨he, p, hk⟩ => ⟨he, segl_after h3 hB p hk⟩
  · exact (write_m lg (note_W lg) a g cp x cap w.heap.size 0 bo bs zs tv ts w h1 hx hn hc hwf (fun h => absurd h h0) (fun hF => by have := h1.lt _ hF; omega)).mono fun e w' ⟨he, p, hk⟩ => ⟨he, segl_after h3 hB p hk⟩
theorem log_l (B a : Nat) (lg on : Bool) (bs : List Int) (ts : List (Int × Bool)) (w : World) (hT : SegL B lg w a bs ts) (hB : B ≤ w.heap.size) :
    Calls Tryd.prog 8 #[.pointer (some ⟨a, 0, none⟩), .bool on] w fun e w' => e = .returned (.tuple #[]) ∧ SegL B on w' a bs [] ∧ Below B w w' := by
  obtain ⟨g, cap, tv, h1, h3⟩ := hT
  refine (log_any a g cap bs lg on tv ts w h1).mono fun e w' ⟨he, p, hk⟩ => ⟨he, ⟨g, cap, _, p, ?_⟩, hk.below hB (fun i hi => h3 i (.inl hi))⟩
  rintro k (e | e | e)
  · exact h3 k (.inl e)
  · exact h3 k (.inr (.inl e))
  · simp [Value.ownBlock] at e
theorem touched_l (B a : Nat) (lg : Bool) (bs : List Int) (ts : List (Int × Bool)) (w : World) (hT : SegL B lg w a bs ts) (hB : B ≤ w.heap.size) :
    Calls Tryd.prog 11 #[.pointer (some ⟨a, 0, none⟩)] w fun e w' => ∃ tv, e = .returned tv ∧ SegL B lg w' a bs [] ∧ Below B w w' ∧ w'.ownsRow 0 56 2 tv ts.length (tvv ts) ∧ (∀ k, tv.ownBlock = some k → B ≤ k) := by
  obtain ⟨g, cap, tv, h1, h3⟩ := hT
  refine (touched_any a g cap bs lg tv ts w h1).mono fun e w' ⟨he, p, hl, hk⟩ => ⟨tv, he, ⟨g, cap, _, p, ?_⟩, hk.below hB (fun i hi => h3 i (.inl hi)), hl, fun k hk => h3 k (.inr (.inr hk))⟩
  rintro k (e | e | e)
  · exact h3 k (.inl e)
  · exact h3 k (.inr (.inl e))
  · simp [Value.ownBlock] at e
set_option maxHeartbeats 1000000 in
theorem bytes_m (a g cap : Nat) (bs : List Int) (lg : Bool) (tv : Value) (ts : List (Int × Bool)) (w : World) (h : MemS w a g cap bs lg tv ts) :
    Calls Tryd.prog 20 #[.pointer (some ⟨a, 0, none⟩)] w fun e w' => ∃ g c, e = .returned (.slice (some ⟨g, 0, none⟩) bs.length c) ∧ w'.ownsRow w.heap.size 5 1 (.slice (some ⟨g, 0, none⟩) bs.length c) bs.length (bv bs) ∧ Below w.heap.size w w' := by
  have hb := h.pw.bd
  have hM := made_yes a w ((obj_cell h.obj 0).trans rfl)
  have c1 : w.cell? ⟨a, 1, none⟩ = some (.slice (some ⟨g, 0, none⟩) bs.length cap) := (obj_cell h.obj 1).trans rfl
  have hC := clone_any (some ⟨g, 0, none⟩) cap bs w (by omega) (fun e => by cases e) (reads_own h.row (by simp))
  have HC : Hid (Calls Tryd.prog 53 #[.slice (some ⟨g, 0, none⟩) bs.length cap] w fun e w1 => ∃ g c, e = .returned (.slice (some ⟨g, 0, none⟩) bs.length c) ∧ Hid (w1.ownsRow w.heap.size 5 1 (.slice (some ⟨g, 0, none⟩) bs.length c) bs.length (bv bs) ∧ Below w.heap.size w w1)) := hC.mono fun e w1 ⟨v, he, ho, hb⟩ => by
    obtain ⟨g, c, rfl, _⟩ := own_form ho (by omega)
    exact ⟨g, c, he, ho, hb⟩
  clear h hC
  go_enter Tryd.func20, Tryd.ntmps20
  go_wp2_with (first
    | (go_at_call 24; with_reducible refine hM.mono ?_; rintro e wq ⟨rfl, hq⟩; subst wq)
    | (go_at_call 53; with_reducible refine HC.out.mono ?_; rintro e w1 ⟨g2, c2, rfl, HQ⟩)
    | fail)
  go_ret
  exact ⟨_, _, rfl, HQ.out.1, HQ.out.2⟩
theorem bytes_l (B a : Nat) (lg : Bool) (bs : List Int) (ts : List (Int × Bool)) (w : World) (hT : SegL B lg w a bs ts) :
    Calls Tryd.prog 20 #[.pointer (some ⟨a, 0, none⟩)] w fun e w' => ∃ g c, e = .returned (.slice (some ⟨g, 0, none⟩) bs.length c) ∧ w'.ownsRow w.heap.size 5 1 (.slice (some ⟨g, 0, none⟩) bs.length c) bs.length (bv bs) ∧ SegL B lg w' a bs ts ∧ Below w.heap.size w w' := by
  obtain ⟨g, cap, tv, h1, h3⟩ := hT
  exact (bytes_m a g cap bs lg tv ts w h1).mono fun e w' ⟨g2, c, he, h4, h5⟩ => ⟨g2, c, he, h4, SegL.below h5 ⟨g, cap, tv, h1, h3⟩, h5⟩
end Go.Proofs.YtnjglagfpghbjaaDoor
namespace Go.Proofs.YtnjglagfpghbjaaDoor
open Go.RowKit Go.WideShapes
set_option maxRecDepth 100000

/-- a segment with its log, whose blocks are all of F -/
def SegF (F : Nat → Prop) (lg : Bool) (w : World) (a : Nat) (bs : List Int) (ts : List (Int × Bool)) : Prop := ∃ g cap tv, MemS w a g cap bs lg tv ts ∧ ∀ k, Foot a g tv k → F k
theorem SegF.kept {F S : Nat → Prop} {a : Nat} {lg : Bool} {bs : List Int} {ts : List (Int × Bool)} {w w' : World} (hk : Kp S w w') (hs : ∀ k, F k → ¬ S k) : SegF F lg w a bs ts → SegF F lg w' a bs ts := fun ⟨g, cap, tv, h1, h3⟩ =>
  ⟨g, cap, tv, h1.kept hk (fun k hF => hs k (h3 k hF)), h3⟩
theorem SegF.below {F : Nat → Prop} {a : Nat} {lg : Bool} {bs : List Int} {ts : List (Int × Bool)} {w w' : World} (hb : Below w.heap.size w w') : SegF F lg w a bs ts → SegF F lg w' a bs ts := fun ⟨g, cap, tv, h1, h3⟩ =>
  ⟨g, cap, tv, h1.kept (S := fun _ => False) (Kp.ofBelow hb) (fun _ _ h => h), h3⟩
/-- what is new may be left out -/
theorem SegF.less {F G : Nat → Prop} {a : Nat} {lg : Bool} {bs : List Int} {ts : List (Int × Bool)} {w w' : World} (hb : Below w.heap.size w w') (hG : ∀ k, k < w.heap.size → F k → G k) : SegF F lg w a bs ts → SegF G lg w' a bs ts := fun ⟨g, cap, tv, h1, h3⟩ =>
  ⟨g, cap, tv, h1.kept (S := fun _ => False) (Kp.ofBelow hb) (fun _ _ h => h), fun k hk => hG k (h1.lt k hk) (h3 k hk)⟩
theorem SegF.mono {F G : Nat → Prop} {a : Nat} {lg : Bool} {bs : List Int} {ts : List (Int × Bool)} {w : World} (hG : ∀ k, F k → G k) : SegF F lg w a bs ts → SegF G lg w a bs ts := fun ⟨g, cap, tv, h1, h3⟩ =>
  ⟨g, cap, tv, h1, fun k hk => hG k (h3 k hk)⟩
theorem SegF.len {F : Nat → Prop} {a : Nat} {lg : Bool} {bs : List Int} {ts : List (Int × Bool)} {w : World} : SegF F lg w a bs ts → Pw bs.length := fun ⟨_, _, _, h1, _⟩ => h1.pw
theorem SegF.wf {F : Nat → Prop} {a : Nat} {lg : Bool} {bs : List Int} {ts : List (Int × Bool)} {w : World} : SegF F lg w a bs ts → ∀ z ∈ bs, 0 ≤ z ∧ z ≤ 255 := fun ⟨_, _, _, h1, _⟩ => h1.wf
theorem segf_after {F : Nat → Prop} {w w' : World} {a g cap : Nat} {bs' : List Int} {lg : Bool} {tv : Value} {ts' : List (Int × Bool)} (h3 : ∀ k, Foot a g tv k → F k) (hB : ∀ k, w.heap.size ≤ k → F k)
    (p : ∃ t2, MemS w' a g cap bs' lg t2 ts' ∧ ∀ j, t2.ownBlock = some j → tv.ownBlock = some j ∨ w.heap.size ≤ j) (hk : Kp (Foot a g tv) w w') : SegF F lg w' a bs' ts' ∧ Kp F w w' := by
  obtain ⟨t2, p1, p2⟩ := p
  refine ⟨⟨g, cap, t2, p1, ?_⟩, hk.mono (fun i _ hi => h3 i hi)⟩
  rintro k (e | e | e)
  · exact h3 k (.inl e)
  · exact h3 k (.inr (.inl e))
  · rcases p2 k e with e | e
    · exact h3 k (.inr (.inr e))
    · exact hB k e
theorem load1_lf (F : Nat → Prop) (a x : Nat) (lg : Bool) (bs : List Int) (ts : List (Int × Bool)) (w : World) (hT : SegF F lg w a bs ts) (hB : ∀ k, w.heap.size ≤ k → F k) (hx : x < 4294967296) :
    Calls Tryd.prog 36 #[.pointer (some ⟨a, 0, none⟩), .int .u32 x] w fun e w' => e = .returned (.int .u32 (n4 (rdL bs x 1))) ∧ SegF F lg w' a bs (lgL lg ts (tcs x 1 bs.length false)) ∧ Kp F w w' := by
  obtain ⟨g, cap, tv, h1, h3⟩ := hT
  exact (load1_m lg (note_R lg) a g cap x bs tv ts w h1 hx).mono fun e w' ⟨he, p, hk⟩ => ⟨he, segf_after h3 hB p hk⟩
theorem store1_lf (F : Nat → Prop) (a x : Nat) (v : Int) (lg : Bool) (bs : List Int) (ts : List (Int × Bool)) (w : World) (hT : SegF F lg w a bs ts) (hB : ∀ k, w.heap.size ≤ k → F k) (hx : x < 4294967296) (hv : 0 ≤ v ∧ v < 4294967296) :
    Calls Tryd.prog 13 #[.pointer (some ⟨a, 0, none⟩), .int .u32 x, .int .u32 v] w fun e w' => e = .returned (.tuple #[]) ∧ SegF F lg w' a (wrL bs x ((by4 v).take 1)) (lgL lg ts (tcs x 1 bs.length true)) ∧ Kp F w w' := by
  obtain ⟨g, cap, tv, h1, h3⟩ := hT
  exact (store1_m lg (note_W lg) a g cap x v bs tv ts w h1 hx hv).mono fun e w' ⟨he, p, hk⟩ => ⟨he, segf_after h3 hB p hk⟩
theorem load2_lf (F : Nat → Prop) (a x : Nat) (lg : Bool) (bs : List Int) (ts : List (Int × Bool)) (w : World) (hT : SegF F lg w a bs ts) (hB : ∀ k, w.heap.size ≤ k → F k) (hx : x < 4294967296) :
    Calls Tryd.prog 38 #[.pointer (some ⟨a, 0, none⟩), .int .u32 x] w fun e w' => e = .returned (.int .u32 (n4 (rdL bs x 2))) ∧ SegF F lg w' a bs (lgL lg ts (tcs x 2 bs.length false)) ∧ Kp F w w' := by
  obtain ⟨g, cap, tv, h1, h3⟩ := hT
  exact (load2_m lg (note_R lg) a g cap x bs tv ts w h1 hx).mono fun e w' ⟨he, p, hk⟩ => ⟨he, segf_after h3 hB p hk⟩
theorem store2_lf (F : Nat → Prop) (a x : Nat) (v : Int) (lg : Bool) (bs : List Int) (ts : List (Int × Bool)) (w : World) (hT : SegF F lg w a bs ts) (hB : ∀ k, w.heap.size ≤ k → F k) (hx : x < 4294967296) (hv : 0 ≤ v ∧ v < 4294967296) :
    Calls Tryd.prog 40 #[.pointer (some ⟨a, 0, none⟩), .int .u32 x, .int .u32 v] w fun e w' => e = .returned (.tuple #[]) ∧ SegF F lg w' a (wrL bs x ((by4 v).take 2)) (lgL lg ts (tcs x 2 bs.length true)) ∧ Kp F w w' := by
  obtain ⟨g, cap, tv, h1, h3⟩ := hT
  exact (store2_m lg (note_W lg) a g cap x v bs tv ts w h1 hx hv).mono fun e w' ⟨he, p, hk⟩ => ⟨he, segf_after h3 hB p hk⟩
theorem load4_lf (F : Nat → Prop) (a x : Nat) (lg : Bool) (bs : List Int) (ts : List (Int × Bool)) (w : World) (hT : SegF F lg w a bs ts) (hB : ∀ k, w.heap.size ≤ k → F k) (hx : x < 4294967296) :
    Calls Tryd.prog 39 #[.pointer (some ⟨a, 0, none⟩), .int .u32 x] w fun e w' => e = .returned (.int .u32 (n4 (rdL bs x 4))) ∧ SegF F lg w' a bs (lgL lg ts (tcs x 4 bs.length false)) ∧ Kp F w w' := by
  obtain ⟨g, cap, tv, h1, h3⟩ := hT
  exact (load4_m lg (note_R lg) a g cap x bs tv ts w h1 hx).mono fun e w' ⟨he, p, hk⟩ => ⟨he, segf_after h3 hB p hk⟩
theorem store4_lf (F : Nat → Prop) (a x : Nat) (v : Int) (lg : Bool) (bs : List Int) (ts : List (Int × Bool)) (w : World) (hT : SegF F lg w a bs ts) (hB : ∀ k, w.heap.size ≤ k → F k) (hx : x < 4294967296) (hv : 0 ≤ v ∧ v < 4294967296) :
    Calls Tryd.prog 41 #[.pointer (some ⟨a, 0, none⟩), .int .u32 x, .int .u32 v] w fun e w' => e = .returned (.tuple #[]) ∧ SegF F lg w' a (wrL bs x ((by4 v).take 4)) (lgL lg ts (tcs x 4 bs.length true)) ∧ Kp F w w' := by
  obtain ⟨g, cap, tv, h1, h3⟩ := hT
  exact (store4_m lg (note_W lg) a g cap x v bs tv ts w h1 hx hv).mono fun e w' ⟨he, p, hk⟩ => ⟨he, segf_after h3 hB p hk⟩
theorem copy_lf (F : Nat → Prop) (a to fr n : Nat) (lg : Bool) (bs : List Int) (ts : List (Int × Bool)) (w : World) (hT : SegF F lg w a bs ts) (hB : ∀ k, w.heap.size ≤ k → F k) (ht : to < 4294967296) (hf : fr < 4294967296) (hn : n ≤ 4096) :
    Calls Tryd.prog 42 #[.pointer (some ⟨a, 0, none⟩), .int .u32 to, .int .u32 fr, .int .u32 n] w fun e w' => e = .returned (.int .i64 0) ∧ SegF F lg w' a (wrL bs to (rdL bs fr n)) (lgL lg (lgL lg ts (tcs fr n bs.length false)) (tcs to n bs.length true)) ∧ Kp F w w' := by
  obtain ⟨g, cap, tv, h1, h3⟩ := hT
  exact (copy_m lg (note_R lg) (note_W lg) a g cap to fr n bs tv ts w h1 ht hf hn).mono fun e w' ⟨he, p, hk⟩ => ⟨he, segf_after h3 hB p hk⟩
theorem copy_llf (F : Nat → Prop) (a n : Nat) (to fr : Value) (lg : Bool) (bs : List Int) (ts : List (Int × Bool)) (w : World) (hT : SegF F lg w a bs ts) (hn : 4096 < n) :
    Calls Tryd.prog 42 #[.pointer (some ⟨a, 0, none⟩), to, fr, .int .u32 n] w fun e w' => e = .returned (.int .i64 92) ∧ SegF F lg w' a bs ts ∧ Kp F w w' := by
  obtain ⟨g, cap, tv, h1, h3⟩ := hT
  refine (copy_long a n to fr w ((obj_cell h1.obj 0).trans rfl) hn).mono fun e w' ⟨he, hw⟩ => ⟨he, ?_, ?_⟩
  · rw [hw]; exact ⟨g, cap, tv, h1, h3⟩
  · rw [hw]; exact Kp.refl _ _
theorem read_lf (F : Nat → Prop) (a x n : Nat) (lg : Bool) (bs : List Int) (ts : List (Int × Bool)) (w : World) (hT : SegF F lg w a bs ts) (hB : ∀ k, w.heap.size ≤ k → F k) (hx : x < 4294967296) (hn : n ≤ 4096) :
    Calls Tryd.prog 44 #[.pointer (some ⟨a, 0, none⟩), .int .u32 x, .int .i64 n] w fun e w' => ∃ d, e = .returned (.tuple #[.slice (some ⟨d, 0, none⟩) n n, .int .i64 0]) ∧ SegF F lg w' a bs (lgL lg ts (tcs x n bs.length false)) ∧ Kp F w w' := by
  obtain ⟨g, cap, tv, h1, h3⟩ := hT
  refine (read_m lg (note_R lg) a g cap x n bs tv ts w h1 hx hn).mono fun e w' ⟨he, ⟨t2, p1, p2⟩, hk, _⟩ => ⟨_, he, segf_after h3 hB ⟨t2, p1, fun j hj => (p2 j hj).imp id (fun h => by omega)⟩ hk⟩
theorem read_badf (F : Nat → Prop) (a : Nat) (x : Value) (n : Int) (lg : Bool) (bs : List Int) (ts : List (Int × Bool)) (w : World) (hT : SegF F lg w a bs ts) (hn : n < 0 ∨ 4096 < n) :
    Calls Tryd.prog 44 #[.pointer (some ⟨a, 0, none⟩), x, .int .i64 n] w fun e w' => e = .returned (.tuple #[.slice none 0 0, .int .i64 92]) ∧ w' = w := by
  obtain ⟨g, cap, tv, h1, h3⟩ := hT
  have hM := made_yes a w ((obj_cell h1.obj 0).trans rfl)
  clear h1 h3
  rcases hn with hn | hn
  · go_enter Tryd.func44, Tryd.ntmps44
    go_wp2_with (first
      | (go_at_call 24; with_reducible refine hM.mono ?_; rintro e wq ⟨rfl, hq⟩; subst wq)
      | fail)
    go_ret2
    exact ⟨rfl, rfl⟩
  · have h0 : ¬ n < 0 := by omega
    go_enter Tryd.func44, Tryd.ntmps44
    go_wp2_with (first
      | (go_at_call 24; with_reducible refine hM.mono ?_; rintro e wq ⟨rfl, hq⟩; subst wq)
      | fail)
    go_ret2
    exact ⟨rfl, rfl⟩
theorem write_badf (F : Nat → Prop) (a n c : Nat) (x : Value) (bo : Option Addr) (lg : Bool) (bs : List Int) (ts : List (Int × Bool)) (w : World) (hT : SegF F lg w a bs ts) (hn : 4096 < n) :
    Calls Tryd.prog 47 #[.pointer (some ⟨a, 0, none⟩), x, .slice bo n c] w fun e w' => e = .returned (.int .i64 92) ∧ w' = w := by
  obtain ⟨g, cap, tv, h1, h3⟩ := hT
  have hM := made_yes a w ((obj_cell h1.obj 0).trans rfl)
  have hI : (4096 : Int) < (n : Int) := by omega
  clear h1 h3
  go_enter Tryd.func47, Tryd.ntmps47
  go_wp2_with (first
    | (go_at_call 24; with_reducible refine hM.mono ?_; rintro e wq ⟨rfl, hq⟩; subst wq)
    | fail)
  go_ret
  exact ⟨rfl, rfl⟩
theorem write_lf (F : Nat → Prop) (a x cap : Nat) (bo : Option Addr) (lg : Bool) (bs zs : List Int) (ts : List (Int × Bool)) (w : World) (hT : SegF F lg w a bs ts) (hB : ∀ k, w.heap.size ≤ k → F k) (hx : x < 4294967296) (hn : zs.length ≤ 4096) (hc : zs.length ≤ cap) (hwf : ∀ z ∈ zs, 0 ≤ z ∧ z ≤ 255) (hr : Reads w bo zs w.heap.size) (hR : ∀ b off, 0 < zs.length → bo = some ⟨b, off, none⟩ → ¬ F b) :
    Calls Tryd.prog 47 #[.pointer (some ⟨a, 0, none⟩), .int .u32 x, .slice bo zs.length cap] w fun e w' => e = .returned (.int .i64 0) ∧ SegF F lg w' a (wrL bs x zs) (lgL lg ts (tcs x zs.length bs.length true)) ∧ Kp F w w' := by
  obtain ⟨g, cp, tv, h1, h3⟩ := hT
  by_cases h0 : 0 < zs.length
  · obtain ⟨b, off, rfl, hlt, hcell⟩ := hr h0
    exact (write_m lg (note_W lg) a g cp x cap b off (some ⟨b, off, none⟩) bs zs tv ts w h1 hx hn hc hwf (fun _ => ⟨rfl, hlt, hcell⟩) (fun hF => hR b off h0 rfl (h3 b hF))).mono fun e w' ⟨he, p, hk⟩ => ⟨he, segf_after h3 hB p hk⟩
  · exact (write_m lg (note_W lg) a g cp x cap w.heap.size 0 bo bs zs tv ts w h1 hx hn hc hwf (fun h => absurd h h0) (fun hF => by have := h1.lt _ hF; omega)).mono fun e w' ⟨he, p, hk⟩ => ⟨he, segf_after h3 hB p hk⟩
theorem log_lf (F : Nat → Prop) (a : Nat) (lg on : Bool) (bs : List Int) (ts : List (Int × Bool)) (w : World) (hT : SegF F lg w a bs ts) (_hB : ∀ k, w.heap.size ≤ k → F k) :
    Calls Tryd.prog 8 #[.pointer (some ⟨a, 0, none⟩), .bool on] w fun e w' => e = .returned (.tuple #[]) ∧ SegF F on w' a bs [] ∧ Kp F w w' := by
  obtain ⟨g, cap, tv, h1, h3⟩ := hT
  refine (log_any a g cap bs lg on tv ts w h1).mono fun e w' ⟨he, p, hk⟩ => ⟨he, ⟨g, cap, _, p, ?_⟩, hk.mono (fun i _ hi => h3 i (.inl hi))⟩
  rintro k (e | e | e)
  · exact h3 k (.inl e)
  · exact h3 k (.inr (.inl e))
  · simp [Value.ownBlock] at e
theorem touched_lf (F : Nat → Prop) (a : Nat) (lg : Bool) (bs : List Int) (ts : List (Int × Bool)) (w : World) (hT : SegF F lg w a bs ts) (_hB : ∀ k, w.heap.size ≤ k → F k) :
    Calls Tryd.prog 11 #[.pointer (some ⟨a, 0, none⟩)] w fun e w' => ∃ tv, e = .returned tv ∧ SegF F lg w' a bs [] ∧ Kp F w w' ∧ w'.ownsRow 0 56 2 tv ts.length (tvv ts) ∧ (∀ k, tv.ownBlock = some k → F k) := by
  obtain ⟨g, cap, tv, h1, h3⟩ := hT
  refine (touched_any a g cap bs lg tv ts w h1).mono fun e w' ⟨he, p, hl, hk⟩ => ⟨tv, he, ⟨g, cap, _, p, ?_⟩, hk.mono (fun i _ hi => h3 i (.inl hi)), hl, fun k hk => h3 k (.inr (.inr hk))⟩
  rintro k (e | e | e)
  · exact h3 k (.inl e)
  · exact h3 k (.inr (.inl e))
  · simp [Value.ownBlock] at e
theorem bytes_lf (F : Nat → Prop) (a : Nat) (lg : Bool) (bs : List Int) (ts : List (Int × Bool)) (w : World) (hT : SegF F lg w a bs ts) :
    Calls Tryd.prog 20 #[.pointer (some ⟨a, 0, none⟩)] w fun e w' => ∃ g c, e = .returned (.slice (some ⟨g, 0, none⟩) bs.length c) ∧ w'.ownsRow w.heap.size 5 1 (.slice (some ⟨g, 0, none⟩) bs.length c) bs.length (bv bs) ∧ SegF F lg w' a bs ts ∧ Below w.heap.size w w' := by
  obtain ⟨g, cap, tv, h1, h3⟩ := hT
  exact (bytes_m a g cap bs lg tv ts w h1).mono fun e w' ⟨g2, c, he, h4, h5⟩ => ⟨g2, c, he, h4, SegF.below h5 ⟨g, cap, tv, h1, h3⟩, h5⟩
end Go.Proofs.YtnjglagfpghbjaaDoor
namespace Go.Proofs.YtnjglagfpghbjaaDoor
open Go.RowKit Go.WideShapes
set_option maxRecDepth 100000

/-- a segment that is none -/
def NotMade (p : Value) (w : World) : Prop := Calls Tryd.prog 24 #[p] w fun e w' => e = .returned (.bool false) ∧ w' = w
theorem nst (p : Value) (x0 : Int) (x1 : Int) (x2 : Int) (w : World) (hM : NotMade p w) : Calls Tryd.prog 25 #[p, (.int .u32 x0), (.int .u32 x1), (.int .i64 x2)] w fun e w' => e = .returned (.tuple #[]) ∧ w' = w := by
  have hI : Calls Tryd.prog 24 #[p] w fun e w' => e = .returned (.bool false) ∧ w' = w := hM
  clear hM
  go_enter Tryd.func25, Tryd.ntmps25
  go_wp2_with (first
    | (go_at_call 24; with_reducible refine hI.mono ?_; rintro e wq ⟨rfl, hq⟩; subst wq)
    | fail)
  refine bodyPost_ret (results_none rfl _ _ _) rfl ?_
  exact ⟨rfl, rfl⟩
theorem nst1 (p : Value) (x0 : Int) (x1 : Int) (w : World) (hM : NotMade p w) : Calls Tryd.prog 13 #[p, (.int .u32 x0), (.int .u32 x1)] w fun e w' => e = .returned (.tuple #[]) ∧ w' = w := by
  have hI := nst p x0 x1 1 w hM
  clear hM
  go_enter Tryd.func13, Tryd.ntmps13
  go_wp2_with (first
    | (go_at_call 25; with_reducible refine hI.mono ?_; rintro e wq ⟨rfl, hq⟩; subst wq)
    | fail)
  go_end0
  exact ⟨rfl, rfl⟩
theorem nst2 (p : Value) (x0 : Int) (x1 : Int) (w : World) (hM : NotMade p w) : Calls Tryd.prog 40 #[p, (.int .u32 x0), (.int .u32 x1)] w fun e w' => e = .returned (.tuple #[]) ∧ w' = w := by
  have hI := nst p x0 x1 2 w hM
  clear hM
  go_enter Tryd.func40, Tryd.ntmps40
  go_wp2_with (first
    | (go_at_call 25; with_reducible refine hI.mono ?_; rintro e wq ⟨rfl, hq⟩; subst wq)
    | fail)
  go_end0
  exact ⟨rfl, rfl⟩
theorem nst4 (p : Value) (x0 : Int) (x1 : Int) (w : World) (hM : NotMade p w) : Calls Tryd.prog 41 #[p, (.int .u32 x0), (.int .u32 x1)] w fun e w' => e = .returned (.tuple #[]) ∧ w' = w := by
  have hI := nst p x0 x1 4 w hM
  clear hM
  go_enter Tryd.func41, Tryd.ntmps41
  go_wp2_with (first
    | (go_at_call 25; with_reducible refine hI.mono ?_; rintro e wq ⟨rfl, hq⟩; subst wq)
    | fail)
  go_end0
  exact ⟨rfl, rfl⟩
theorem nld (p : Value) (x0 : Int) (x1 : Int) (w : World) (hM : NotMade p w) : Calls Tryd.prog 61 #[p, (.int .u32 x0), (.int .i64 x1)] w fun e w' => e = .returned (.int .u32 0) ∧ w' = w := by
  have hI : Calls Tryd.prog 24 #[p] w fun e w' => e = .returned (.bool false) ∧ w' = w := hM
  clear hM
  go_enter Tryd.func61, Tryd.ntmps61
  go_wp2_with (first
    | (go_at_call 24; with_reducible refine hI.mono ?_; rintro e wq ⟨rfl, hq⟩; subst wq)
    | fail)
  go_ret
  exact ⟨rfl, rfl⟩
theorem nld1 (p : Value) (x0 : Int) (w : World) (hM : NotMade p w) : Calls Tryd.prog 36 #[p, (.int .u32 x0)] w fun e w' => e = .returned (.int .u32 0) ∧ w' = w := by
  have hI := nld p x0 1 w hM
  clear hM
  go_enter Tryd.func36, Tryd.ntmps36
  go_wp2_with (first
    | (go_at_call 61; with_reducible refine hI.mono ?_; rintro e wq ⟨rfl, hq⟩; subst wq)
    | fail)
  go_ret
  exact ⟨rfl, rfl⟩
theorem nld2 (p : Value) (x0 : Int) (w : World) (hM : NotMade p w) : Calls Tryd.prog 38 #[p, (.int .u32 x0)] w fun e w' => e = .returned (.int .u32 0) ∧ w' = w := by
  have hI := nld p x0 2 w hM
  clear hM
  go_enter Tryd.func38, Tryd.ntmps38
  go_wp2_with (first
    | (go_at_call 61; with_reducible refine hI.mono ?_; rintro e wq ⟨rfl, hq⟩; subst wq)
    | fail)
  go_ret
  exact ⟨rfl, rfl⟩
theorem nld4 (p : Value) (x0 : Int) (w : World) (hM : NotMade p w) : Calls Tryd.prog 39 #[p, (.int .u32 x0)] w fun e w' => e = .returned (.int .u32 0) ∧ w' = w := by
  have hI := nld p x0 4 w hM
  clear hM
  go_enter Tryd.func39, Tryd.ntmps39
  go_wp2_with (first
    | (go_at_call 61; with_reducible refine hI.mono ?_; rintro e wq ⟨rfl, hq⟩; subst wq)
    | fail)
  go_ret
  exact ⟨rfl, rfl⟩
theorem nbits (p : Value) (w : World) (hM : NotMade p w) : Calls Tryd.prog 51 #[p] w fun e w' => e = .returned (.int .i64 0) ∧ w' = w := by
  have hI : Calls Tryd.prog 24 #[p] w fun e w' => e = .returned (.bool false) ∧ w' = w := hM
  clear hM
  go_enter Tryd.func51, Tryd.ntmps51
  go_wp2_with (first
    | (go_at_call 24; with_reducible refine hI.mono ?_; rintro e wq ⟨rfl, hq⟩; subst wq)
    | fail)
  go_ret
  exact ⟨rfl, rfl⟩
theorem ncopy (p : Value) (x0 : Int) (x1 : Int) (x2 : Int) (w : World) (hM : NotMade p w) : Calls Tryd.prog 42 #[p, (.int .u32 x0), (.int .u32 x1), (.int .u32 x2)] w fun e w' => e = .returned (.int .i64 1) ∧ w' = w := by
  have hI : Calls Tryd.prog 24 #[p] w fun e w' => e = .returned (.bool false) ∧ w' = w := hM
  clear hM
  go_enter Tryd.func42, Tryd.ntmps42
  go_wp2_with (first
    | (go_at_call 24; with_reducible refine hI.mono ?_; rintro e wq ⟨rfl, hq⟩; subst wq)
    | fail)
  go_ret
  exact ⟨rfl, rfl⟩
theorem nread (p : Value) (x0 : Int) (x1 : Int) (w : World) (hM : NotMade p w) : Calls Tryd.prog 44 #[p, (.int .u32 x0), (.int .i64 x1)] w fun e w' => e = .returned (.tuple #[.slice none 0 0, .int .i64 1]) ∧ w' = w := by
  have hI : Calls Tryd.prog 24 #[p] w fun e w' => e = .returned (.bool false) ∧ w' = w := hM
  clear hM
  go_enter Tryd.func44, Tryd.ntmps44
  go_wp2_with (first
    | (go_at_call 24; with_reducible refine hI.mono ?_; rintro e wq ⟨rfl, hq⟩; subst wq)
    | fail)
  go_ret2
  exact ⟨rfl, rfl⟩
theorem nbytes (p : Value) (w : World) (hM : NotMade p w) : Calls Tryd.prog 20 #[p] w fun e w' => e = .returned (.slice none 0 0) ∧ w' = w := by
  have hI : Calls Tryd.prog 24 #[p] w fun e w' => e = .returned (.bool false) ∧ w' = w := hM
  clear hM
  go_enter Tryd.func20, Tryd.ntmps20
  go_wp2_with (first
    | (go_at_call 24; with_reducible refine hI.mono ?_; rintro e wq ⟨rfl, hq⟩; subst wq)
    | fail)
  go_ret
  exact ⟨rfl, rfl⟩
theorem ntouch (p : Value) (w : World) (hM : NotMade p w) : Calls Tryd.prog 11 #[p] w fun e w' => e = .returned (.slice none 0 0) ∧ w' = w := by
  have hI : Calls Tryd.prog 24 #[p] w fun e w' => e = .returned (.bool false) ∧ w' = w := hM
  clear hM
  go_enter Tryd.func11, Tryd.ntmps11
  go_wp2_with (first
    | (go_at_call 24; with_reducible refine hI.mono ?_; rintro e wq ⟨rfl, hq⟩; subst wq)
    | fail)
  go_ret
  exact ⟨rfl, rfl⟩
theorem nclone (p : Value) (w : World) (hM : NotMade p w) : Calls Tryd.prog 34 #[p] w fun e w' => e = .returned (.pointer none) ∧ w' = w := by
  have hI : Calls Tryd.prog 24 #[p] w fun e w' => e = .returned (.bool false) ∧ w' = w := hM
  clear hM
  go_enter Tryd.func34, Tryd.ntmps34
  go_wp2_with (first
    | (go_at_call 24; with_reducible refine hI.mono ?_; rintro e wq ⟨rfl, hq⟩; subst wq)
    | fail)
  go_ret
  exact ⟨rfl, rfl⟩
theorem nwrite (p b : Value) (x0 : Int) (w : World) (hM : NotMade p w) : Calls Tryd.prog 47 #[p, .int .u32 x0, b] w fun e w' => e = .returned (.int .i64 1) ∧ w' = w := by
  have hI : Calls Tryd.prog 24 #[p] w fun e w' => e = .returned (.bool false) ∧ w' = w := hM
  clear hM
  go_enter Tryd.func47, Tryd.ntmps47
  go_wp2_with (first
    | (go_at_call 24; with_reducible refine hI.mono ?_; rintro e wq ⟨rfl, hq⟩; subst wq)
    | fail)
  go_ret
  exact ⟨rfl, rfl⟩
theorem nlog (p : Value) (b : Bool) (w : World) (hM : NotMade p w) : Calls Tryd.prog 8 #[p, .bool b] w fun e w' => e = .returned (.tuple #[]) ∧ w' = w := by
  have hI : Calls Tryd.prog 24 #[p] w fun e w' => e = .returned (.bool false) ∧ w' = w := hM
  clear hM
  go_enter Tryd.func8, Tryd.ntmps8
  go_wp2_with (first
    | (go_at_call 24; with_reducible refine hI.mono ?_; rintro e wq ⟨rfl, hq⟩; subst wq)
    | fail)
  refine bodyPost_ret (results_none rfl _ _ _) rfl ?_
  exact ⟨rfl, rfl⟩
theorem nsame (p q : Value) (w : World) (hM : ∀ W : World, W.heap = w.heap → NotMade p W) : Calls Tryd.prog 49 #[p, q] w fun e w' => e = .returned (.bool false) ∧ ∃ n, w' = w.drewN n := by
  have hI : ∀ n, Calls Tryd.prog 24 #[p] (w.drewN n) fun e w' => e = .returned (.bool false) ∧ w' = w.drewN n := fun n => hM (w.drewN n) rfl
  have HI := hidS hI
  clear hM hI
  go_enter Tryd.func49, Tryd.ntmps49
  go_wp2_with fail
  go_quiet (with_reducible refine Calls.quiet_of_same (HI.out _))
  go_wp2_with fail
  go_ret
  exact ⟨rfl, _, rfl⟩
end Go.Proofs.YtnjglagfpghbjaaDoor
namespace Go.Proofs.YtnjglagfpghbjaaDoor
open Go.RowKit Go.WideShapes
set_option maxRecDepth 100000

theorem conv_row {w : World} {g cap : Nat} {bs : List Int} (h : w.ownsRow 0 5 1 (.slice (some ⟨g, 0, none⟩) bs.length cap) bs.length (bv bs)) (n : Nat) :
    (convert 32 9 (.slice (some ⟨g, 0, none⟩) bs.length cap)).run Tryd.prog (w.drewN n) = .ok (.string (strOfNums bs)) (w.drewN n) := by
  refine run_convert_bytes_arg (P := Tryd.prog) (w.drewN n) 32 5 Tryd.underlying32 Tryd.underlying5 g 0 bs.length cap bs rfl (fun i hi => ?_) 9 Tryd.underlying9
  rw [Nat.zero_add]; exact own_get h hi
theorem equal_self (g cap : Nat) (bs : List Int) (w : World) (h : w.ownsRow 0 5 1 (.slice (some ⟨g, 0, none⟩) bs.length cap) bs.length (bv bs)) (k : Nat) :
    Calls Tryd.prog 64 #[.slice (some ⟨g, 0, none⟩) bs.length cap, .slice (some ⟨g, 0, none⟩) bs.length cap] (w.drewN k) fun e w' => e = .returned (.bool true) ∧ ∃ n, w' = (w.drewN k).drewN n := by
  have hc := conv_row h k
  generalize w.drewN k = w1 at *
  clear h
  go_enter Tryd.func64, Tryd.ntmps64
  go_wp2
  go_ret
  exact ⟨rfl, 0, rfl⟩
theorem same_self (B a : Nat) (bs : List Int) (w : World) (hS : Seg B w a bs) :
    Calls Tryd.prog 49 #[.pointer (some ⟨a, 0, none⟩), .pointer (some ⟨a, 0, none⟩)] w fun e w' => e = .returned (.bool true) ∧ ∃ n, w' = w.drewN n := by
  obtain ⟨g, cap, tv, ts, h, _⟩ := hS
  have c0 := (obj_cell h.obj 0).trans rfl
  have c1 : w.cell? ⟨a, 1, none⟩ = some (.slice (some ⟨g, 0, none⟩) bs.length cap) := (obj_cell h.obj 1).trans rfl
  have HM := hidS (fun n => made_yes a (w.drewN n) c0)
  have HE := hidS (equal_self g cap bs w h.row)
  clear h c0
  go_enter Tryd.func49, Tryd.ntmps49
  go_wp2_with fail
  go_quiet (first | (with_reducible refine Calls.quiet_of_same (HM.out _)) | (with_reducible refine Calls.quiet_of (HE.out _)))
  go_wp2_with fail
  go_ret
  exact ⟨rfl, _, rfl⟩
theorem same_not (B a : Nat) (q : Value) (bs : List Int) (w : World) (hS : Seg B w a bs) (hM : ∀ W : World, W.heap = w.heap → NotMade q W) :
    Calls Tryd.prog 49 #[.pointer (some ⟨a, 0, none⟩), q] w fun e w' => e = .returned (.bool false) ∧ ∃ n, w' = w.drewN n := by
  obtain ⟨g, cap, tv, ts, h, _⟩ := hS
  have c0 := (obj_cell h.obj 0).trans rfl
  have HM := hidS (fun n => made_yes a (w.drewN n) c0)
  have hN : ∀ n, Calls Tryd.prog 24 #[q] (w.drewN n) fun e w' => e = .returned (.bool false) ∧ w' = w.drewN n := fun n => hM (w.drewN n) rfl
  have HN := hidS hN
  clear h c0 hM hN
  go_enter Tryd.func49, Tryd.ntmps49
  go_wp2_with fail
  go_quiet (first | (with_reducible refine Calls.quiet_of_same (HM.out _)) | (with_reducible refine Calls.quiet_of_same (HN.out _)))
  go_wp2_with fail
  go_ret
  exact ⟨rfl, _, rfl⟩
end Go.Proofs.YtnjglagfpghbjaaDoor
namespace Go.Proofs.YtnjglagfpghbjaaDoor
open Go.RowKit Go.WideShapes
set_option maxRecDepth 100000

/-- what a log may say of two states of a segment -/
def Good (bs bs' : List Int) (ts : List (Int × Bool)) : Prop := bs'.length = bs.length ∧ (∀ t ∈ ts, 0 ≤ t.1 ∧ t.1 < (bs.length : Int)) ∧ ∀ i, i < bs.length → bs.getD i 0 ≠ bs'.getD i 0 → ((i : Int), true) ∈ ts
/-- the bytes that are told as written, laid down -/
def pat (bs' : List Int) : List Int → List (Int × Bool) → List Int
  | bs, [] => bs
  | bs, t :: ts => pat bs' (if t.2 then bs.set t.1.toNat (bs'.getD t.1.toNat 0) else bs) ts
theorem pat_len (bs' : List Int) : ∀ (ts : List (Int × Bool)) (bs : List Int), (pat bs' bs ts).length = bs.length
  | [], _ => rfl
  | t :: ts, bs => by
    rw [pat, pat_len bs' ts]
    split <;> simp
theorem pat_append (bs' : List Int) : ∀ (ts us : List (Int × Bool)) (bs : List Int), pat bs' bs (ts ++ us) = pat bs' (pat bs' bs ts) us
  | [], _, _ => rfl
  | t :: ts, us, bs => by rw [List.cons_append, pat, pat, pat_append bs' ts us]
theorem pat_get (bs' : List Int) : ∀ (ts : List (Int × Bool)) (bs : List Int) (i : Nat), bs'.length = bs.length → i < bs.length → (∀ t ∈ ts, 0 ≤ t.1) → (bs.getD i 0 = bs'.getD i 0 ∨ ((i : Int), true) ∈ ts) → (pat bs' bs ts).getD i 0 = bs'.getD i 0
  | [], bs, i, _, _, _, h => by
    rcases h with h | h
    · exact h
    · simp at h
  | t :: ts, bs, i, hl, hi, ht, h => by
    rw [pat]
    have h0 := ht t (by simp)
    refine pat_get bs' ts _ i (by split <;> simp [hl]) (by split <;> simp [hi]) (fun u hu => ht u (by simp [hu])) ?_
    by_cases e : t = ((i : Int), true)
    · left
      rw [e]
      simp [List.getD, hi]
    · rcases h with h | h
      · left
        split
        · by_cases e2 : t.1.toNat = i
          · subst e2; simp [List.getD, hi]
          · rw [← h]; simp [List.getD, e2]
        · exact h
      · right
        rcases List.mem_cons.1 h with h | h
        · exact absurd h.symm e
        · exact h
theorem good_pat {bs bs' : List Int} {ts : List (Int × Bool)} (h : Good bs bs' ts) : pat bs' bs ts = bs' := by
  obtain ⟨h1, h2, h3⟩ := h
  apply List.ext_getElem?
  intro i
  by_cases hi : i < bs.length
  · have := pat_get bs' ts bs i h1 hi (fun t ht => (h2 t ht).1) (by by_cases e : bs.getD i 0 = bs'.getD i 0; exact .inl e; exact .inr (h3 i hi e))
    have e1 : i < (pat bs' bs ts).length := by rw [pat_len]; exact hi
    have e2 : i < bs'.length := by omega
    simp only [List.getD, List.getElem?_eq_getElem e1, List.getElem?_eq_getElem e2, Option.getD_some] at this
    rw [List.getElem?_eq_getElem e1, List.getElem?_eq_getElem e2, this]
  · rw [List.getElem?_eq_none (by rw [pat_len]; omega), List.getElem?_eq_none (by omega)]
theorem good_nil (bs : List Int) : Good bs bs [] := ⟨rfl, by simp, fun i _ h => absurd rfl h⟩
theorem tcs_mem {x n N : Nat} {wr : Bool} {t : Int × Bool} (h : t ∈ tcs x n N wr) (hN : 0 < N) : 0 ≤ t.1 ∧ t.1 < (N : Int) := by
  simp only [tcs, List.mem_map] at h
  obtain ⟨i, _, rfl⟩ := h
  have := Nat.mod_lt (x + i) hN
  simp only
  omega
theorem lg_all (ts : List (Int × Bool)) (h : ts.length ≤ 65536) : lgL true [] ts = ts := by
  show (([] : List (Int × Bool)) ++ ts).take 65536 = ts
  rw [List.nil_append, List.take_of_length_le h]
theorem good_read (bs : List Int) (x n : Nat) (hn : n ≤ 65536) (hN : 0 < bs.length) : Good bs bs (lgL true [] (tcs x n bs.length false)) := by
  rw [lg_all _ (by rw [tcs_len]; exact hn)]
  exact ⟨rfl, fun t ht => tcs_mem ht hN, fun i _ h => absurd rfl h⟩
theorem wr_mem (bs zs : List Int) (x i : Nat) (h : bs.getD i 0 ≠ (wrL bs x zs).getD i 0) : ((i : Int), true) ∈ tcs x zs.length bs.length true := by
  by_cases e : ∃ j, j < zs.length ∧ (x + j) % bs.length = i
  · obtain ⟨j, hj, rfl⟩ := e
    simp only [tcs, List.mem_map, List.mem_range]
    exact ⟨j, hj, rfl⟩
  · exact absurd (wrL_out zs bs x i (fun j hj he => e ⟨j, hj, he⟩)).symm h
theorem good_write (bs zs : List Int) (x : Nat) (hn : zs.length ≤ 65536) (hN : 0 < bs.length) : Good bs (wrL bs x zs) (lgL true [] (tcs x zs.length bs.length true)) := by
  rw [lg_all _ (by rw [tcs_len]; exact hn)]
  exact ⟨wrL_len _ _ _, fun t ht => tcs_mem ht hN, fun i _ h => wr_mem bs zs x i h⟩
theorem good_copy (bs zs : List Int) (x y n : Nat) (hn : n ≤ 4096) (hz : zs.length = n) (hN : 0 < bs.length) : Good bs (wrL bs x zs) (lgL true (lgL true [] (tcs y n bs.length false)) (tcs x n bs.length true)) := by
  subst hz
  rw [lg_all _ (by rw [tcs_len]; omega)]
  have e : lgL true (tcs y zs.length bs.length false) (tcs x zs.length bs.length true) = tcs y zs.length bs.length false ++ tcs x zs.length bs.length true := by
    show (tcs y zs.length bs.length false ++ tcs x zs.length bs.length true).take 65536 = _
    rw [List.take_of_length_le (by rw [List.length_append, tcs_len, tcs_len]; omega)]
  rw [e]
  refine ⟨wrL_len _ _ _, fun t ht => ?_, fun i _ h => List.mem_append.2 (.inr (wr_mem bs zs x i h))⟩
  rcases List.mem_append.1 ht with h | h
  · exact tcs_mem h hN
  · exact tcs_mem h hN
end Go.Proofs.YtnjglagfpghbjaaDoor
namespace Go.Proofs.YtnjglagfpghbjaaDoor
open Go.RowKit Go.WideShapes
set_option maxRecDepth 100000

/-- a step that is handed in -/
structure Stp where
  d : Nat
  a : Nat
  b : Nat
  at_ : Nat
  v : Nat
  n : Int
  on : Bool
  da : Option Addr
  dc : Nat
  dz : List Int
structure StpOk (s : Stp) : Prop where
  d : s.d ≤ 255
  at_ : s.at_ < 4294967296
  v : s.v < 4294967296
  n0 : -9223372036854775808 ≤ s.n
  n1 : s.n ≤ 9223372036854775807
  dc : s.dz.length ≤ s.dc
  wf : ∀ z ∈ s.dz, 0 ≤ z ∧ z ≤ 255
theorem good_bd {F : Nat → Prop} {a : Nat} {lg : Bool} {bs : List Int} {ts : List (Int × Bool)} {w : World} (h : SegF F lg w a bs ts) : 0 < bs.length := by have := h.len.bd; omega
/-- what a call that is tried leaves behind -/
def Tried (F : Nat → Prop) (w : World) (a : Nat) (bs : List Int) (w' : World) : Prop := ∃ bs' ts, SegF F true w' a bs' ts ∧ Good bs bs' ts ∧ Kp F w w'
end Go.Proofs.YtnjglagfpghbjaaDoor
namespace Go.Proofs.YtnjglagfpghbjaaDoor
open Go.RowKit Go.WideShapes
set_option maxRecDepth 100000

/-- a step's cells from a place on -/
structure StpAt (w : World) (b o : Nat) (s : Stp) : Prop where
  c0 : w.cell? ⟨b, o, none⟩ = some (.int .u8 s.d)
  c1 : w.cell? ⟨b, o + 1, none⟩ = some (.int .u8 s.a)
  c2 : w.cell? ⟨b, o + 2, none⟩ = some (.int .u8 s.b)
  c3 : w.cell? ⟨b, o + 3, none⟩ = some (.int .u32 s.at_)
  c4 : w.cell? ⟨b, o + 4, none⟩ = some (.int .u32 s.v)
  c5 : w.cell? ⟨b, o + 5, none⟩ = some (.int .i64 s.n)
  c6 : w.cell? ⟨b, o + 6, none⟩ = some (.bool s.on)
  c7 : w.cell? ⟨b, o + 7, none⟩ = some (.slice s.da s.dz.length s.dc)
theorem StpAt.below {B : Nat} {w w' : World} {b o : Nat} {s : Stp} (h : StpAt w b o s) (hb : Below B w w') (hl : b < B) : StpAt w' b o s :=
  ⟨(hb.cell (p := ⟨b, o, none⟩) hl).trans h.c0, (hb.cell (p := ⟨b, o + 1, none⟩) hl).trans h.c1, (hb.cell (p := ⟨b, o + 2, none⟩) hl).trans h.c2, (hb.cell (p := ⟨b, o + 3, none⟩) hl).trans h.c3,
   (hb.cell (p := ⟨b, o + 4, none⟩) hl).trans h.c4, (hb.cell (p := ⟨b, o + 5, none⟩) hl).trans h.c5, (hb.cell (p := ⟨b, o + 6, none⟩) hl).trans h.c6, (hb.cell (p := ⟨b, o + 7, none⟩) hl).trans h.c7⟩
/-- a script that is read -/
def StpsR (w : World) (so : Option Addr) (L : List Stp) (B : Nat) : Prop := ∀ j (hj : j < L.length), ∃ b off, so = some ⟨b, off, none⟩ ∧ b < B ∧ StpAt w b (off + j * 8) L[j] ∧ Reads w L[j].da L[j].dz B
theorem StpsR.below {w w' : World} {so : Option Addr} {L : List Stp} {B : Nat} (h : StpsR w so L B) (hb : Below B w w') : StpsR w' so L B := fun j hj => by
  obtain ⟨b, off, e, hl, h1, h2⟩ := h j hj
  exact ⟨b, off, e, hl, h1.below hb hl, h2.below hb⟩
theorem own_cw {w : World} {B e sz n g c : Nat} {xs : List Value} (h : w.ownsRow B e sz (.slice (some ⟨g, 0, none⟩) n c) n xs) (i : Nat) (v : Value) (hv : xs[i]? = some v) : w.cell? ⟨g, i, none⟩ = some v := by
  have := h.cells (g := g) rfl i v hv
  have hadd : (⟨g, 0, none⟩ : Addr).add i = ⟨g, 0 + i, none⟩ := by unfold Addr.add; split <;> simp_all
  rw [hadd, Nat.zero_add] at this; exact this
theorem tvv_get (ts : List (Int × Bool)) (j : Nat) (h : j < ts.length) : (tvv ts)[j * 2]? = some (.int .u32 ts[j].1) ∧ (tvv ts)[j * 2 + 1]? = some (.bool ts[j].2) := by
  induction ts generalizing j with
  | nil => simp at h
  | cons t ts ih =>
    have e : tvv (t :: ts) = .int .u32 t.1 :: .bool t.2 :: tvv ts := rfl
    rw [e]
    cases j with
    | zero => exact ⟨rfl, rfl⟩
    | succ j =>
      have := ih j (by simpa using h)
      rw [show (j + 1) * 2 = j * 2 + 1 + 1 by omega]
      simpa using this
theorem pat_take (bs bs' : List Int) (ts : List (Int × Bool)) (j : Nat) (h : j < ts.length) : pat bs' bs (ts.take (j + 1)) = if ts[j].2 then (pat bs' bs (ts.take j)).set ts[j].1.toNat (bs'.getD ts[j].1.toNat 0) else pat bs' bs (ts.take j) := by
  rw [List.take_add_one, List.getElem?_eq_getElem h, Option.toList_some, pat_append]
  rfl
theorem bv_set (L : List Int) (p : Nat) (v : Int) : (bv L).set p (.int .u8 v) = bv (L.set p v) := by simp [bv, List.map_set]
end Go.Proofs.YtnjglagfpghbjaaDoor
