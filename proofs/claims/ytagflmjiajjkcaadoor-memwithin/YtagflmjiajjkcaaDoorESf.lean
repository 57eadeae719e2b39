import Derived.Test.YtagflmjiajjkcaaDoorESl
namespace Go.Proofs.YtagflmjiajjkcaaDoor
open Go.RowKit Go.WideShapes
set_option maxRecDepth 100000

/-- a segment with its log, whose blocks are all of F -/
def SegF (F : Nat → Prop) (lg : Bool) (w : World) (a : Nat) (bs : List Int) (ts : List (Int × Bool)) : Prop := ∃ g cap tv, MemS w a g cap bs lg tv ts ∧ ∀ k, Foot a g tv k → F k
theorem SegF.kept {F S : Nat → Prop} {a : Nat} {lg : Bool} {bs : List Int} {ts : List (Int × Bool)} {w w' : World} (hk : Kp S w w') (hs : ∀ k, F k → ¬ S k) : SegF F lg w a bs ts → SegF F lg w' a bs ts := fun ⟨g, cap, tv, h1, h3⟩ =>
  ⟨g, cap, tv, h1.kept hk (fun k hF => hs k (h3 k hF)), h3⟩
theorem SegF.below {F : Nat → Prop} {a : Nat} {lg : Bool} {bs : List Int} {ts : List (Int × Bool)} {w w' : World} (hb : Below w.heap.size w w') : SegF F lg w a bs ts → SegF F lg w' a bs ts := fun ⟨g, cap, tv, h1, h3⟩ =>
  ⟨g, cap, tv, h1.kept (S := fun _ => False) (Kp.ofBelow hb) (fun _ _ h => h), h3⟩
/-- what is new may be left out -/
theorem SegF.less {F G : Nat → Prop} {a : Nat} {lg : Bool} {bs : List Int} {ts : List (Int × Bool)} {w w' : World} (hb : Below w.heap.size w w') (hG : ∀ k, k < w.heap.size → F k → G k) : SegF F lg w a bs ts → SegF G lg w' a bs ts := fun ⟨g, cap, tv, h1, h3⟩ =>
  ⟨g, cap, tv, h1.kept (S := fun _ => False) (Kp.ofBelow hb) (fun _ _ h => h), fun k hk => hG k (h1.lt k hk) (h3 k hk)⟩
theorem SegF.mono {F G : Nat → Prop} {a : Nat} {lg : Bool} {bs : List Int} {ts : List (Int × Bool)} {w : World} (hG : ∀ k, F k → G k) : SegF F lg w a bs ts → SegF G lg w a bs ts := fun ⟨g, cap, tv, h1, h3⟩ =>
  ⟨g, cap, tv, h1, fun k hk => hG k (h3 k hk)⟩
theorem SegF.len {F : Nat → Prop} {a : Nat} {lg : Bool} {bs : List Int} {ts : List (Int × Bool)} {w : World} : SegF F lg w a bs ts → Pw bs.length := fun ⟨_, _, _, h1, _⟩ => h1.pw
theorem SegF.wf {F : Nat → Prop} {a : Nat} {lg : Bool} {bs : List Int} {ts : List (Int × Bool)} {w : World} : SegF F lg w a bs ts → ∀ z ∈ bs, 0 ≤ z ∧ z ≤ 255 := fun ⟨_, _, _, h1, _⟩ => h1.wf
theorem segf_after {F : Nat → Prop} {w w' : World} {a g cap : Nat} {bs' : List Int} {lg : Bool} {tv : Value} {ts' : List (Int × Bool)} (h3 : ∀ k, Foot a g tv k → F k) (hB : ∀ k, w.heap.size ≤ k → F k)
    (p : ∃ t2, MemS w' a g cap bs' lg t2 ts' ∧ ∀ j, t2.ownBlock = some j → tv.ownBlock = some j ∨ w.heap.size ≤ j) (hk : Kp (Foot a g tv) w w') : SegF F lg w' a bs' ts' ∧ Kp F w w' := by
  obtain ⟨t2, p1, p2⟩ := p
  refine ⟨⟨g, cap, t2, p1, ?_⟩, hk.mono (fun i _ hi => h3 i hi)⟩
  rintro k (e | e | e)
  · exact h3 k (.inl e)
  · exact h3 k (.inr (.inl e))
  · rcases p2 k e with e | e
    · exact h3 k (.inr (.inr e))
    · exact hB k e
theorem load1_lf (F : Nat → Prop) (a x : Nat) (lg : Bool) (bs : List Int) (ts : List (Int × Bool)) (w : World) (hT : SegF F lg w a bs ts) (hB : ∀ k, w.heap.size ≤ k → F k) (hx : x < 4294967296) :
    Calls Tryd.prog 23 #[.pointer (some ⟨a, 0, none⟩), .int .u32 x] w fun e w' => e = .returned (.int .u32 (n4 (rdL bs x 1))) ∧ SegF F lg w' a bs (lgL lg ts (tcs x 1 bs.length false)) ∧ Kp F w w' := by
  obtain ⟨g, cap, tv, h1, h3⟩ := hT
  exact (load1_m lg (note_R lg) a g cap x bs tv ts w h1 hx).mono fun e w' ⟨he, p, hk⟩ => ⟨he, segf_after h3 hB p hk⟩
theorem store1_lf (F : Nat → Prop) (a x : Nat) (v : Int) (lg : Bool) (bs : List Int) (ts : List (Int × Bool)) (w : World) (hT : SegF F lg w a bs ts) (hB : ∀ k, w.heap.size ≤ k → F k) (hx : x < 4294967296) (hv : 0 ≤ v ∧ v < 4294967296) :
    Calls Tryd.prog 14 #[.pointer (some ⟨a, 0, none⟩), .int .u32 x, .int .u32 v] w fun e w' => e = .returned (.tuple #[]) ∧ SegF F lg w' a (wrL bs x ((by4 v).take 1)) (lgL lg ts (tcs x 1 bs.length true)) ∧ Kp F w w' := by
  obtain ⟨g, cap, tv, h1, h3⟩ := hT
  exact (store1_m lg (note_W lg) a g cap x v bs tv ts w h1 hx hv).mono fun e w' ⟨he, p, hk⟩ => ⟨he, segf_after h3 hB p hk⟩
theorem load2_lf (F : Nat → Prop) (a x : Nat) (lg : Bool) (bs : List Int) (ts : List (Int × Bool)) (w : World) (hT : SegF F lg w a bs ts) (hB : ∀ k, w.heap.size ≤ k → F k) (hx : x < 4294967296) :
    Calls Tryd.prog 13 #[.pointer (some ⟨a, 0, none⟩), .int .u32 x] w fun e w' => e = .returned (.int .u32 (n4 (rdL bs x 2))) ∧ SegF F lg w' a bs (lgL lg ts (tcs x 2 bs.length false)) ∧ Kp F w w' := by
  obtain ⟨g, cap, tv, h1, h3⟩ := hT
  exact (load2_m lg (note_R lg) a g cap x bs tv ts w h1 hx).mono fun e w' ⟨he, p, hk⟩ => ⟨he, segf_after h3 hB p hk⟩
theorem store2_lf (F : Nat → Prop) (a x : Nat) (v : Int) (lg : Bool) (bs : List Int) (ts : List (Int × Bool)) (w : World) (hT : SegF F lg w a bs ts) (hB : ∀ k, w.heap.size ≤ k → F k) (hx : x < 4294967296) (hv : 0 ≤ v ∧ v < 4294967296) :
    Calls Tryd.prog 24 #[.pointer (some ⟨a, 0, none⟩), .int .u32 x, .int .u32 v] w fun e w' => e = .returned (.tuple #[]) ∧ SegF F lg w' a (wrL bs x ((by4 v).take 2)) (lgL lg ts (tcs x 2 bs.length true)) ∧ Kp F w w' := by
  obtain ⟨g, cap, tv, h1, h3⟩ := hT
  exact (store2_m lg (note_W lg) a g cap x v bs tv ts w h1 hx hv).mono fun e w' ⟨he, p, hk⟩ => ⟨he, segf_after h3 hB p hk⟩
theorem load4_lf (F : Nat → Prop) (a x : Nat) (lg : Bool) (bs : List Int) (ts : List (Int × Bool)) (w : World) (hT : SegF F lg w a bs ts) (hB : ∀ k, w.heap.size ≤ k → F k) (hx : x < 4294967296) :
    Calls Tryd.prog 11 #[.pointer (some ⟨a, 0, none⟩), .int .u32 x] w fun e w' => e = .returned (.int .u32 (n4 (rdL bs x 4))) ∧ SegF F lg w' a bs (lgL lg ts (tcs x 4 bs.length false)) ∧ Kp F w w' := by
  obtain ⟨g, cap, tv, h1, h3⟩ := hT
  exact (load4_m lg (note_R lg) a g cap x bs tv ts w h1 hx).mono fun e w' ⟨he, p, hk⟩ => ⟨he, segf_after h3 hB p hk⟩
theorem store4_lf (F : Nat → Prop) (a x : Nat) (v : Int) (lg : Bool) (bs : List Int) (ts : List (Int × Bool)) (w : World) (hT : SegF F lg w a bs ts) (hB : ∀ k, w.heap.size ≤ k → F k) (hx : x < 4294967296) (hv : 0 ≤ v ∧ v < 4294967296) :
    Calls Tryd.prog 22 #[.pointer (some ⟨a, 0, none⟩), .int .u32 x, .int .u32 v] w fun e w' => e = .returned (.tuple #[]) ∧ SegF F lg w' a (wrL bs x ((by4 v).take 4)) (lgL lg ts (tcs x 4 bs.length true)) ∧ Kp F w w' := by
  obtain ⟨g, cap, tv, h1, h3⟩ := hT
  exact (store4_m lg (note_W lg) a g cap x v bs tv ts w h1 hx hv).mono fun e w' ⟨he, p, hk⟩ => ⟨he, segf_after h3 hB p hk⟩
theorem copy_lf (F : Nat → Prop) (a to fr n : Nat) (lg : Bool) (bs : List Int) (ts : List (Int × Bool)) (w : World) (hT : SegF F lg w a bs ts) (hB : ∀ k, w.heap.size ≤ k → F k) (ht : to < 4294967296) (hf : fr < 4294967296) (hn : n ≤ 4096) :
    Calls Tryd.prog 10 #[.pointer (some ⟨a, 0, none⟩), .int .u32 to, .int .u32 fr, .int .u32 n] w fun e w' => e = .returned (.int .i64 0) ∧ SegF F lg w' a (wrL bs to (rdL bs fr n)) (lgL lg (lgL lg ts (tcs fr n bs.length false)) (tcs to n bs.length true)) ∧ Kp F w w' := by
  obtain ⟨g, cap, tv, h1, h3⟩ := hT
  exact (copy_m lg (note_R lg) (note_W lg) a g cap to fr n bs tv ts w h1 ht hf hn).mono fun e w' ⟨he, p, hk⟩ => ⟨he, segf_after h3 hB p hk⟩
theorem copy_llf (F : Nat → Prop) (a n : Nat) (to fr : Value) (lg : Bool) (bs : List Int) (ts : List (Int × Bool)) (w : World) (hT : SegF F lg w a bs ts) (hn : 4096 < n) :
    Calls Tryd.prog 10 #[.pointer (some ⟨a, 0, none⟩), to, fr, .int .u32 n] w fun e w' => e = .returned (.int .i64 92) ∧ SegF F lg w' a bs ts ∧ Kp F w w' := by
  obtain ⟨g, cap, tv, h1, h3⟩ := hT
  refine (copy_long a n to fr w ((obj_cell h1.obj 0).trans rfl) hn).mono fun e w' ⟨he, hw⟩ => ⟨he, ?_, ?_⟩
  · rw [hw]; exact ⟨g, cap, tv, h1, h3⟩
  · rw [hw]; exact Kp.refl _ _
theorem read_lf (F : Nat → Prop) (a x n : Nat) (lg : Bool) (bs : List Int) (ts : List (Int × Bool)) (w : World) (hT : SegF F lg w a bs ts) (hB : ∀ k, w.heap.size ≤ k → F k) (hx : x < 4294967296) (hn : n ≤ 4096) :
    Calls Tryd.prog 16 #[.pointer (some ⟨a, 0, none⟩), .int .u32 x, .int .i64 n] w fun e w' => ∃ d, e = .returned (.tuple #[.slice (some ⟨d, 0, none⟩) n n, .int .i64 0]) ∧ SegF F lg w' a bs (lgL lg ts (tcs x n bs.length false)) ∧ Kp F w w' := by
  obtain ⟨g, cap, tv, h1, h3⟩ := hT
  refine (read_m lg (note_R lg) a g cap x n bs tv ts w h1 hx hn).mono fun e w' ⟨he, ⟨t2, p1, p2⟩, hk, _⟩ => ⟨_, he, segf_after h3 hB ⟨t2, p1, fun j hj => (p2 j hj).imp id (fun h => by omega)⟩ hk⟩
theorem read_badf (F : Nat → Prop) (a : Nat) (x : Value) (n : Int) (lg : Bool) (bs : List Int) (ts : List (Int × Bool)) (w : World) (hT : SegF F lg w a bs ts) (hn : n < 0 ∨ 4096 < n) :
    Calls Tryd.prog 16 #[.pointer (some ⟨a, 0, none⟩), x, .int .i64 n] w fun e w' => e = .returned (.tuple #[.slice none 0 0, .int .i64 92]) ∧ w' = w := by
  obtain ⟨g, cap, tv, h1, h3⟩ := hT
  have hM := made_yes a w ((obj_cell h1.obj 0).trans rfl)
  clear h1 h3
  rcases hn with hn | hn
  · go_enter Tryd.func16, Tryd.ntmps16
    go_wp2_with (first
      | (go_at_call 30; with_reducible refine hM.mono ?_; rintro e wq ⟨rfl, hq⟩; subst wq)
      | fail)
    go_ret2
    exact ⟨rfl, rfl⟩
  · have h0 : ¬ n < 0 := by omega
    go_enter Tryd.func16, Tryd.ntmps16
    go_wp2_with (first
      | (go_at_call 30; with_reducible refine hM.mono ?_; rintro e wq ⟨rfl, hq⟩; subst wq)
      | fail)
    go_ret2
    exact ⟨rfl, rfl⟩
theorem write_badf (F : Nat → Prop) (a n c : Nat) (x : Value) (bo : Option Addr) (lg : Bool) (bs : List Int) (ts : List (Int × Bool)) (w : World) (hT : SegF F lg w a bs ts) (hn : 4096 < n) :
    Calls Tryd.prog 25 #[.pointer (some ⟨a, 0, none⟩), x, .slice bo n c] w fun e w' => e = .returned (.int .i64 92) ∧ w' = w := by
  obtain ⟨g, cap, tv, h1, h3⟩ := hT
  have hM := made_yes a w ((obj_cell h1.obj 0).trans rfl)
  have hI : (4096 : Int) < (n : Int) := by omega
  clear h1 h3
  go_enter Tryd.func25, Tryd.ntmps25
  go_wp2_with (first
    | (go_at_call 30; with_reducible refine hM.mono ?_; rintro e wq ⟨rfl, hq⟩; subst wq)
    | fail)
  go_ret
  exact ⟨rfl, rfl⟩
theorem write_lf (F : Nat → Prop) (a x cap : Nat) (bo : Option Addr) (lg : Bool) (bs zs : List Int) (ts : List (Int × Bool)) (w : World) (hT : SegF F lg w a bs ts) (hB : ∀ k, w.heap.size ≤ k → F k) (hx : x < 4294967296) (hn : zs.length ≤ 4096) (hc : zs.length ≤ cap) (hwf : ∀ z ∈ zs, 0 ≤ z ∧ z ≤ 255) (hr : Reads w bo zs w.heap.size) (hR : ∀ b off, 0 < zs.length → bo = some ⟨b, off, none⟩ → ¬ F b) :
    Calls Tryd.prog 25 #[.pointer (some ⟨a, 0, none⟩), .int .u32 x, .slice bo zs.length cap] w fun e w' => e = .returned (.int .i64 0) ∧ SegF F lg w' a (wrL bs x zs) (lgL lg ts (tcs x zs.length bs.length true)) ∧ Kp F w w' := by
  obtain ⟨g, cp, tv, h1, h3⟩ := hT
  by_cases h0 : 0 < zs.length
  · obtain ⟨b, off, rfl, hlt, hcell⟩ := hr h0
    exact (write_m lg (note_W lg) a g cp x cap b off (some ⟨b, off, none⟩) bs zs tv ts w h1 hx hn hc hwf (fun _ => ⟨rfl, hlt, hcell⟩) (fun hF => hR b off h0 rfl (h3 b hF))).mono fun e w' ⟨he, p, hk⟩ => ⟨he, segf_after h3 hB p hk⟩
  · exact (write_m lg (note_W lg) a g cp x cap w.heap.size 0 bo bs zs tv ts w h1 hx hn hc hwf (fun h => absurd h h0) (fun hF => by have := h1.lt _ hF; omega)).mono fun e w' ⟨he, p, hk⟩ => ⟨he, segf_after h3 hB p hk⟩
theorem log_lf (F : Nat → Prop) (a : Nat) (lg on : Bool) (bs : List Int) (ts : List (Int × Bool)) (w : World) (hT : SegF F lg w a bs ts) (_hB : ∀ k, w.heap.size ≤ k → F k) :
    Calls Tryd.prog 12 #[.pointer (some ⟨a, 0, none⟩), .bool on] w fun e w' => e = .returned (.tuple #[]) ∧ SegF F on w' a bs [] ∧ Kp F w w' := by
  obtain ⟨g, cap, tv, h1, h3⟩ := hT
  refine (log_any a g cap bs lg on tv ts w h1).mono fun e w' ⟨he, p, hk⟩ => ⟨he, ⟨g, cap, _, p, ?_⟩, hk.mono (fun i _ hi => h3 i (.inl hi))⟩
  rintro k (e | e | e)
  · exact h3 k (.inl e)
  · exact h3 k (.inr (.inl e))
  · simp [Value.ownBlock] at e
theorem touched_lf (F : Nat → Prop) (a : Nat) (lg : Bool) (bs : List Int) (ts : List (Int × Bool)) (w : World) (hT : SegF F lg w a bs ts) (_hB : ∀ k, w.heap.size ≤ k → F k) :
    Calls Tryd.prog 15 #[.pointer (some ⟨a, 0, none⟩)] w fun e w' => ∃ tv, e = .returned tv ∧ SegF F lg w' a bs [] ∧ Kp F w w' ∧ w'.ownsRow 0 34 2 tv ts.length (tvv ts) ∧ (∀ k, tv.ownBlock = some k → F k) := by
  obtain ⟨g, cap, tv, h1, h3⟩ := hT
  refine (touched_any a g cap bs lg tv ts w h1).mono fun e w' ⟨he, p, hl, hk⟩ => ⟨tv, he, ⟨g, cap, _, p, ?_⟩, hk.mono (fun i _ hi => h3 i (.inl hi)), hl, fun k hk => h3 k (.inr (.inr hk))⟩
  rintro k (e | e | e)
  · exact h3 k (.inl e)
  · exact h3 k (.inr (.inl e))
  · simp [Value.ownBlock] at e
theorem bytes_lf (F : Nat → Prop) (a : Nat) (lg : Bool) (bs : List Int) (ts : List (Int × Bool)) (w : World) (hT : SegF F lg w a bs ts) :
    Calls Tryd.prog 21 #[.pointer (some ⟨a, 0, none⟩)] w fun e w' => ∃ g c, e = .returned (.slice (some ⟨g, 0, none⟩) bs.length c) ∧ w'.ownsRow w.heap.size 5 1 (.slice (some ⟨g, 0, none⟩) bs.length c) bs.length (bv bs) ∧ SegF F lg w' a bs ts ∧ Below w.heap.size w w' := by
  obtain ⟨g, cap, tv, h1, h3⟩ := hT
  exact (bytes_m a g cap bs lg tv ts w h1).mono fun e w' ⟨g2, c, he, h4, h5⟩ => ⟨g2, c, he, h4, SegF.below h5 ⟨g, cap, tv, h1, h3⟩, h5⟩
end Go.Proofs.YtagflmjiajjkcaaDoor
