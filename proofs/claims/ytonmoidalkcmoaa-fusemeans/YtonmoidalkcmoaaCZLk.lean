import Derived.Test.YtonmoidalkcmoaaCDRm
namespace Go.Proofs.Ytonmoidalkcmoaa
set_option maxHeartbeats 2000000
open Go.RowKit Go.WideShapes
set_option maxRecDepth 100000
theorem zheap3 (w : World) (a b c : Obj) : (((w.alloc a).alloc b).alloc c).drew.heap[w.heap.size + 1 + 1]? = some c := by
  have h : ((w.alloc a).alloc b).heap.size = w.heap.size + 1 + 1 := by simp
  rw [← h]
  exact heap_alloc_last _ c
theorem zheap3d (w : World) (a b c : Obj) : (((w.alloc a).alloc b).alloc c).drew.drew.heap[w.heap.size + 1 + 1]? = some c := zheap3 w a b c
theorem zbel3 (w : World) (a b c : Obj) : Below w.heap.size w (((w.alloc a).alloc b).alloc c) :=
  ((((Below.refl _ w).alloc (Nat.le_refl _) a).alloc (by simp) b).alloc (by simp; omega) c)
theorem zbeq (op k : Nat) : ((op : Int) == (k : Int)) = decide (op = k) := by
  by_cases h : op = k
  · subst h; simp
  · rw [decide_eq_false h, beq_eq_false_iff_ne]; omega
theorem zle (a b : Nat) : decide ((a : Int) ≤ (b : Int)) = decide (a ≤ b) := by
  by_cases h : a ≤ b
  · rw [decide_eq_true h, decide_eq_true (by omega)]
  · rw [decide_eq_false h, decide_eq_false (by omega)]
def lkAny : Lk := fun p f => ({ f with op := p.1, a := p.2 }, true)
theorem isAny_any (p : Nat × Nat) (f : Fz) (w : World) :
    Calls Try.prog 49 #[.agg #[.int .u8 (p.1 : Int), .int .u32 (p.2 : Int)], .agg (fzA f)] w fun e w' => e = .returned (.tuple #[.agg (fzA (lkAny p f).1), .bool (lkAny p f).2]) ∧ Below w.heap.size w w' := by
  obtain ⟨op, arg⟩ := p
  obtain ⟨f0, f1, f2, f3, f4, f5⟩ := f
  simp only [fzA, lkAny]
  go_enter Try.func49, Try.ntmps49
  go_wp2
  go_region
  all_goals go_wp2
  all_goals first | exact bodyPost_ret (resFzB (p := 4) (u := 5) (by kernel_rfl) _ _ (w.heap.size + 1 + 1) _ rfl (zheap3 _ _ _ _) _ rfl rfl) rfl ⟨rfl, (by (repeat with_reducible refine Below.drew ?_); exact zbel3 _ _ _ _)⟩ | exact bodyPost_ret (resFzB (p := 4) (u := 5) (by kernel_rfl) _ _ (w.heap.size + 1 + 1) _ rfl (zheap3d _ _ _ _) _ rfl rfl) rfl ⟨rfl, (by (repeat with_reducible refine Below.drew ?_); exact zbel3 _ _ _ _)⟩
theorem isLocal_any (p : Nat × Nat) (f : Fz) (w : World) :
    Calls Try.prog 41 #[.agg #[.int .u8 (p.1 : Int), .int .u32 (p.2 : Int)], .agg (fzA f)] w fun e w' => e = .returned (.tuple #[.agg (fzA (lkLocal p f).1), .bool (lkLocal p f).2]) ∧ Below w.heap.size w w' := by
  obtain ⟨op, arg⟩ := p
  obtain ⟨f0, f1, f2, f3, f4, f5⟩ := f
  simp only [fzA, lkLocal]
  go_enter Try.func41, Try.ntmps41
  go_wp2
  go_region
  all_goals go_wp2
  all_goals first | exact bodyPost_ret (resFzB (p := 4) (u := 5) (by kernel_rfl) _ _ (w.heap.size + 1 + 1) _ rfl (zheap3 _ _ _ _) _ rfl rfl) rfl ⟨(by first | rfl | exact congrArg (fun b => Ending.returned (Value.tuple #[Value.agg _, Value.bool b])) (zbeq _ _) | exact congrArg (fun b => Ending.returned (Value.tuple #[Value.agg _, Value.bool b])) (zle _ _)), (by (repeat with_reducible refine Below.drew ?_); exact zbel3 _ _ _ _)⟩ | exact bodyPost_ret (resFzB (p := 4) (u := 5) (by kernel_rfl) _ _ (w.heap.size + 1 + 1) _ rfl (zheap3d _ _ _ _) _ rfl rfl) rfl ⟨(by first | rfl | exact congrArg (fun b => Ending.returned (Value.tuple #[Value.agg _, Value.bool b])) (zbeq _ _) | exact congrArg (fun b => Ending.returned (Value.tuple #[Value.agg _, Value.bool b])) (zle _ _)), (by (repeat with_reducible refine Below.drew ?_); exact zbel3 _ _ _ _)⟩
def lkArg : Lk := fun p f => ({ f with b := p.2 }, decide (p.1 = 12))
theorem isArg_any (p : Nat × Nat) (f : Fz) (w : World) :
    Calls Try.prog 42 #[.agg #[.int .u8 (p.1 : Int), .int .u32 (p.2 : Int)], .agg (fzA f)] w fun e w' => e = .returned (.tuple #[.agg (fzA (lkArg p f).1), .bool (lkArg p f).2]) ∧ Below w.heap.size w w' := by
  obtain ⟨op, arg⟩ := p
  obtain ⟨f0, f1, f2, f3, f4, f5⟩ := f
  simp only [fzA, lkArg]
  go_enter Try.func42, Try.ntmps42
  go_wp2
  go_region
  all_goals go_wp2
  all_goals first | exact bodyPost_ret (resFzB (p := 4) (u := 5) (by kernel_rfl) _ _ (w.heap.size + 1 + 1) _ rfl (zheap3 _ _ _ _) _ rfl rfl) rfl ⟨(by first | rfl | exact congrArg (fun b => Ending.returned (Value.tuple #[Value.agg _, Value.bool b])) (zbeq _ _) | exact congrArg (fun b => Ending.returned (Value.tuple #[Value.agg _, Value.bool b])) (zle _ _)), (by (repeat with_reducible refine Below.drew ?_); exact zbel3 _ _ _ _)⟩ | exact bodyPost_ret (resFzB (p := 4) (u := 5) (by kernel_rfl) _ _ (w.heap.size + 1 + 1) _ rfl (zheap3d _ _ _ _) _ rfl rfl) rfl ⟨(by first | rfl | exact congrArg (fun b => Ending.returned (Value.tuple #[Value.agg _, Value.bool b])) (zbeq _ _) | exact congrArg (fun b => Ending.returned (Value.tuple #[Value.agg _, Value.bool b])) (zle _ _)), (by (repeat with_reducible refine Below.drew ?_); exact zbel3 _ _ _ _)⟩
def lkLoad : Lk := fun p f => ({ f with op := p.1 }, decide (29 ≤ p.1) && decide (p.1 ≤ 31))
theorem isLoad_any (p : Nat × Nat) (f : Fz) (w : World) :
    Calls Try.prog 43 #[.agg #[.int .u8 (p.1 : Int), .int .u32 (p.2 : Int)], .agg (fzA f)] w fun e w' => e = .returned (.tuple #[.agg (fzA (lkLoad p f).1), .bool (lkLoad p f).2]) ∧ Below w.heap.size w w' := by
  obtain ⟨op, arg⟩ := p
  obtain ⟨f0, f1, f2, f3, f4, f5⟩ := f
  simp only [fzA, lkLoad]
  by_cases h1 : 29 ≤ op
  · have d1 : decide ((29 : Int) ≤ (op : Int)) = true := decide_eq_true (by omega)
    have d1' : (29 : Int) ≤ (op : Int) := by omega
    rw [show decide (29 ≤ op) = true from decide_eq_true h1, Bool.true_and]
    go_enter Try.func43, Try.ntmps43
    go_wp2
    go_region
    all_goals go_wp2
    all_goals first | exact bodyPost_ret (resFzB (p := 4) (u := 5) (by kernel_rfl) _ _ (w.heap.size + 1 + 1) _ rfl (zheap3 _ _ _ _) _ rfl rfl) rfl ⟨(by first | rfl | exact congrArg (fun b => Ending.returned (Value.tuple #[Value.agg _, Value.bool b])) (zbeq _ _) | exact congrArg (fun b => Ending.returned (Value.tuple #[Value.agg _, Value.bool b])) (zle _ _)), (by (repeat with_reducible refine Below.drew ?_); exact zbel3 _ _ _ _)⟩ | exact bodyPost_ret (resFzB (p := 4) (u := 5) (by kernel_rfl) _ _ (w.heap.size + 1 + 1) _ rfl (zheap3d _ _ _ _) _ rfl rfl) rfl ⟨(by first | rfl | exact congrArg (fun b => Ending.returned (Value.tuple #[Value.agg _, Value.bool b])) (zbeq _ _) | exact congrArg (fun b => Ending.returned (Value.tuple #[Value.agg _, Value.bool b])) (zle _ _)), (by (repeat with_reducible refine Below.drew ?_); exact zbel3 _ _ _ _)⟩
  · have d1 : decide ((29 : Int) ≤ (op : Int)) = false := decide_eq_false (by omega)
    have d1' : ¬ ((29 : Int) ≤ (op : Int)) := by omega
    rw [show decide (29 ≤ op) = false from decide_eq_false h1, Bool.false_and]
    go_enter Try.func43, Try.ntmps43
    go_wp2
    go_region
    all_goals go_wp2
    all_goals first | exact bodyPost_ret (resFzB (p := 4) (u := 5) (by kernel_rfl) _ _ (w.heap.size + 1 + 1) _ rfl (zheap3 _ _ _ _) _ rfl rfl) rfl ⟨rfl, (by (repeat with_reducible refine Below.drew ?_); exact zbel3 _ _ _ _)⟩ | exact bodyPost_ret (resFzB (p := 4) (u := 5) (by kernel_rfl) _ _ (w.heap.size + 1 + 1) _ rfl (zheap3d _ _ _ _) _ rfl rfl) rfl ⟨rfl, (by (repeat with_reducible refine Below.drew ?_); exact zbel3 _ _ _ _)⟩
def lkStore : Lk := fun p f => ({ f with op := p.1 }, decide (32 ≤ p.1) && decide (p.1 ≤ 34))
theorem isStore_any (p : Nat × Nat) (f : Fz) (w : World) :
    Calls Try.prog 44 #[.agg #[.int .u8 (p.1 : Int), .int .u32 (p.2 : Int)], .agg (fzA f)] w fun e w' => e = .returned (.tuple #[.agg (fzA (lkStore p f).1), .bool (lkStore p f).2]) ∧ Below w.heap.size w w' := by
  obtain ⟨op, arg⟩ := p
  obtain ⟨f0, f1, f2, f3, f4, f5⟩ := f
  simp only [fzA, lkStore]
  by_cases h1 : 32 ≤ op
  · have d1 : decide ((32 : Int) ≤ (op : Int)) = true := decide_eq_true (by omega)
    have d1' : (32 : Int) ≤ (op : Int) := by omega
    rw [show decide (32 ≤ op) = true from decide_eq_true h1, Bool.true_and]
    go_enter Try.func44, Try.ntmps44
    go_wp2
    go_region
    all_goals go_wp2
    all_goals first | exact bodyPost_ret (resFzB (p := 4) (u := 5) (by kernel_rfl) _ _ (w.heap.size + 1 + 1) _ rfl (zheap3 _ _ _ _) _ rfl rfl) rfl ⟨(by first | rfl | exact congrArg (fun b => Ending.returned (Value.tuple #[Value.agg _, Value.bool b])) (zbeq _ _) | exact congrArg (fun b => Ending.returned (Value.tuple #[Value.agg _, Value.bool b])) (zle _ _)), (by (repeat with_reducible refine Below.drew ?_); exact zbel3 _ _ _ _)⟩ | exact bodyPost_ret (resFzB (p := 4) (u := 5) (by kernel_rfl) _ _ (w.heap.size + 1 + 1) _ rfl (zheap3d _ _ _ _) _ rfl rfl) rfl ⟨(by first | rfl | exact congrArg (fun b => Ending.returned (Value.tuple #[Value.agg _, Value.bool b])) (zbeq _ _) | exact congrArg (fun b => Ending.returned (Value.tuple #[Value.agg _, Value.bool b])) (zle _ _)), (by (repeat with_reducible refine Below.drew ?_); exact zbel3 _ _ _ _)⟩
  · have d1 : decide ((32 : Int) ≤ (op : Int)) = false := decide_eq_false (by omega)
    have d1' : ¬ ((32 : Int) ≤ (op : Int)) := by omega
    rw [show decide (32 ≤ op) = false from decide_eq_false h1, Bool.false_and]
    go_enter Try.func44, Try.ntmps44
    go_wp2
    go_region
    all_goals go_wp2
    all_goals first | exact bodyPost_ret (resFzB (p := 4) (u := 5) (by kernel_rfl) _ _ (w.heap.size + 1 + 1) _ rfl (zheap3 _ _ _ _) _ rfl rfl) rfl ⟨rfl, (by (repeat with_reducible refine Below.drew ?_); exact zbel3 _ _ _ _)⟩ | exact bodyPost_ret (resFzB (p := 4) (u := 5) (by kernel_rfl) _ _ (w.heap.size + 1 + 1) _ rfl (zheap3d _ _ _ _) _ rfl rfl) rfl ⟨rfl, (by (repeat with_reducible refine Below.drew ?_); exact zbel3 _ _ _ _)⟩
def lkCmp : Lk := fun p f => ({ f with op := p.1, b := p.2 }, decide (13 ≤ p.1) && decide (p.1 ≤ 28))
theorem isComparison_any (p : Nat × Nat) (f : Fz) (w : World) :
    Calls Try.prog 47 #[.agg #[.int .u8 (p.1 : Int), .int .u32 (p.2 : Int)], .agg (fzA f)] w fun e w' => e = .returned (.tuple #[.agg (fzA (lkCmp p f).1), .bool (lkCmp p f).2]) ∧ Below w.heap.size w w' := by
  obtain ⟨op, arg⟩ := p
  obtain ⟨f0, f1, f2, f3, f4, f5⟩ := f
  simp only [fzA, lkCmp]
  by_cases h1 : 13 ≤ op
  · have d1 : decide ((13 : Int) ≤ (op : Int)) = true := decide_eq_true (by omega)
    have d1' : (13 : Int) ≤ (op : Int) := by omega
    rw [show decide (13 ≤ op) = true from decide_eq_true h1, Bool.true_and]
    go_enter Try.func47, Try.ntmps47
    go_wp2
    go_region
    all_goals go_wp2
    go_region
    all_goals go_wp2
    all_goals first | exact bodyPost_ret (resFzB (p := 4) (u := 5) (by kernel_rfl) _ _ (w.heap.size + 1 + 1) _ rfl (zheap3 _ _ _ _) _ rfl rfl) rfl ⟨(by first | rfl | exact congrArg (fun b => Ending.returned (Value.tuple #[Value.agg _, Value.bool b])) (zbeq _ _) | exact congrArg (fun b => Ending.returned (Value.tuple #[Value.agg _, Value.bool b])) (zle _ _)), (by (repeat with_reducible refine Below.drew ?_); exact zbel3 _ _ _ _)⟩ | exact bodyPost_ret (resFzB (p := 4) (u := 5) (by kernel_rfl) _ _ (w.heap.size + 1 + 1) _ rfl (zheap3d _ _ _ _) _ rfl rfl) rfl ⟨(by first | rfl | exact congrArg (fun b => Ending.returned (Value.tuple #[Value.agg _, Value.bool b])) (zbeq _ _) | exact congrArg (fun b => Ending.returned (Value.tuple #[Value.agg _, Value.bool b])) (zle _ _)), (by (repeat with_reducible refine Below.drew ?_); exact zbel3 _ _ _ _)⟩
  · have d1 : decide ((13 : Int) ≤ (op : Int)) = false := decide_eq_false (by omega)
    have d1' : ¬ ((13 : Int) ≤ (op : Int)) := by omega
    rw [show decide (13 ≤ op) = false from decide_eq_false h1, Bool.false_and]
    go_enter Try.func47, Try.ntmps47
    go_wp2
    go_region
    all_goals go_wp2
    go_region
    all_goals go_wp2
    all_goals first | exact bodyPost_ret (resFzB (p := 4) (u := 5) (by kernel_rfl) _ _ (w.heap.size + 1 + 1) _ rfl (zheap3 _ _ _ _) _ rfl rfl) rfl ⟨rfl, (by (repeat with_reducible refine Below.drew ?_); exact zbel3 _ _ _ _)⟩ | exact bodyPost_ret (resFzB (p := 4) (u := 5) (by kernel_rfl) _ _ (w.heap.size + 1 + 1) _ rfl (zheap3d _ _ _ _) _ rfl rfl) rfl ⟨rfl, (by (repeat with_reducible refine Below.drew ?_); exact zbel3 _ _ _ _)⟩
def lkSame : Lk := fun p f => (f, decide (p.1 = 9) && decide (p.2 = f.a))
theorem isSameLocal_any (p : Nat × Nat) (f : Fz) (w : World) :
    Calls Try.prog 51 #[.agg #[.int .u8 (p.1 : Int), .int .u32 (p.2 : Int)], .agg (fzA f)] w fun e w' => e = .returned (.tuple #[.agg (fzA (lkSame p f).1), .bool (lkSame p f).2]) ∧ Below w.heap.size w w' := by
  obtain ⟨op, arg⟩ := p
  obtain ⟨f0, f1, f2, f3, f4, f5⟩ := f
  simp only [fzA, lkSame]
  by_cases h1 : op = 9
  · have d1 : ((op : Int) == 9) = true := (zbeq op 9).trans (decide_eq_true (by omega))
    have d1' : (op : Int) = 9 := by omega
    rw [show decide (op = 9) = true from decide_eq_true h1, Bool.true_and]
    go_enter Try.func51, Try.ntmps51
    go_wp2
    go_region
    all_goals go_wp2
    all_goals first | exact bodyPost_ret (resFzB (p := 4) (u := 5) (by kernel_rfl) _ _ (w.heap.size + 1 + 1) _ rfl (zheap3 _ _ _ _) _ rfl rfl) rfl ⟨(by first | rfl | exact congrArg (fun b => Ending.returned (Value.tuple #[Value.agg _, Value.bool b])) (zbeq _ _) | exact congrArg (fun b => Ending.returned (Value.tuple #[Value.agg _, Value.bool b])) (zle _ _)), (by (repeat with_reducible refine Below.drew ?_); exact zbel3 _ _ _ _)⟩ | exact bodyPost_ret (resFzB (p := 4) (u := 5) (by kernel_rfl) _ _ (w.heap.size + 1 + 1) _ rfl (zheap3d _ _ _ _) _ rfl rfl) rfl ⟨(by first | rfl | exact congrArg (fun b => Ending.returned (Value.tuple #[Value.agg _, Value.bool b])) (zbeq _ _) | exact congrArg (fun b => Ending.returned (Value.tuple #[Value.agg _, Value.bool b])) (zle _ _)), (by (repeat with_reducible refine Below.drew ?_); exact zbel3 _ _ _ _)⟩
  · have d1 : ((op : Int) == 9) = false := (zbeq op 9).trans (decide_eq_false (by omega))
    have d1' : ¬ ((op : Int) = 9) := by omega
    rw [show decide (op = 9) = false from decide_eq_false h1, Bool.false_and]
    go_enter Try.func51, Try.ntmps51
    go_wp2
    go_region
    all_goals go_wp2
    all_goals first | exact bodyPost_ret (resFzB (p := 4) (u := 5) (by kernel_rfl) _ _ (w.heap.size + 1 + 1) _ rfl (zheap3 _ _ _ _) _ rfl rfl) rfl ⟨rfl, (by (repeat with_reducible refine Below.drew ?_); exact zbel3 _ _ _ _)⟩ | exact bodyPost_ret (resFzB (p := 4) (u := 5) (by kernel_rfl) _ _ (w.heap.size + 1 + 1) _ rfl (zheap3d _ _ _ _) _ rfl rfl) rfl ⟨rfl, (by (repeat with_reducible refine Below.drew ?_); exact zbel3 _ _ _ _)⟩
end Go.Proofs.Ytonmoidalkcmoaa
