import Derived.Test.YtigiecodobgenaaATRf
namespace Go.Proofs.Ytigiecodobgenaa
open Go.RowKit
def agB (op p : Nat) (s : Bool) : Bool := (List.range 6).all fun i => (List.range 6).all fun j => agC op p s i j
theorem agB_iff (op p : Nat) (s : Bool) : agB op p s = true ↔ ∀ i, i < 6 → ∀ j, j < 6 → agC op p s i j = true := by
  unfold agB
  simp only [List.all_eq_true, List.mem_range]
theorem iscmp_any (op : Nat) (w : World) :
    Calls Try.prog 26 #[.int .u8 op] w fun e w' => e = .returned (.bool (hoE op == 0)) ∧ Below w.heap.size w w' := by
  have h1 : ∀ w, Calls Try.prog 9 #[.int .u8 op, .int .u32 0, .int .u32 0] w fun e w' => e = .returned (.tuple #[.bool (hoV op 0 0), .int .i64 (hoE op)]) ∧ Below w.heap.size w w' := fun w => rh_any op 0 0 w (by decide) (by decide)
  generalize hoV op 0 0 = X at *
  generalize hoE op = E at *
  have HB : Below w.heap.size w w := Below.refl _ _
  go_enter Try.func26, Try.ntmps26
  go_wp2_with (go_at_call 9; with_reducible refine (h1 _).mono ?_; rintro e wq ⟨rfl, hq⟩; replace HB : Below w.heap.size w wq := btw hq HB)
  go_ret
  exact ⟨rfl, HB⟩
set_option maxRecDepth 100000 in
set_option maxHeartbeats 2000000 in
theorem rsw_found (op v : Nat) (w : World) (hE : hoE op = 0) (hv1 : 13 ≤ v) (hv2 : v ≤ 28) (hF : ∀ p, 13 ≤ p → p < v → agB op p true = false) (hT : agB op v true = true) :
    Calls Try.prog 11 #[.int .u8 op] w fun e w' => e = .returned (.tuple #[.int .u8 v, .int .i64 0]) ∧ Below w.heap.size w w' := by
  have ci : ∀ w, Calls Try.prog 26 #[.int .u8 op] w fun e w' => e = .returned (.bool true) ∧ Below w.heap.size w w' := fun w => by
    have := iscmp_any op w
    rw [hE] at this
    exact this
  have ca : ∀ p w, Calls Try.prog 27 #[.int .u8 op, .int .u8 (p : Nat), .bool true] w fun e w' => e = .returned (.bool (agB op p true)) ∧ Below w.heap.size w w' := fun p w => agree_t op p w _ (agB_iff op p true)
  have HB : Below w.heap.size w w := Below.refl _ _
  go_enter Try.func11, Try.ntmps11
  go_wp2_with (go_at_call 26; with_reducible refine (ci _).mono ?_; rintro e w1 ⟨rfl, hq⟩; replace HB : Below w.heap.size w w1 := btw hq HB)
  go_loopw [4] (fun i wr => ∃ q : Nat, 13 ≤ q ∧ q ≤ v ∧ i = .int .u8 q ∧ Below w.heap.size w wr) (fun i _ => 30 - (intOf i).toNat)
  case atStart => exact ⟨13, by omega, by omega, rfl, HB⟩
  case round =>
    obtain ⟨q, hq1, hq2, rfl, hb⟩ := hrel
    rename World => wr
    clear HB hq
    have HB := hb
    by_cases hlt : q < v
    · have hI : (q : Int) ≤ 28 := by omega
      have cq := fun w => ca q w
      rw [hF q hq1 hlt] at cq
      have hw : IntKind.u8.wrap ((q : Int) + 1) = (q : Int) + 1 := by simp [IntKind.wrap, IntKind.signed, IntKind.bits]; omega
      go_wp2_with (go_at_call 27; with_reducible refine (cq _).mono ?_; rintro e wq ⟨rfl, hq⟩; replace HB : Below w.heap.size w wq := btw hq HB)
      go_roundw
      case rel => exact ⟨q + 1, by omega, by omega, by go_num, HB⟩
      case measure => simp [intOf]; omega
    · obtain rfl : q = v := by omega
      have hI : (q : Int) ≤ 28 := by omega
      have cq := fun w => ca q w
      rw [hT] at cq
      go_wp2_with (go_at_call 27; with_reducible refine (cq _).mono ?_; rintro e wq ⟨rfl, hq⟩; replace HB : Below w.heap.size w wq := btw hq HB)
      simp [bodyPost, results, Try.results11]
      exact HB
set_option maxRecDepth 100000 in
set_option maxHeartbeats 2000000 in
theorem rop_found (op v : Nat) (w : World) (hE : hoE op = 0) (hv1 : 13 ≤ v) (hv2 : v ≤ 28) (hF : ∀ p, 13 ≤ p → p < v → agB op p false = false) (hT : agB op v false = true) :
    Calls Try.prog 13 #[.int .u8 op] w fun e w' => e = .returned (.tuple #[.int .u8 v, .int .i64 0]) ∧ Below w.heap.size w w' := by
  have ci : ∀ w, Calls Try.prog 26 #[.int .u8 op] w fun e w' => e = .returned (.bool true) ∧ Below w.heap.size w w' := fun w => by
    have := iscmp_any op w
    rw [hE] at this
    exact this
  have ca : ∀ p w, Calls Try.prog 27 #[.int .u8 op, .int .u8 (p : Nat), .bool false] w fun e w' => e = .returned (.bool (agB op p false)) ∧ Below w.heap.size w w' := fun p w => agree_f op p w _ (agB_iff op p false)
  have HB : Below w.heap.size w w := Below.refl _ _
  go_enter Try.func13, Try.ntmps13
  go_wp2_with (go_at_call 26; with_reducible refine (ci _).mono ?_; rintro e w1 ⟨rfl, hq⟩; replace HB : Below w.heap.size w w1 := btw hq HB)
  go_loopw [4] (fun i wr => ∃ q : Nat, 13 ≤ q ∧ q ≤ v ∧ i = .int .u8 q ∧ Below w.heap.size w wr) (fun i _ => 30 - (intOf i).toNat)
  case atStart => exact ⟨13, by omega, by omega, rfl, HB⟩
  case round =>
    obtain ⟨q, hq1, hq2, rfl, hb⟩ := hrel
    rename World => wr
    clear HB hq
    have HB := hb
    by_cases hlt : q < v
    · have hI : (q : Int) ≤ 28 := by omega
      have cq := fun w => ca q w
      rw [hF q hq1 hlt] at cq
      have hw : IntKind.u8.wrap ((q : Int) + 1) = (q : Int) + 1 := by simp [IntKind.wrap, IntKind.signed, IntKind.bits]; omega
      go_wp2_with (go_at_call 27; with_reducible refine (cq _).mono ?_; rintro e wq ⟨rfl, hq⟩; replace HB : Below w.heap.size w wq := btw hq HB)
      go_roundw
      case rel => exact ⟨q + 1, by omega, by omega, by go_num, HB⟩
      case measure => simp [intOf]; omega
    · obtain rfl : q = v := by omega
      have hI : (q : Int) ≤ 28 := by omega
      have cq := fun w => ca q w
      rw [hT] at cq
      go_wp2_with (go_at_call 27; with_reducible refine (cq _).mono ?_; rintro e wq ⟨rfl, hq⟩; replace HB : Below w.heap.size w wq := btw hq HB)
      simp [bodyPost, results, Try.results13]
      exact HB
set_option maxRecDepth 100000 in
set_option maxHeartbeats 2000000 in
theorem rop_none (op : Nat) (w : World) (hE : hoE op = 0) (hF : ∀ p, 13 ≤ p → p < 29 → agB op p false = false) :
    Calls Try.prog 13 #[.int .u8 op] w fun e w' => e = .returned (.tuple #[.int .u8 0, .int .i64 62]) ∧ Below w.heap.size w w' := by
  have ci : ∀ w, Calls Try.prog 26 #[.int .u8 op] w fun e w' => e = .returned (.bool true) ∧ Below w.heap.size w w' := fun w => by
    have := iscmp_any op w
    rw [hE] at this
    exact this
  have ca : ∀ p w, Calls Try.prog 27 #[.int .u8 op, .int .u8 (p : Nat), .bool false] w fun e w' => e = .returned (.bool (agB op p false)) ∧ Below w.heap.size w w' := fun p w => agree_f op p w _ (agB_iff op p false)
  have HB : Below w.heap.size w w := Below.refl _ _
  go_enter Try.func13, Try.ntmps13
  go_wp2_with (go_at_call 26; with_reducible refine (ci _).mono ?_; rintro e w1 ⟨rfl, hq⟩; replace HB : Below w.heap.size w w1 := btw hq HB)
  go_loopw [4] (fun i wr => ∃ q : Nat, 13 ≤ q ∧ q ≤ 29 ∧ i = .int .u8 q ∧ Below w.heap.size w wr) (fun i _ => 30 - (intOf i).toNat)
  case atStart => exact ⟨13, by omega, by omega, rfl, HB⟩
  case round =>
    obtain ⟨q, hq1, hq2, rfl, hb⟩ := hrel
    rename World => wr
    clear HB hq
    have HB := hb
    by_cases hlt : q < 29
    · have hI : (q : Int) ≤ 28 := by omega
      have cq := fun w => ca q w
      rw [hF q hq1 hlt] at cq
      have hw : IntKind.u8.wrap ((q : Int) + 1) = (q : Int) + 1 := by simp [IntKind.wrap, IntKind.signed, IntKind.bits]; omega
      go_wp2_with (go_at_call 27; with_reducible refine (cq _).mono ?_; rintro e wq ⟨rfl, hq⟩; replace HB : Below w.heap.size w wq := btw hq HB)
      go_roundw
      case rel => exact ⟨q + 1, by omega, by omega, by go_num, HB⟩
      case measure => simp [intOf]; omega
    · obtain rfl : q = 29 := by omega
      go_wp2
      simp [bodyPost, results, Try.results13]
      exact HB
theorem rsw_not (op : Nat) (w : World) (hE : hoE op = 61) :
    Calls Try.prog 11 #[.int .u8 op] w fun e w' => e = .returned (.tuple #[.int .u8 0, .int .i64 61]) ∧ Below w.heap.size w w' := by
  have ci : ∀ w, Calls Try.prog 26 #[.int .u8 op] w fun e w' => e = .returned (.bool false) ∧ Below w.heap.size w w' := fun w => by
    have := iscmp_any op w
    rw [hE] at this
    exact this
  have HB : Below w.heap.size w w := Below.refl _ _
  go_enter Try.func11, Try.ntmps11
  go_wp2_with (go_at_call 26; with_reducible refine (ci _).mono ?_; rintro e w1 ⟨rfl, hq⟩; replace HB : Below w.heap.size w w1 := btw hq HB)
  simp [bodyPost, results, Try.results11]
  exact HB
theorem rop_not (op : Nat) (w : World) (hE : hoE op = 61) :
    Calls Try.prog 13 #[.int .u8 op] w fun e w' => e = .returned (.tuple #[.int .u8 0, .int .i64 61]) ∧ Below w.heap.size w w' := by
  have ci : ∀ w, Calls Try.prog 26 #[.int .u8 op] w fun e w' => e = .returned (.bool false) ∧ Below w.heap.size w w' := fun w => by
    have := iscmp_any op w
    rw [hE] at this
    exact this
  have HB : Below w.heap.size w w := Below.refl _ _
  go_enter Try.func13, Try.ntmps13
  go_wp2_with (go_at_call 26; with_reducible refine (ci _).mono ?_; rintro e w1 ⟨rfl, hq⟩; replace HB : Below w.heap.size w w1 := btw hq HB)
  simp [bodyPost, results, Try.results13]
  exact HB
def allF (op v : Nat) (s : Bool) : Bool := (List.range v).all fun p => decide (p < 13) || !agB op p s
theorem allF_use {op v : Nat} {s : Bool} (h : allF op v s = true) : ∀ p, 13 ≤ p → p < v → agB op p s = false := by
  intro p h1 h2
  unfold allF at h
  simp only [List.all_eq_true, List.mem_range] at h
  have := h p h2
  rw [decide_eq_false (by omega)] at this
  simpa using this
end Go.Proofs.Ytigiecodobgenaa
