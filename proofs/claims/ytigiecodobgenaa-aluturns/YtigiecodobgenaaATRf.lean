import Derived.Test.YtigiecodobgenaaAHRf
import Derived.Test.YtigiecodobgenaaATurB
namespace Go.Proofs.Ytigiecodobgenaa
open Go.RowKit
/-- the document's samples -/
def sm (i : Nat) : Nat := if i = 0 then 0 else if i = 1 then 1065353216 else if i = 2 then 3212836864 else if i = 3 then 3221225472 else if i = 4 then 2147483648 else 2143289344
theorem sm_lt (i : Nat) : sm i < 4294967296 := by unfold sm; repeat (first | (split <;> first | omega | skip))
theorem sample_any (i : Nat) (w : World) (hi : i < 6) :
    Calls Try.prog 39 #[.int .i64 i] w fun e w' => e = .returned (.int .u32 (sm i)) ∧ w' = w := by
  have h : i = 0 ∨ i = 1 ∨ i = 2 ∨ i = 3 ∨ i = 4 ∨ i = 5 := by omega
  rcases h with rfl | rfl | rfl | rfl | rfl | rfl
  all_goals (go_enter Try.func39, Try.ntmps39)
  all_goals go_wp2
  all_goals (go_ret; exact ⟨rfl, rfl⟩)
def agC (op p : Nat) (s : Bool) (i j : Nat) : Bool := if s then hoV op (sm i) (sm j) == hoV p (sm j) (sm i) else hoV op (sm i) (sm j) != hoV p (sm i) (sm j)
theorem lt_step {P : Nat → Prop} {m : Nat} (h : ∀ j, j < m → P j) (hm : P m) : ∀ j, j < m + 1 → P j := fun j hj => by
  by_cases e : j = m
  · exact e ▸ hm
  · exact h j (by omega)
theorem fal_of {R : Bool} {P : Nat → Nat → Bool} {k m : Nat} (hR : R = true ↔ ∀ i, i < 6 → ∀ j, j < 6 → P i j = true) (hk : k < 6) (hm : m < 6) (h : P k m = false) : R = false := by
  cases R with
  | false => rfl
  | true => rw [hR.1 rfl k hk m hm] at h; cases h
set_option maxRecDepth 100000 in
set_option maxHeartbeats 4000000 in
theorem agree_t (op p : Nat) (w : World) (R : Bool) (hR : R = true ↔ ∀ i, i < 6 → ∀ j, j < 6 → agC op p true i j = true) :
    Calls Try.prog 27 #[.int .u8 op, .int .u8 p, .bool true] w fun e w' => e = .returned (.bool R) ∧ Below w.heap.size w w' := by
  have HR : Hid (R = true ↔ ∀ i, i < 6 → ∀ j, j < 6 → agC op p true i j = true) := hR
  clear hR
  go_enter Try.func27, Try.ntmps27
  go_wp2
  go_loopw [7, 8, 9, 10, 11, 12] (fun i _ _ _ _ _ wr => ∃ k : Nat, k ≤ 6 ∧ i = .int .i64 k ∧ Hid (∀ i, i < k → ∀ j, j < 6 → agC op p true i j = true) ∧ Below w.heap.size w wr) (fun i _ _ _ _ _ _ => 6 - (intOf i).toNat)
  case atStart => exact ⟨0, by omega, rfl, (fun i h => by omega), Below.refl _ _⟩
  case round =>
    obtain ⟨k, hk, rfl, HK, hb⟩ := hrel
    rename World => wr
    by_cases hlt : k < 6
    · have hltI : (k : Int) < 6 := by omega
      go_wp2
      go_loopw [8, 9, 10, 11, 12] (fun j _ _ _ _ wr => ∃ m : Nat, m ≤ 6 ∧ j = .int .i64 m ∧ Hid (∀ j, j < m → agC op p true k j = true) ∧ Below w.heap.size w wr) (fun j _ _ _ _ _ => 6 - (intOf j).toNat)
      case atStart => exact ⟨0, by omega, rfl, (fun j h => by omega), hb⟩
      case round =>
        obtain ⟨m, hm, rfl, HM, hb2⟩ := hrel
        rename World => wi
        by_cases hml : m < 6
        · have hmI : (m : Int) < 6 := by omega
          have ck := fun w => sample_any k w hlt
          have cm := fun w => sample_any m w hml
          have HC : Hid (agC op p true k m = (hoV op (sm k) (sm m) == hoV p (sm m) (sm k))) := rfl
          have h1 := fun w => rh_any op (sm k) (sm m) w (sm_lt k) (sm_lt m)
          have h2 := fun w => rh_any p (sm k) (sm m) w (sm_lt k) (sm_lt m)
          have h3 := fun w => rh_any p (sm m) (sm k) w (sm_lt m) (sm_lt k)
          generalize hoV op (sm k) (sm m) = X at *
          generalize hoV p (sm k) (sm m) = Y at *
          generalize hoV p (sm m) (sm k) = Z at *
          generalize hoE op = E1 at *
          generalize hoE p = E2 at *
          generalize sm k = A at *
          generalize sm m = B at *
          have HB : Below w.heap.size w wi := hb2
          cases X <;> cases Z
          all_goals (go_wp2_with (first
            | (go_at_call 39; with_reducible refine (ck _).mono ?_; rintro e wq ⟨rfl, hq⟩; subst wq)
            | (go_at_call 39; with_reducible refine (cm _).mono ?_; rintro e wq ⟨rfl, hq⟩; subst wq)
            | (go_at_call 9; with_reducible refine (h1 _).mono ?_; rintro e wq ⟨rfl, hq⟩; replace HB : Below w.heap.size w wq := btw hq HB)
            | (go_at_call 9; with_reducible refine (h2 _).mono ?_; rintro e wq ⟨rfl, hq⟩; replace HB : Below w.heap.size w wq := btw hq HB)
            | (go_at_call 9; with_reducible refine (h3 _).mono ?_; rintro e wq ⟨rfl, hq⟩; replace HB : Below w.heap.size w wq := btw hq HB)))
          all_goals (first
            | (go_ret; exact ⟨by rw [fal_of HR.out hlt hml HC.out]; rfl, HB⟩)
            | (go_roundw
               case rel => exact ⟨m + 1, by omega, by go_num, lt_step HM HC.out, HB⟩
               case measure => simp [intOf]; omega))
        · obtain rfl : m = 6 := by omega
          go_wp2
          go_roundw
          case rel => exact ⟨k + 1, by omega, by go_num, lt_step HK HM, hb2⟩
          case measure => simp [intOf]; omega
    · obtain rfl : k = 6 := by omega
      go_wp2
      go_ret
      exact ⟨by rw [HR.out.2 HK]; rfl, hb⟩
set_option maxRecDepth 100000 in
set_option maxHeartbeats 4000000 in
theorem agree_f (op p : Nat) (w : World) (R : Bool) (hR : R = true ↔ ∀ i, i < 6 → ∀ j, j < 6 → agC op p false i j = true) :
    Calls Try.prog 27 #[.int .u8 op, .int .u8 p, .bool false] w fun e w' => e = .returned (.bool R) ∧ Below w.heap.size w w' := by
  have HR : Hid (R = true ↔ ∀ i, i < 6 → ∀ j, j < 6 → agC op p false i j = true) := hR
  clear hR
  go_enter Try.func27, Try.ntmps27
  go_wp2
  go_loopw [7, 8, 9, 10, 11, 12] (fun i _ _ _ _ _ wr => ∃ k : Nat, k ≤ 6 ∧ i = .int .i64 k ∧ Hid (∀ i, i < k → ∀ j, j < 6 → agC op p false i j = true) ∧ Below w.heap.size w wr) (fun i _ _ _ _ _ _ => 6 - (intOf i).toNat)
  case atStart => exact ⟨0, by omega, rfl, (fun i h => by omega), Below.refl _ _⟩
  case round =>
    obtain ⟨k, hk, rfl, HK, hb⟩ := hrel
    rename World => wr
    by_cases hlt : k < 6
    · have hltI : (k : Int) < 6 := by omega
      go_wp2
      go_loopw [8, 9, 10, 11, 12] (fun j _ _ _ _ wr => ∃ m : Nat, m ≤ 6 ∧ j = .int .i64 m ∧ Hid (∀ j, j < m → agC op p false k j = true) ∧ Below w.heap.size w wr) (fun j _ _ _ _ _ => 6 - (intOf j).toNat)
      case atStart => exact ⟨0, by omega, rfl, (fun j h => by omega), hb⟩
      case round =>
        obtain ⟨m, hm, rfl, HM, hb2⟩ := hrel
        rename World => wi
        by_cases hml : m < 6
        · have hmI : (m : Int) < 6 := by omega
          have ck := fun w => sample_any k w hlt
          have cm := fun w => sample_any m w hml
          have HC : Hid (agC op p false k m = (hoV op (sm k) (sm m) != hoV p (sm k) (sm m))) := rfl
          have h1 := fun w => rh_any op (sm k) (sm m) w (sm_lt k) (sm_lt m)
          have h2 := fun w => rh_any p (sm k) (sm m) w (sm_lt k) (sm_lt m)
          generalize hoV op (sm k) (sm m) = X at *
          generalize hoV p (sm k) (sm m) = Y at *
          generalize hoE op = E1 at *
          generalize hoE p = E2 at *
          generalize sm k = A at *
          generalize sm m = B at *
          have HB : Below w.heap.size w wi := hb2
          cases X <;> cases Y
          all_goals (go_wp2_with (first
            | (go_at_call 39; with_reducible refine (ck _).mono ?_; rintro e wq ⟨rfl, hq⟩; subst wq)
            | (go_at_call 39; with_reducible refine (cm _).mono ?_; rintro e wq ⟨rfl, hq⟩; subst wq)
            | (go_at_call 9; with_reducible refine (h1 _).mono ?_; rintro e wq ⟨rfl, hq⟩; replace HB : Below w.heap.size w wq := btw hq HB)
            | (go_at_call 9; with_reducible refine (h2 _).mono ?_; rintro e wq ⟨rfl, hq⟩; replace HB : Below w.heap.size w wq := btw hq HB)))
          all_goals (first
            | (go_ret; exact ⟨by rw [fal_of HR.out hlt hml HC.out]; rfl, HB⟩)
            | (go_roundw
               case rel => exact ⟨m + 1, by omega, by go_num, lt_step HM HC.out, HB⟩
               case measure => simp [intOf]; omega))
        · obtain rfl : m = 6 := by omega
          go_wp2
          go_roundw
          case rel => exact ⟨k + 1, by omega, by go_num, lt_step HK HM, hb2⟩
          case measure => simp [intOf]; omega
    · obtain rfl : k = 6 := by omega
      go_wp2
      go_ret
      exact ⟨by rw [HR.out.2 HK]; rfl, hb⟩
end Go.Proofs.Ytigiecodobgenaa
