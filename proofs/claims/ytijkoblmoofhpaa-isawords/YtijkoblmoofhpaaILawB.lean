import Derived.Test.YtijkoblmoofhpaaILawA
namespace Go.Proofs.Ytijkoblmoofhpaa
open Go.RowKit

theorem byV_all : ∀ k, k < 60 → 1 ≤ k → byV (opWd k) = k := by decide +kernel
theorem byV_of (k : Nat) (h : isOp k = true) : byV (opWd k) = k := by
  have h' := of_decide_eq_true h
  exact byV_all k (by omega) h'.1
theorem byF_lt (s : ByteArray) : ∀ n k, k + n ≤ 60 → byF s k n < 60
  | 0, k, _ => by rw [byF]; omega
  | n + 1, k, h => by
    rw [byF]; split
    · omega
    · exact byF_lt s n (k + 1) (by omega)
theorem byV_lt (s : ByteArray) : byV s < 60 := byF_lt s 59 1 (by omega)
theorem opWd_ne : ∀ k, k < 60 → 1 ≤ k → ¬ (opWd k).toList = [] := by decide +kernel
set_option maxHeartbeats 1000000 in
theorem wordLaw (s : ByteArray) (op : Nat) (w : World) (h : op < 256) :
    Calls Try.prog 4 #[.string s, .int .u8 op] w fun e w' => e = .returned (.bool true) ∧ Below w.heap.size w w' := by
  have h1 := fun w => byWord_any s w
  have h2 := fun w => rbyWord_any s w
  have h3 := fun w => rinfo_any op w h
  have h4 := fun w => byWord_any (opWd op) w
  generalize byV s = z at *
  generalize hz : (!(z == 0)) = zb at *
  clear hz
  cases hb : isOp op
  · rw [hb] at h3
    clear hb h4
    generalize opWd op = a0 at *
    generalize opWi op = a1 at *
    generalize opMo op = a2 at *
    generalize opTa op = a3 at *
    generalize opGi op = a4 at *
    generalize opKi op = a5 at *
    go_enter Try.func4, Try.ntmps4
    go_wp2_with (first
      | (go_at_call 10; refine (h1 _).mono ?_; rintro e w1 ⟨rfl, hq1⟩)
      | (go_at_call 11; refine (h2 _).mono ?_; rintro e w2 ⟨rfl, hq2⟩)
      | (go_at_call 9; refine (h3 _).mono ?_; rintro e w3 ⟨rfl, hq3⟩))
    go_ret
    exact ⟨rfl, bel (bt (bt hq1 hq2) hq3)⟩
  · rw [hb] at h3
    rw [byV_of op hb] at h4
    have hne : (!(op == 0)) = true := by have := of_decide_eq_true hb; simp; omega
    rw [hne] at h4
    clear hb hne
    generalize opWd op = a0 at *
    generalize opWi op = a1 at *
    generalize opMo op = a2 at *
    generalize opTa op = a3 at *
    generalize opGi op = a4 at *
    generalize opKi op = a5 at *
    go_enter Try.func4, Try.ntmps4
    go_wp2_with (first
      | (go_at_call 10; with_reducible refine (h1 _).mono ?_; rintro e w1 ⟨rfl, hq1⟩)
      | (go_at_call 10; with_reducible refine (h4 _).mono ?_; rintro e w4 ⟨rfl, hq4⟩)
      | (go_at_call 11; refine (h2 _).mono ?_; rintro e w2 ⟨rfl, hq2⟩)
      | (go_at_call 9; refine (h3 _).mono ?_; rintro e w3 ⟨rfl, hq3⟩))
    go_ret
    exact ⟨rfl, bt (bel (bt (bt hq1 hq2) hq3)) hq4⟩
set_option maxHeartbeats 1000000 in
theorem wordsLaw_zz (a b : Nat) (w : World) (ha : a < 256) (hb : b < 256) (hA : a = 0) (hB : b = 0) :
    Calls Try.prog 6 #[.int .u8 a, .int .u8 b] w fun e w' => e = .returned (.bool true) ∧ Below w.heap.size w w' := by
  have h1 := fun w => info_any a w ha
  have h2 := fun w => info_any b w hb
  have hbA : isOp a = false := decide_eq_false (by omega)
  rw [hbA] at h1
  clear hbA
  have hbB : isOp b = false := decide_eq_false (by omega)
  rw [hbB] at h2
  clear hbB
  generalize opWd a = a0 at *
  generalize opWi a = a1 at *
  generalize opMo a = a2 at *
  generalize opTa a = a3 at *
  generalize opGi a = a4 at *
  generalize opKi a = a5 at *
  generalize opWd b = b0 at *
  generalize opWi b = b1 at *
  generalize opMo b = b2 at *
  generalize opTa b = b3 at *
  generalize opGi b = b4 at *
  generalize opKi b = b5 at *
  obtain rfl : a = 0 := by omega
  simp only [Int.natCast_zero] at h1
  obtain rfl : b = 0 := by omega
  simp only [Int.natCast_zero] at h2
  clear ha hb
  go_enter Try.func6, Try.ntmps6
  go_wp2_with (first
    | (go_at_call 8; with_reducible refine (h1 _).mono ?_; rintro e w1 ⟨rfl, hq1⟩)
    | (go_at_call 8; with_reducible refine (h2 _).mono ?_; rintro e w2 ⟨rfl, hq2⟩))
  go_ret
  exact ⟨rfl, bel (bt (bel (by assumption)) hq1)⟩
set_option maxHeartbeats 1000000 in
theorem wordsLaw_zm (a b : Nat) (w : World) (ha : a < 256) (hb : b < 256) (hA : a = 0) (hB : 1 ≤ b ∧ b ≤ 59) :
    Calls Try.prog 6 #[.int .u8 a, .int .u8 b] w fun e w' => e = .returned (.bool true) ∧ Below w.heap.size w w' := by
  have h1 := fun w => info_any a w ha
  have h2 := fun w => info_any b w hb
  have hbA : isOp a = false := decide_eq_false (by omega)
  rw [hbA] at h1
  clear hbA
  have hbB : isOp b = true := decide_eq_true (by omega)
  rw [hbB] at h2
  clear hbB
  have gb1 : (1 : Int) ≤ b := by omega
  have gb2 : (b : Int) ≤ 59 := by omega
  generalize opWd a = a0 at *
  generalize opWi a = a1 at *
  generalize opMo a = a2 at *
  generalize opTa a = a3 at *
  generalize opGi a = a4 at *
  generalize opKi a = a5 at *
  generalize opWd b = b0 at *
  generalize opWi b = b1 at *
  generalize opMo b = b2 at *
  generalize opTa b = b3 at *
  generalize opGi b = b4 at *
  generalize opKi b = b5 at *
  obtain rfl : a = 0 := by omega
  simp only [Int.natCast_zero] at h1
  clear ha hb hB
  go_enter Try.func6, Try.ntmps6
  go_wp2_with (first
    | (go_at_call 8; with_reducible refine (h1 _).mono ?_; rintro e w1 ⟨rfl, hq1⟩)
    | (go_at_call 8; with_reducible refine (h2 _).mono ?_; rintro e w2 ⟨rfl, hq2⟩))
  go_ret
  exact ⟨rfl, bel (bt (bel hq1) hq2)⟩
set_option maxHeartbeats 1000000 in
theorem wordsLaw_zh (a b : Nat) (w : World) (ha : a < 256) (hb : b < 256) (hA : a = 0) (hB : 59 < b) :
    Calls Try.prog 6 #[.int .u8 a, .int .u8 b] w fun e w' => e = .returned (.bool true) ∧ Below w.heap.size w w' := by
  have h1 := fun w => info_any a w ha
  have h2 := fun w => info_any b w hb
  have hbA : isOp a = false := decide_eq_false (by omega)
  rw [hbA] at h1
  clear hbA
  have hbB : isOp b = false := decide_eq_false (by omega)
  rw [hbB] at h2
  clear hbB
  have gb1 : (1 : Int) ≤ b := by omega
  have gb2 : ¬ (b : Int) ≤ 59 := by omega
  generalize opWd a = a0 at *
  generalize opWi a = a1 at *
  generalize opMo a = a2 at *
  generalize opTa a = a3 at *
  generalize opGi a = a4 at *
  generalize opKi a = a5 at *
  generalize opWd b = b0 at *
  generalize opWi b = b1 at *
  generalize opMo b = b2 at *
  generalize opTa b = b3 at *
  generalize opGi b = b4 at *
  generalize opKi b = b5 at *
  obtain rfl : a = 0 := by omega
  simp only [Int.natCast_zero] at h1
  clear ha hb hB
  go_enter Try.func6, Try.ntmps6
  go_wp2_with (first
    | (go_at_call 8; with_reducible refine (h1 _).mono ?_; rintro e w1 ⟨rfl, hq1⟩)
    | (go_at_call 8; with_reducible refine (h2 _).mono ?_; rintro e w2 ⟨rfl, hq2⟩))
  go_ret
  exact ⟨rfl, bel (bt (bel hq1) hq2)⟩
set_option maxHeartbeats 1000000 in
theorem wordsLaw_mz (a b : Nat) (w : World) (ha : a < 256) (hb : b < 256) (hA : 1 ≤ a ∧ a ≤ 59) (hB : b = 0) :
    Calls Try.prog 6 #[.int .u8 a, .int .u8 b] w fun e w' => e = .returned (.bool true) ∧ Below w.heap.size w w' := by
  have h1 := fun w => info_any a w ha
  have h2 := fun w => info_any b w hb
  have hbA : isOp a = true := decide_eq_true (by omega)
  rw [hbA] at h1
  clear hbA
  have ga1 : (1 : Int) ≤ a := by omega
  have ga2 : (a : Int) ≤ 59 := by omega
  have hbB : isOp b = false := decide_eq_false (by omega)
  rw [hbB] at h2
  clear hbB
  generalize opWd a = a0 at *
  generalize opWi a = a1 at *
  generalize opMo a = a2 at *
  generalize opTa a = a3 at *
  generalize opGi a = a4 at *
  generalize opKi a = a5 at *
  generalize opWd b = b0 at *
  generalize opWi b = b1 at *
  generalize opMo b = b2 at *
  generalize opTa b = b3 at *
  generalize opGi b = b4 at *
  generalize opKi b = b5 at *
  obtain rfl : b = 0 := by omega
  simp only [Int.natCast_zero] at h2
  clear ha hb hA
  go_enter Try.func6, Try.ntmps6
  go_wp2_with (first
    | (go_at_call 8; with_reducible refine (h1 _).mono ?_; rintro e w1 ⟨rfl, hq1⟩)
    | (go_at_call 8; with_reducible refine (h2 _).mono ?_; rintro e w2 ⟨rfl, hq2⟩))
  go_ret
  exact ⟨rfl, bel (bt (bel hq1) hq2)⟩
set_option maxHeartbeats 1000000 in
theorem wordsLaw_mh (a b : Nat) (w : World) (ha : a < 256) (hb : b < 256) (hA : 1 ≤ a ∧ a ≤ 59) (hB : 59 < b) :
    Calls Try.prog 6 #[.int .u8 a, .int .u8 b] w fun e w' => e = .returned (.bool true) ∧ Below w.heap.size w w' := by
  have h1 := fun w => info_any a w ha
  have h2 := fun w => info_any b w hb
  have hbA : isOp a = true := decide_eq_true (by omega)
  rw [hbA] at h1
  clear hbA
  have ga1 : (1 : Int) ≤ a := by omega
  have ga2 : (a : Int) ≤ 59 := by omega
  have hbB : isOp b = false := decide_eq_false (by omega)
  rw [hbB] at h2
  clear hbB
  have gb1 : (1 : Int) ≤ b := by omega
  have gb2 : ¬ (b : Int) ≤ 59 := by omega
  generalize opWd a = a0 at *
  generalize opWi a = a1 at *
  generalize opMo a = a2 at *
  generalize opTa a = a3 at *
  generalize opGi a = a4 at *
  generalize opKi a = a5 at *
  generalize opWd b = b0 at *
  generalize opWi b = b1 at *
  generalize opMo b = b2 at *
  generalize opTa b = b3 at *
  generalize opGi b = b4 at *
  generalize opKi b = b5 at *
  clear ha hb hA hB
  go_enter Try.func6, Try.ntmps6
  go_wp2_with (first
    | (go_at_call 8; with_reducible refine (h1 _).mono ?_; rintro e w1 ⟨rfl, hq1⟩)
    | (go_at_call 8; with_reducible refine (h2 _).mono ?_; rintro e w2 ⟨rfl, hq2⟩))
  go_ret
  exact ⟨rfl, bel (bt (bel hq1) hq2)⟩
set_option maxHeartbeats 1000000 in
theorem wordsLaw_hz (a b : Nat) (w : World) (ha : a < 256) (hb : b < 256) (hA : 59 < a) (hB : b = 0) :
    Calls Try.prog 6 #[.int .u8 a, .int .u8 b] w fun e w' => e = .returned (.bool true) ∧ Below w.heap.size w w' := by
  have h1 := fun w => info_any a w ha
  have h2 := fun w => info_any b w hb
  have hbA : isOp a = false := decide_eq_false (by omega)
  rw [hbA] at h1
  clear hbA
  have ga1 : (1 : Int) ≤ a := by omega
  have ga2 : ¬ (a : Int) ≤ 59 := by omega
  have hbB : isOp b = false := decide_eq_false (by omega)
  rw [hbB] at h2
  clear hbB
  generalize opWd a = a0 at *
  generalize opWi a = a1 at *
  generalize opMo a = a2 at *
  generalize opTa a = a3 at *
  generalize opGi a = a4 at *
  generalize opKi a = a5 at *
  generalize opWd b = b0 at *
  generalize opWi b = b1 at *
  generalize opMo b = b2 at *
  generalize opTa b = b3 at *
  generalize opGi b = b4 at *
  generalize opKi b = b5 at *
  obtain rfl : b = 0 := by omega
  simp only [Int.natCast_zero] at h2
  clear ha hb hA
  go_enter Try.func6, Try.ntmps6
  go_wp2_with (first
    | (go_at_call 8; with_reducible refine (h1 _).mono ?_; rintro e w1 ⟨rfl, hq1⟩)
    | (go_at_call 8; with_reducible refine (h2 _).mono ?_; rintro e w2 ⟨rfl, hq2⟩))
  go_ret
  exact ⟨rfl, bel (bt (bel hq1) hq2)⟩
set_option maxHeartbeats 1000000 in
theorem wordsLaw_hm (a b : Nat) (w : World) (ha : a < 256) (hb : b < 256) (hA : 59 < a) (hB : 1 ≤ b ∧ b ≤ 59) :
    Calls Try.prog 6 #[.int .u8 a, .int .u8 b] w fun e w' => e = .returned (.bool true) ∧ Below w.heap.size w w' := by
  have h1 := fun w => info_any a w ha
  have h2 := fun w => info_any b w hb
  have hbA : isOp a = false := decide_eq_false (by omega)
  rw [hbA] at h1
  clear hbA
  have ga1 : (1 : Int) ≤ a := by omega
  have ga2 : ¬ (a : Int) ≤ 59 := by omega
  have hbB : isOp b = true := decide_eq_true (by omega)
  rw [hbB] at h2
  clear hbB
  have gb1 : (1 : Int) ≤ b := by omega
  have gb2 : (b : Int) ≤ 59 := by omega
  generalize opWd a = a0 at *
  generalize opWi a = a1 at *
  generalize opMo a = a2 at *
  generalize opTa a = a3 at *
  generalize opGi a = a4 at *
  generalize opKi a = a5 at *
  generalize opWd b = b0 at *
  generalize opWi b = b1 at *
  generalize opMo b = b2 at *
  generalize opTa b = b3 at *
  generalize opGi b = b4 at *
  generalize opKi b = b5 at *
  clear ha hb hA hB
  go_enter Try.func6, Try.ntmps6
  go_wp2_with (first
    | (go_at_call 8; with_reducible refine (h1 _).mono ?_; rintro e w1 ⟨rfl, hq1⟩)
    | (go_at_call 8; with_reducible refine (h2 _).mono ?_; rintro e w2 ⟨rfl, hq2⟩))
  go_ret
  exact ⟨rfl, bel (bt (bel hq1) hq2)⟩
set_option maxHeartbeats 1000000 in
theorem wordsLaw_hh (a b : Nat) (w : World) (ha : a < 256) (hb : b < 256) (hA : 59 < a) (hB : 59 < b) :
    Calls Try.prog 6 #[.int .u8 a, .int .u8 b] w fun e w' => e = .returned (.bool true) ∧ Below w.heap.size w w' := by
  have h1 := fun w => info_any a w ha
  have h2 := fun w => info_any b w hb
  have hbA : isOp a = false := decide_eq_false (by omega)
  rw [hbA] at h1
  clear hbA
  have ga1 : (1 : Int) ≤ a := by omega
  have ga2 : ¬ (a : Int) ≤ 59 := by omega
  have hbB : isOp b = false := decide_eq_false (by omega)
  rw [hbB] at h2
  clear hbB
  have gb1 : (1 : Int) ≤ b := by omega
  have gb2 : ¬ (b : Int) ≤ 59 := by omega
  generalize opWd a = a0 at *
  generalize opWi a = a1 at *
  generalize opMo a = a2 at *
  generalize opTa a = a3 at *
  generalize opGi a = a4 at *
  generalize opKi a = a5 at *
  generalize opWd b = b0 at *
  generalize opWi b = b1 at *
  generalize opMo b = b2 at *
  generalize opTa b = b3 at *
  generalize opGi b = b4 at *
  generalize opKi b = b5 at *
  clear ha hb hA hB
  go_enter Try.func6, Try.ntmps6
  go_wp2_with (first
    | (go_at_call 8; with_reducible refine (h1 _).mono ?_; rintro e w1 ⟨rfl, hq1⟩)
    | (go_at_call 8; with_reducible refine (h2 _).mono ?_; rintro e w2 ⟨rfl, hq2⟩))
  go_ret
  exact ⟨rfl, bel (bt (bel hq1) hq2)⟩
set_option maxHeartbeats 1000000 in
theorem wordsLaw (a b : Nat) (w : World) (ha : a < 256) (hb : b < 256) :
    Calls Try.prog 6 #[.int .u8 a, .int .u8 b] w fun e w' => e = .returned (.bool true) ∧ Below w.heap.size w w' := by
  have h1 := fun w => info_any a w ha
  have h2 := fun w => info_any b w hb
  have h3 := fun w => byWord_any (opWd a) w
  by_cases hA : 1 ≤ a ∧ a ≤ 59
  · have iA : isOp a = true := decide_eq_true hA
    rw [iA] at h1
    have ga1 : (1 : Int) ≤ a := by omega
    have ga2 : (a : Int) ≤ 59 := by omega
    by_cases hB : 1 ≤ b ∧ b ≤ 59
    · have iB : isOp b = true := decide_eq_true hB
      rw [iB] at h2
      have gb1 : (1 : Int) ≤ b := by omega
      have gb2 : (b : Int) ≤ 59 := by omega
      rw [byV_of a iA] at h3
      have hne : (!(a == 0)) = true := by simp; omega
      rw [hne] at h3
      have hnn : ((opWd a).toList == []) = false := by rw [beq_eq_false_iff_ne]; exact opWd_ne a (by omega) hA.1
      have heq : ((opWd a).toList == (opWd b).toList) = ((a : Int) == (b : Int)) := by
        by_cases e : a = b
        · subst e; simp
        · have hx : ¬ opWd a = opWd b := fun he => e (by rw [← byV_of a iA, ← byV_of b iB, he])
          rw [lne hx]
          have : ¬ (a : Int) = b := by omega
          simpa using this
      clear hA hB iA iB hne
      generalize opWi a = a1 at *
      generalize opMo a = a2 at *
      generalize opTa a = a3 at *
      generalize opGi a = a4 at *
      generalize opKi a = a5 at *
      generalize opWi b = b1 at *
      generalize opMo b = b2 at *
      generalize opTa b = b3 at *
      generalize opGi b = b4 at *
      generalize opKi b = b5 at *
      generalize opWd a = a0 at *
      generalize opWd b = b0 at *
      go_enter Try.func6, Try.ntmps6
      go_wp2_with (first
        | (go_at_call 8; with_reducible refine (h1 _).mono ?_; rintro e w1 ⟨rfl, hq1⟩)
        | (go_at_call 8; with_reducible refine (h2 _).mono ?_; rintro e w2 ⟨rfl, hq2⟩; have c0 := cellC hq2 0 _ rfl)
        | (go_at_call 10; with_reducible refine (h3 _).mono ?_; rintro e w3 ⟨rfl, hq3⟩; have d0 := (hq3.cell (p := ⟨w1.heap.size, 0, none⟩) (by have := hq2.size; simp at this ⊢; omega)).trans (c0 _); have d1 := cellB hq3 0; simp only [List.getElem?_toArray, List.getElem?_cons_zero] at d1))
      go_ret
      exact ⟨rfl, bt (bel (bt (bel hq1) hq2)) hq3⟩
    · by_cases hz : b = 0
      · exact wordsLaw_mz a b w ha hb hA hz
      · exact wordsLaw_mh a b w ha hb hA (by omega)
  · by_cases hz : a = 0
    · by_cases hy : b = 0
      · exact wordsLaw_zz a b w ha hb hz hy
      by_cases hB : 1 ≤ b ∧ b ≤ 59
      · exact wordsLaw_zm a b w ha hb hz hB
      · exact wordsLaw_zh a b w ha hb hz (by omega)
    · by_cases hy : b = 0
      · exact wordsLaw_hz a b w ha hb (by omega) hy
      by_cases hB : 1 ≤ b ∧ b ≤ 59
      · exact wordsLaw_hm a b w ha hb (by omega) hB
      · exact wordsLaw_hh a b w ha hb (by omega) (by omega)
end Go.Proofs.Ytijkoblmoofhpaa
