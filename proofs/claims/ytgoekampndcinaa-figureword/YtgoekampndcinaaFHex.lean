import Derived.Test.YtgoekampndcinaaFWord
namespace Go.Proofs.Ytgoekampndcinaa
open Go.RowKit

def isd (c : Nat) : Bool := decide (48 ≤ c ∧ c ≤ 57)
theorem ret_b {a b : Bool} (h : a = b) : Ending.returned (.bool a) = .returned (.bool b) := by rw [h]
set_option maxHeartbeats 2000000 in
theorem isdig_any (c : Nat) (w : World) (h1 : c ≤ 255) :
    Calls Try.prog 11 #[.int .u8 c] w fun e w' => e = .returned (.bool (isd c)) ∧ w' = w := by
  by_cases a : 48 ≤ c
  · have a' : (48 : Int) ≤ c := by omega
    have HV : Hid (isd c = decide ((c : Int) ≤ 57)) := by rw [Hid, isd, Bool.eq_iff_iff]; simp; omega
    go_enter Try.func11, Try.ntmps11
    go_wp2
    go_ret
    exact ⟨ret_b HV.out.symm, rfl⟩
  · have a' : (c : Int) < 48 := by omega
    have HV : Hid (isd c = false) := by rw [Hid, isd]; simp; omega
    go_enter Try.func11, Try.ntmps11
    go_wp2
    go_ret
    exact ⟨ret_b HV.out.symm, rfl⟩
/-- the number of a digit as the document tells it -/
def hn (c : Nat) : Int := if dg c = 16 then -1 else dg c
set_option maxRecDepth 100000 in
set_option maxHeartbeats 4000000 in
theorem hexn_any (c : Nat) (w : World) (h1 : c ≤ 255) :
    Calls Try.prog 8 #[.int .u8 c] w fun e w' => e = .returned (.int .i64 (hn c)) ∧ w' = w := by
  rcases dg_cases c with ⟨a, b, hv⟩ | ⟨a, b, hv⟩ | ⟨a, b, hv⟩ | ⟨hlt, hv⟩
  · have HV : Hid (hn c = (c : Int) - 48) := by rw [Hid, hn, hv]; split <;> omega
    have HB : Hid (isd c = true) := by rw [Hid, isd]; simp; omega
    have a' : (48 : Int) ≤ c := by omega
    have b' : (c : Int) ≤ 57 := by omega
    clear hv
    go_enter Try.func8, Try.ntmps8
    go_wp2_with (go_at_call 11; refine (isdig_any _ _ h1).mono ?_; rintro e w' ⟨rfl, hw'⟩; rw [HB.out]; subst hw')
    go_ret
    exact ⟨ret_i (by rw [HV.out]), rfl⟩
  · have HV : Hid (hn c = (c : Int) - 87) := by rw [Hid, hn, hv]; split <;> omega
    have HB : Hid (isd c = false) := by rw [Hid, isd]; simp; omega
    have a' : (97 : Int) ≤ c := by omega
    have b' : (c : Int) ≤ 102 := by omega
    clear hv
    go_enter Try.func8, Try.ntmps8
    go_wp2_with (go_at_call 11; refine (isdig_any _ _ h1).mono ?_; rintro e w' ⟨rfl, hw'⟩; rw [HB.out]; subst hw')
    go_ret
    exact ⟨ret_i (by rw [HV.out]), rfl⟩
  · have HV : Hid (hn c = (c : Int) - 55) := by rw [Hid, hn, hv]; split <;> omega
    have HB : Hid (isd c = false) := by rw [Hid, isd]; simp; omega
    have a' : (65 : Int) ≤ c := by omega
    have b' : (c : Int) ≤ 70 := by omega
    clear hv
    go_enter Try.func8, Try.ntmps8
    go_wp2_with (go_at_call 11; refine (isdig_any _ _ h1).mono ?_; rintro e w' ⟨rfl, hw'⟩; rw [HB.out]; subst hw')
    go_ret
    exact ⟨ret_i (by rw [HV.out]), rfl⟩
  · rcases hlt with h | ⟨h, h'⟩ | ⟨h, h'⟩ | h
    · have HV : Hid (hn c = -1) := by rw [Hid, hn, hv]; split <;> omega
      have HB : Hid (isd c = false) := by rw [Hid, isd]; simp; omega
      have a' : (c : Int) < 48 := by omega
      clear hv
      go_enter Try.func8, Try.ntmps8
      go_wp2_with (go_at_call 11; refine (isdig_any _ _ h1).mono ?_; rintro e w' ⟨rfl, hw'⟩; rw [HB.out]; subst hw')
      go_ret
      exact ⟨ret_i (by rw [HV.out]), rfl⟩
    · have HV : Hid (hn c = -1) := by rw [Hid, hn, hv]; split <;> omega
      have HB : Hid (isd c = false) := by rw [Hid, isd]; simp; omega
      have a' : (57 : Int) < c := by omega
      have b' : (c : Int) < 65 := by omega
      clear hv
      go_enter Try.func8, Try.ntmps8
      go_wp2_with (go_at_call 11; refine (isdig_any _ _ h1).mono ?_; rintro e w' ⟨rfl, hw'⟩; rw [HB.out]; subst hw')
      go_ret
      exact ⟨ret_i (by rw [HV.out]), rfl⟩
    · have HV : Hid (hn c = -1) := by rw [Hid, hn, hv]; split <;> omega
      have HB : Hid (isd c = false) := by rw [Hid, isd]; simp; omega
      have a' : (70 : Int) < c := by omega
      have b' : (c : Int) < 97 := by omega
      clear hv
      go_enter Try.func8, Try.ntmps8
      go_wp2_with (go_at_call 11; refine (isdig_any _ _ h1).mono ?_; rintro e w' ⟨rfl, hw'⟩; rw [HB.out]; subst hw')
      go_ret
      exact ⟨ret_i (by rw [HV.out]), rfl⟩
    · have HV : Hid (hn c = -1) := by rw [Hid, hn, hv]; split <;> omega
      have HB : Hid (isd c = false) := by rw [Hid, isd]; simp; omega
      have a' : (102 : Int) < c := by omega
      clear hv
      go_enter Try.func8, Try.ntmps8
      go_wp2_with (go_at_call 11; refine (isdig_any _ _ h1).mono ?_; rintro e w' ⟨rfl, hw'⟩; rw [HB.out]; subst hw')
      go_ret
      exact ⟨ret_i (by rw [HV.out]), rfl⟩
end Go.Proofs.Ytgoekampndcinaa
