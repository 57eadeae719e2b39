import Derived.Test.YtldeodnlppjbcaaKSp
namespace Go.Proofs.Ytldeodnlppjbcaa
open Go.RowKit
set_option maxRecDepth 100000

theorem lnI_ge (s : ByteArray) (a : Nat) : -1 ≤ lnI s a := Lib.indexByte_ge _ _
theorem indexByte_lt (l : List UInt8) (c : UInt8) : Lib.indexByte l c < l.length ∨ Lib.indexByte l c = -1 := by
  induction l with
  | nil => exact .inr rfl
  | cons b l ih =>
    unfold Lib.indexByte
    split
    · left; simp
    · split
      · right; rfl
      · rename_i h1 h2
        left
        have : Lib.indexByte l c ≠ -1 := by simpa using h2
        simp only [List.length_cons]; omega
theorem lnI_lt (s : ByteArray) (a : Nat) : lnI s a < (s.size - a : Nat) ∨ lnI s a = -1 := by
  have h := indexByte_lt (sub s a).data.toList 10
  rw [show (sub s a).data.toList.length = s.size - a by rw [Array.length_toList]; exact sub_size s a] at h
  exact h
set_option maxHeartbeats 1000000 in
theorem lineEnd_any (s : ByteArray) (a : Nat) (w : World) (ha : a ≤ s.size) (hs : s.size ≤ 140737488355328) :
    Calls Try.prog 25 #[.string s, .int .i64 a] w fun e w' => e = .returned (.int .i64 (lnEnd s a)) ∧ w' = w := by
  have h1 := lnI_ge s a
  have h2 := lnI_lt s a
  have HI : ∀ w, Calls Try.prog 35 #[.string (s.extract a s.size), .int .u8 10] w fun e w' => e = .returned (.int .i64 (lnI s a)) ∧ w' = w := fun w => Try.strings_IndexByte (s.extract a s.size) 10 w
  have haI : (a : Int) ≤ (s.size : Int) := by omega
  unfold lnEnd
  generalize lnI s a = r at *
  by_cases hr : 0 ≤ r
  · obtain ⟨n, rfl⟩ : ∃ n : Nat, r = n := ⟨r.toNat, by omega⟩
    rw [if_pos hr]
    go_enter Try.func25, Try.ntmps25
    go_wp2_with (go_at_call 35; with_reducible refine (HI _).mono ?_; rintro e wq ⟨rfl, hq⟩; subst wq)
    go_ret
    exact ⟨ret_int (by simp), rfl⟩
  · rw [if_neg hr]
    go_enter Try.func25, Try.ntmps25
    go_wp2_with (go_at_call 35; with_reducible refine (HI _).mono ?_; rintro e wq ⟨rfl, hq⟩; subst wq)
    go_ret
    exact ⟨rfl, rfl⟩
end Go.Proofs.Ytldeodnlppjbcaa
