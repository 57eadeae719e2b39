import Derived.Test.YtiohmcfabjmcoaaSJoin2
import Derived.Test.YtiohmcfabjmcoaaSRootM
namespace Go.Proofs.Ytiohmcfabjmcoaa
open Go.RowKit

theorem jw_prt (a : Nat) (h : a < 4294967296) : jw (prt a) = on a ∧ prt (on a) = prt a := by
  unfold on
  by_cases ho : ok a = true
  · have ho' : ¬ ok a = false := by simp [ho]
    have hm : a % 2147483648 ≤ 2139095040 := by simpa [ok] using ho
    rw [if_pos ho]
    refine ⟨?_, rfl⟩
    unfold prt jw
    rw [if_neg ho']
    have hw := wrd_sg a h
    by_cases hi : a % 2147483648 = 2139095040
    · rw [if_pos hi]
      simp only [show ¬ (2 : Int) = 1 by decide, if_false, if_true]
      rw [← hi]; exact hw
    · rw [if_neg hi]
      simp only [show ¬ (3 : Int) = 1 by decide, show ¬ (3 : Int) = 2 by decide, if_false]
      obtain ⟨r1, r2, r3⟩ := rd_rung a
      rw [fx_fin _ _ r2 (by omega), sx_wrd _ _ (by omega), ← r1]; exact hw
  · have ho' : ok a = false := by simpa using ho
    rw [if_neg ho]
    have e : prt a = (1, false, 0, 0) := by unfold prt; rw [if_pos ho']
    rw [e]
    exact ⟨by decide +kernel, prt_none⟩
theorem join_split (a : Nat) (w : World) (h : a < 4294967296) :
    Calls Try.prog 9 #[pv (prt a)] w fun e w' => e = .returned (.tuple #[.int .u32 (on a), .int .i64 0]) ∧ Below w.heap.size w w' := by
  have := join_any (prt a) w
  obtain ⟨e1, e2⟩ := jw_prt a h
  rwa [e1, if_pos e2] at this
theorem alike_any (p : Int × Bool × Nat × Int) (w : World) :
    Calls Try.prog 6 #[pv p, pv p] w fun e w' => e = .returned (.bool true) ∧ Below w.heap.size w w' := by
  obtain ⟨s, m, n, q⟩ := p
  simp only [pv]
  cases m
  · go_enter Try.func6, Try.ntmps6
    go_wp2
    go_ret
    exact ⟨rfl, by repeat (first | exact Below.refl _ _ | refine bel ?_ | refine Below.drew ?_ | refine bdn ?_)⟩
  · go_enter Try.func6, Try.ntmps6
    go_wp2
    go_ret
    exact ⟨rfl, by repeat (first | exact Below.refl _ _ | refine bel ?_ | refine Below.drew ?_ | refine bdn ?_)⟩
end Go.Proofs.Ytiohmcfabjmcoaa
