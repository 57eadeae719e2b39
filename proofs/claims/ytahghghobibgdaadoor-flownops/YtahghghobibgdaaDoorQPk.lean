import Derived.Test.YtahghghobibgdaaDoorCPFa
namespace Go.Proofs.YtahghghobibgdaaDoor
open Go.RowKit Go.WideShapes Go.Shelf
set_option maxRecDepth 100000

theorem run_store_funcP (P : Program) (w : World) (a : Addr) (f : Fn) (x y : Array Value) (m : Mode) : (store a (.func f x y) m).run P w = stored P w a (.func f x y) m := run_store P w a _ m rfl
theorem ret_intP {k : IntKind} {a b : Int} (h : a = b) : Ending.returned (.int k a) = .returned (.int k b) := by rw [h]
set_option maxHeartbeats 1000000 in
theorem pick_any (x n : Int) (w : World) (hx0 : -9223372036854775808 ≤ x) (hx1 : x ≤ 9223372036854775807) (h1 : 1 ≤ n) (h2 : n ≤ 4611686018427387904) :
    Calls Tryd.prog 12 #[.int .i64 x, .int .i64 n] w fun e w' => e = .returned (.int .i64 (x % n)) ∧ w' = w := by
  have hm : x.tmod n = if 0 ≤ x ∨ n ∣ x then x % n else x % n - n := by
    have := Int.tmod_eq_emod (a := x) (b := n)
    rw [this]
    have hn : (n.natAbs : Int) = n := by omega
    by_cases hc : 0 ≤ x ∨ n ∣ x
    · simp [hc]
    · simp [hc, hn]
  have he0 := Int.emod_nonneg x (show n ≠ 0 by omega)
  have he1 := Int.emod_lt_of_pos x (show 0 < n by omega)
  by_cases hx : 0 ≤ x
  · clear hm
    go_enter Tryd.func12, Tryd.ntmps12
    go_wp2
    go_ret
    exact ⟨rfl, rfl⟩
  · have h0 : x.tmod n = 0 ∧ x % n = 0 ∨ x.tmod n < 0 ∧ x.tmod n + n = x % n ∧ -n < x.tmod n := by
      by_cases hc : n ∣ x
      · left
        rw [hm, if_pos (.inr hc)]
        exact ⟨Int.emod_eq_zero_of_dvd hc, Int.emod_eq_zero_of_dvd hc⟩
      · right
        have hne : x % n ≠ 0 := fun h => hc (Int.dvd_of_emod_eq_zero h)
        rw [hm, if_neg (by omega)]
        omega
    clear hm
    rcases h0 with ⟨h3, h4⟩ | ⟨h3, h4, h5⟩
    · have H4 : Hid (x % n = 0) := h4
      clear h4
      go_enter Tryd.func12, Tryd.ntmps12
      go_wp2
      go_ret
      exact ⟨ret_intP (by rw [H4.out]), rfl⟩
    · have H4 : Hid (x.tmod n + n = x % n) := h4
      clear h4
      go_enter Tryd.func12, Tryd.ntmps12
      go_wp2
      go_ret
      exact ⟨ret_intP (by rw [H4.out]), rfl⟩


end Go.Proofs.YtahghghobibgdaaDoor
