import Derived.Test.YtgfgdkeeonolcaaISam
import Derived.Test.YtgfgdkeeonolcaaIOnM
import Derived.Test.YtgfgdkeeonolcaaIBak
namespace Go.Proofs.Ytgfgdkeeonolcaa
open Go.RowKit
set_option maxRecDepth 100000

set_option maxHeartbeats 1000000 in
theorem pick_any (x n : Int) (w : World) (hx0 : -9223372036854775808 ≤ x) (hx1 : x ≤ 9223372036854775807) (h1 : 1 ≤ n) (h2 : n ≤ 4611686018427387904) :
    Calls Try.prog 9 #[.int .i64 x, .int .i64 n] w fun e w' => e = .returned (.int .i64 (x % n)) ∧ w' = w := by
  have hm : x.tmod n = if 0 ≤ x ∨ n ∣ x then x % n else x % n - n := by
    have := Int.tmod_eq_emod (a := x) (b := n)
    rw [this]
    have hn : (n.natAbs : Int) = n := by omega
    by_cases hc : 0 ≤ x ∨ n ∣ x
    · simp [hc]
    · simp [hc, hn]
  have he0 := Int.emod_nonneg x (show n ≠ 0 by omega)
  have he1 := Int.emod_lt_of_pos x (show 0 < n by omega)
  by_cases hx : 0 ≤ x
  · clear hm
    go_enter Try.func9, Try.ntmps9
    go_wp2
    go_ret
    exact ⟨rfl, rfl⟩
  · have h0 : x.tmod n = 0 ∧ x % n = 0 ∨ x.tmod n < 0 ∧ x.tmod n + n = x % n ∧ -n < x.tmod n := by
      by_cases hc : n ∣ x
      · left
        rw [hm, if_pos (.inr hc)]
        exact ⟨Int.emod_eq_zero_of_dvd hc, Int.emod_eq_zero_of_dvd hc⟩
      · right
        have hne : x % n ≠ 0 := fun h => hc (Int.dvd_of_emod_eq_zero h)
        rw [hm, if_neg (by omega)]
        omega
    clear hm
    rcases h0 with ⟨h3, h4⟩ | ⟨h3, h4, h5⟩
    · have H4 : Hid (x % n = 0) := h4
      clear h4
      go_enter Try.func9, Try.ntmps9
      go_wp2
      go_ret
      exact ⟨ret_int (by rw [H4.out]), rfl⟩
    · have H4 : Hid (x.tmod n + n = x % n) := h4
      clear h4
      go_enter Try.func9, Try.ntmps9
      go_wp2
      go_ret
      exact ⟨ret_int (by rw [H4.out]), rfl⟩


theorem Try.infoInt : (Try.prog.info? 3).map (fun i => (i.zero, i.size, i.bytes)) = some (some (.int .i64 0), 1, 8) := by kernel_rfl
def plv (L : List (Nat × Nat)) (k : Nat) : List Value := (List.range (k + 1)).map fun j => Value.int .i64 (pl L j : Int)
theorem plv_succ (L : List (Nat × Nat)) (k : Nat) : plv L (k + 1) = plv L k ++ [.int .i64 (pl L (k + 1) : Int)] := by
  unfold plv; rw [List.range_succ, List.map_append]; rfl
theorem plv_get (L : List (Nat × Nat)) (n k : Nat) (h : k < n + 1) : (plv L n)[k]? = some (.int .i64 (pl L k : Int)) := by
  unfold plv; rw [List.getElem?_map, List.getElem?_range h]; rfl
theorem pl_le (L : List (Nat × Nat)) (hl : L.length ≤ 16384) (k : Nat) : pl L k ≤ 81920 := by
  unfold pl; have := encF_le (L.take k); rw [List.length_take] at this; omega
end Go.Proofs.Ytgfgdkeeonolcaa
