import Derived.Test.YtdegmojfphkejaaISam
import Derived.Test.YtdegmojfphkejaaIOnM
import Derived.Test.YtdegmojfphkejaaIBak
namespace Go.Proofs.Ytdegmojfphkejaa
open Go.RowKit
set_option maxRecDepth 100000

set_option maxHeartbeats 1000000 in
theorem pick_any (x n : Int) (w : World) (hx0 : -9223372036854775808 ≤ x) (hx1 : x ≤ 9223372036854775807) (h1 : 1 ≤ n) (h2 : n ≤ 4611686018427387904) :
    Calls Try.prog 24 #[.int .i64 x, .int .i64 n] w fun e w' => e = .returned (.int .i64 (x % n)) ∧ w' = w := by
  have hm : x.tmod n = if 0 ≤ x ∨ n ∣ x then x % n else x % n - n := by
    have := Int.tmod_eq_emod (a := x) (b := n)
    rw [this]
    have hn : (n.natAbs : Int) = n := by omega
    by_cases hc : 0 ≤ x ∨ n ∣ x
    · simp [hc]
    · simp [hc, hn]
  have he0 := Int.emod_nonneg x (show n ≠ 0 by omega)
  have he1 := Int.emod_lt_of_pos x (show 0 < n by omega)
  by_cases hx : 0 ≤ x
  · clear hm
    go_enter Try.func24, Try.ntmps24
    go_wp2
    go_ret
    exact ⟨rfl, rfl⟩
  · have h0 : x.tmod n = 0 ∧ x % n = 0 ∨ x.tmod n < 0 ∧ x.tmod n + n = x % n ∧ -n < x.tmod n := by
      by_cases hc : n ∣ x
      · left
        rw [hm, if_pos (.inr hc)]
        exact ⟨Int.emod_eq_zero_of_dvd hc, Int.emod_eq_zero_of_dvd hc⟩
      · right
        have hne : x % n ≠ 0 := fun h => hc (Int.dvd_of_emod_eq_zero h)
        rw [hm, if_neg (by omega)]
        omega
    clear hm
    rcases h0 with ⟨h3, h4⟩ | ⟨h3, h4, h5⟩
    · have H4 : Hid (x % n = 0) := h4
      clear h4
      go_enter Try.func24, Try.ntmps24
      go_wp2
      go_ret
      exact ⟨ret_int (by rw [H4.out]), rfl⟩
    · have H4 : Hid (x.tmod n + n = x % n) := h4
      clear h4
      go_enter Try.func24, Try.ntmps24
      go_wp2
      go_ret
      exact ⟨ret_int (by rw [H4.out]), rfl⟩


theorem Try.infoInt : (Try.prog.info? 3).map (fun i => (i.zero, i.size, i.bytes)) = some (some (.int .i64 0), 1, 8) := by kernel_rfl
def plv (L : List (Nat × Nat)) (k : Nat) : List Value := (List.range (k + 1)).map fun j => Value.int .i64 (pl L j : Int)
theorem plv_succ (L : List (Nat × Nat)) (k : Nat) : plv L (k + 1) = plv L k ++ [.int .i64 (pl L (k + 1) : Int)] := by
  unfold plv; rw [List.range_succ, List.map_append]; rfl
theorem plv_get (L : List (Nat × Nat)) (n k : Nat) (h : k < n + 1) : (plv L n)[k]? = some (.int .i64 (pl L k : Int)) := by
  unfold plv; rw [List.getElem?_map, List.getElem?_range h]; rfl
theorem pl_le (L : List (Nat × Nat)) (hl : L.length ≤ 16384) (k : Nat) : pl L k ≤ 81920 := by
  unfold pl; have := encF_le (L.take k); rw [List.length_take] at this; omega
set_option maxRecDepth 100000 in
set_option maxHeartbeats 2000000 in
theorem places_ok (ao : Option Addr) (cap : Nat) (L : List (Nat × Nat)) (w : World) (hwf : Wfc L) (hr : CRd w ao L w.heap.size) (ho : allOk L = true) (hl : L.length ≤ 16384) :
    Calls Try.prog 15 #[.slice ao L.length cap] w fun e w' => ∃ v, e = .returned (.tuple #[v, .int .i64 0]) ∧ w'.ownsRow w.heap.size 3 1 v (L.length + 1) (plv L L.length) ∧ Below w.heap.size w w' := by
  obtain ⟨i0, hi, hz0, hz1, hz2⟩ := info_parts Try.infoInt
  have hE := encode_ok ao cap L w hwf hr ho hl
  have HW := hid_of hwf
  have HO := hid_of ho
  clear hwf ho
  go_enter Try.func15, Try.ntmps15
  go_wp2_with (go_at_call 26; with_reducible refine hE.mono ?_; rintro e w1 ⟨v1, rfl, own1, hb1⟩; obtain ⟨a1, c1, rfl⟩ := own_any own1)
  have own2 := World.ownsRow_lit (size := 1) (base := w.heap.size) (e := 3) w1 #[.int .i64 0] 1 hb1.size (by decide) rfl
  have R2 : Below w.heap.size w (w1.alloc (.cells #[.int .i64 0] 3)) := bel hb1
  clear own1 hE hb1
  go_loopw [7, 8, 24] (fun u v i wr => ∃ k : Nat, k ≤ L.length ∧ u = .int .i64 (pl L k) ∧ i = .int .i64 k ∧ wr.ownsRow w.heap.size 3 1 v (k + 1) (plv L k) ∧ Below w.heap.size w wr)
    (fun _ _ i _ => L.length - (intOf i).toNat)
  case atStart => exact ⟨0, Nat.zero_le _, rfl, rfl, own2, R2⟩
  case round =>
    clear own2 R2
    obtain ⟨k, hk, rfl, rfl, hown, hb⟩ := hrel
    by_cases hlt : k < L.length
    · obtain ⟨b, off, rfl, hbl, hc⟩ := (hr.below hb) (by omega)
      obtain ⟨x0, x1⟩ := hc k hlt
      have hS := fun w => size_ok (L.getD k (0, 0)) w (HW.out.at hlt).1 (getD_ok HO.out hlt)
      have hW4 := opWi_le (L.getD k (0, 0)).1
      have HT := hid_of (pl_succ L k hlt)
      have HV := hid_of (plv_succ L k)
      have hP := pl_le L hl k
      have hB0 := hb.size
      generalize opWi (L.getD k (0, 0)).1 = wi at *
      generalize (L.getD k (0, 0)).1 = op at *
      generalize (L.getD k (0, 0)).2 = arg at *
      generalize hpn : pl L (k + 1) = pn at *
      have HPN := hid_of hpn
      clear hpn
      generalize pl L k = pk at *
      generalize plv L k = V at *
      have hltI : (k : Int) < (L.length : Int) := by omega
      clear hc HW HO
      go_wp2_with (first
        | (go_at_call 27; with_reducible refine (hS _).mono ?_; rintro e w3 ⟨rfl, hq3⟩)
        | (at_builtin; refine wpList_append_own _ rfl _ _ 40 rfl w.heap.size 3 i0 (.int .i64 0) 1 8 Try.underlying40 hi hz0 hz1 hz2 rfl (by decide) _ _ _ rfl ((own_below (hown.alloc _) hq3).alloc _) ⟨_, 0, none⟩ 1 1 [.int .i64 ((pk : Int) + (1 + (wi : Int)))] rfl rfl ?d1 ?d2 ?d3 ?d4 ?d5 ?_))
      case d1 =>
        intro j u hj
        match j, hj with
        | 0, hj => simp at hj; subst hj; simp [Addr.add]
      case d2 => intro u hu; simp at hu; subst hu; rfl
      case d3 => unfold maxLen; omega
      case d4 => omega
      case d5 => have := hq3.size; simp at this ⊢; omega
      intro v' w4 own4 hg4 _
      have R4 : Below w.heap.size w w4 := grown_below (bt (bel hb) hq3) (bt (bel hb) hq3).size (own_below (hown.alloc _) hq3) hg4
      have epn : ((pn : Nat) : Int) = (pk : Int) + (1 + (wi : Int)) := by have := HT.out; omega
      have HEP := hid_of epn
      have own5 : w4.ownsRow w.heap.size 3 1 v' (k + 1 + 1) (V ++ [.int .i64 (pn : Int)]) := by rw [epn]; exact own4
      clear own4 hg4 hown hb hq3 epn hS x0 x1
      go_wp2
      go_roundw
      case rel => exact ⟨k + 1, by omega, by rw [HPN.out, HEP.out], by go_num, by rw [HV.out]; exact own5, R4⟩
      case measure => simp [intOf]; omega
    · obtain rfl : k = L.length := by omega
      clear hr HW HO
      go_wp2
      go_ret2
      exact ⟨_, rfl, hown, hb⟩
end Go.Proofs.Ytdegmojfphkejaa
