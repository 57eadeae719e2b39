import Derived.Test.YtfkjapkbpdbpmaaIPl
import Derived.Test.YtfkjapkbpdbpmaaIEnd
import Derived.Test.YtfkjapkbpdbpmaaLSmI
namespace Go.Proofs.Ytfkjapkbpdbpmaa
open Go.RowKit

theorem rencode_ok (ao : Option Addr) (cap : Nat) (L : List (Nat × Nat)) (w : World) (hwf : Wfc L) (hr : CRd w ao L w.heap.size) (h : allOk L = true) (hl : L.length ≤ 16384) :
    Calls Try.prog 28 #[.slice ao L.length cap] w fun e w' => ∃ v, e = .returned (.tuple #[v, .int .i64 0, .int .i64 0]) ∧ w'.ownsRow w.heap.size 5 1 v (encF L).length (bv (encF L)) ∧ Below w.heap.size w w' := by
  refine (rencode_any ao cap L w (by omega) hwf hr).mono ?_
  obtain ⟨e1, e2, e3⟩ := encB_ok L h hl
  rintro e w' ⟨v, rfl, h1, h2⟩
  rw [e1] at h1
  exact ⟨v, by rw [e2, e3]; rfl, h1, h2⟩
set_option maxRecDepth 100000 in
set_option maxHeartbeats 2000000 in
theorem rplaces_ok (ao : Option Addr) (cap : Nat) (L : List (Nat × Nat)) (w : World) (hwf : Wfc L) (hr : CRd w ao L w.heap.size) (ho : allOk L = true) (hl : L.length ≤ 16384) :
    Calls Try.prog 16 #[.slice ao L.length cap] w fun e w' => ∃ v, e = .returned (.tuple #[v, .int .i64 0]) ∧ w'.ownsRow w.heap.size 3 1 v (L.length + 1) (plv L L.length) ∧ Below w.heap.size w w' := by
  obtain ⟨i0, hi, hz0, hz1, hz2⟩ := info_parts Try.infoInt
  have hE := rencode_ok ao cap L w hwf hr ho hl
  have HW := hid_of hwf
  have HO := hid_of ho
  clear hwf ho
  go_enter Try.func16, Try.ntmps16
  go_wp2_with (go_at_call 28; with_reducible refine hE.mono ?_; rintro e w1 ⟨v1, rfl, own1, hb1⟩; obtain ⟨a1, c1, rfl⟩ := own_any own1)
  have own2 := World.ownsRow_lit (size := 1) (base := w.heap.size) (e := 3) w1 #[.int .i64 0] 1 hb1.size (by decide) rfl
  have R2 : Below w.heap.size w (w1.alloc (.cells #[.int .i64 0] 3)) := bel hb1
  clear own1 hE hb1
  go_loopw [7, 8, 9] (fun v u i wr => ∃ k : Nat, k ≤ L.length ∧ u = .int .i64 (pl L k) ∧ i = .int .i64 k ∧ wr.ownsRow w.heap.size 3 1 v (k + 1) (plv L k) ∧ Below w.heap.size w wr)
    (fun _ _ i _ => L.length - (intOf i).toNat)
  case atStart => exact ⟨0, Nat.zero_le _, rfl, rfl, own2, R2⟩
  case round =>
    clear own2 R2
    obtain ⟨k, hk, rfl, rfl, hown, hb⟩ := hrel
    by_cases hlt : k < L.length
    · obtain ⟨b, off, rfl, hbl, hc⟩ := (hr.below hb) (by omega)
      obtain ⟨x0, x1⟩ := hc k hlt
      have hS := fun w => rsize_ok (L.getD k (0, 0)) w (HW.out.at hlt).1 (getD_ok HO.out hlt)
      have hW4 := opWi_le (L.getD k (0, 0)).1
      have HT := hid_of (pl_succ L k hlt)
      have HV := hid_of (plv_succ L k)
      have hP := pl_le L hl k
      have hB0 := hb.size
      generalize opWi (L.getD k (0, 0)).1 = wi at *
      generalize (L.getD k (0, 0)).1 = op at *
      generalize (L.getD k (0, 0)).2 = arg at *
      generalize hpn : pl L (k + 1) = pn at *
      have HPN := hid_of hpn
      clear hpn
      generalize pl L k = pk at *
      generalize plv L k = V at *
      have hltI : (k : Int) < (L.length : Int) := by omega
      clear hc HW HO
      go_wp2_with (first
        | (go_at_call 32; with_reducible refine (hS _).mono ?_; rintro e w3 ⟨rfl, hq3⟩)
        | (at_builtin; refine wpList_append_own _ rfl _ _ 40 rfl w.heap.size 3 i0 (.int .i64 0) 1 8 Try.underlying40 hi hz0 hz1 hz2 rfl (by decide) _ _ _ rfl ((own_below hown hq3).alloc _) ⟨_, 0, none⟩ 1 1 [.int .i64 ((pk : Int) + (1 + (wi : Int)))] rfl rfl ?d1 ?d2 ?d3 ?d4 ?d5 ?_))
      case d1 =>
        intro j u hj
        match j, hj with
        | 0, hj => simp at hj; subst hj; simp [Addr.add]
      case d2 => intro u hu; simp at hu; subst hu; rfl
      case d3 => unfold maxLen; omega
      case d4 => omega
      case d5 => have := hq3.size; simp at this ⊢; omega
      intro v' w4 own4 hg4 _
      have R4 : Below w.heap.size w w4 := grown_below (bt hb hq3) (bt hb hq3).size (own_below hown hq3) hg4
      have epn : ((pn : Nat) : Int) = (pk : Int) + (1 + (wi : Int)) := by have := HT.out; omega
      have HEP := hid_of epn
      have own5 : w4.ownsRow w.heap.size 3 1 v' (k + 1 + 1) (V ++ [.int .i64 (pn : Int)]) := by rw [epn]; exact own4
      clear own4 hg4 hown hb hq3 epn hS x0 x1
      go_wp2
      go_roundw
      case rel => exact ⟨k + 1, by omega, by rw [HPN.out, HEP.out], by go_num, by rw [HV.out]; exact own5, R4⟩
      case measure => simp [intOf]; omega
    · obtain rfl : k = L.length := by omega
      clear hr HW HO
      go_wp2
      go_ret2
      exact ⟨_, rfl, hown, hb⟩

theorem badAt_bad : ∀ (L : List (Nat × Nat)), allOk L = false → badAt L < L.length ∧ okI (L.getD (badAt L) (0, 0)) = false
  | [], h => by simp [allOk] at h
  | p :: L, h => by
    cases hp : okI p
    · simp only [badAt, hp]; exact ⟨by simp, hp⟩
    · have hL : allOk L = false := by
        simp only [allOk, List.all_cons, hp, Bool.true_and] at h
        exact h
      obtain ⟨h1, h2⟩ := badAt_bad L hL
      simp only [badAt, hp, if_true]
      exact ⟨by simp; omega, h2⟩
theorem encX_zero (L : List (Nat × Nat)) (h : encX L = 0) : allOk L = true ∧ L.length ≤ 16384 := by
  unfold encX at h
  split at h
  · cases h
  · rename_i hl
    split at h
    · rename_i ho; exact ⟨ho, by omega⟩
    · rename_i ho
      exfalso
      have : badAt L < L.length ∧ okI (L.getD (badAt L) (0, 0)) = false := badAt_bad L (by simpa using ho)
      have h2 := this.2
      unfold okI at h2
      rw [h] at h2
      cases h2
def plB (L : List (Nat × Nat)) : List Int := if encX L = 0 then (List.range (L.length + 1)).map (fun j => (pl L j : Int)) else []
theorem plB_bi (L : List (Nat × Nat)) (h : encX L = 0) : bi (plB L) = plv L L.length ∧ (plB L).length = L.length + 1 := by
  rw [plB, if_pos h]; exact ⟨by simp [bi, plv], by simp⟩
set_option maxHeartbeats 1000000 in
theorem places_any (ao : Option Addr) (cap : Nat) (L : List (Nat × Nat)) (w : World) (hn : L.length ≤ 140737488355328) (hwf : Wfc L) (hr : CRd w ao L w.heap.size) :
    Calls Try.prog 15 #[.slice ao L.length cap] w fun e w' => ∃ v, e = .returned (.tuple #[v, .int .i64 (encX L)]) ∧ w'.ownsRow w.heap.size 3 1 v (plB L).length (bi (plB L)) ∧ Below w.heap.size w w' := by
  by_cases h : encX L = 0
  · obtain ⟨h1, h2⟩ := encX_zero L h
    refine (places_ok ao cap L w hwf hr h1 h2).mono ?_
    rintro e w' ⟨v, rfl, o, b⟩
    rw [(plB_bi L h).1, (plB_bi L h).2, h]
    exact ⟨v, rfl, o, b⟩
  · have hE := encode_any ao cap L w hn hwf hr
    have HP : Hid (plB L = []) := if_neg h
    have h' : ¬ ((encX L : Nat) : Int) = 0 := by omega
    generalize encX L = ex at *
    generalize encI L = ix at *
    clear h hwf hr
    go_enter Try.func15, Try.ntmps15
    go_wp2_with (go_at_call 21; with_reducible refine hE.mono ?_; rintro e w1 ⟨v1, rfl, own1, hb1⟩; obtain ⟨a1, c1, rfl⟩ := own_any own1)
    go_ret2
    exact ⟨_, rfl, by rw [HP.out]; exact World.ownsRow_nil _ _ _ _, hb1⟩
set_option maxHeartbeats 1000000 in
theorem rplaces_any (ao : Option Addr) (cap : Nat) (L : List (Nat × Nat)) (w : World) (hn : L.length ≤ 140737488355328) (hwf : Wfc L) (hr : CRd w ao L w.heap.size) :
    Calls Try.prog 16 #[.slice ao L.length cap] w fun e w' => ∃ v, e = .returned (.tuple #[v, .int .i64 (encX L)]) ∧ w'.ownsRow w.heap.size 3 1 v (plB L).length (bi (plB L)) ∧ Below w.heap.size w w' := by
  by_cases h : encX L = 0
  · obtain ⟨h1, h2⟩ := encX_zero L h
    refine (rplaces_ok ao cap L w hwf hr h1 h2).mono ?_
    rintro e w' ⟨v, rfl, o, b⟩
    rw [(plB_bi L h).1, (plB_bi L h).2, h]
    exact ⟨v, rfl, o, b⟩
  · have hE := rencode_any ao cap L w hn hwf hr
    have HP : Hid (plB L = []) := if_neg h
    have h' : ¬ ((encX L : Nat) : Int) = 0 := by omega
    generalize encX L = ex at *
    generalize encI L = ix at *
    clear h hwf hr
    go_enter Try.func16, Try.ntmps16
    go_wp2_with (go_at_call 28; with_reducible refine hE.mono ?_; rintro e w1 ⟨v1, rfl, own1, hb1⟩; obtain ⟨a1, c1, rfl⟩ := own_any own1)
    go_ret2
    exact ⟨_, rfl, by rw [HP.out]; exact World.ownsRow_nil _ _ _ _, hb1⟩
end Go.Proofs.Ytfkjapkbpdbpmaa
