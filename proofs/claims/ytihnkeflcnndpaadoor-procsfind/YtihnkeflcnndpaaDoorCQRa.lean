import Derived.Test.YtihnkeflcnndpaaDoorQREn
import Derived.Test.YtihnkeflcnndpaaDoorQWd
import Derived.Test.YtihnkeflcnndpaaDoorCPSm
import Derived.Test.YtihnkeflcnndpaaDoorCPFa
namespace Go.Proofs.YtihnkeflcnndpaaDoor
open Go.RowKit Go.WideShapes Go.Shelf
set_option maxRecDepth 100000

theorem isEn_op {L : List (Nat × Nat)} {k : Nat} (h : isEn L k = true) : k < L.length ∧ (L.getD k (0, 0)).1 = 3 := by
  unfold isEn at h
  rw [Bool.and_eq_true, decide_eq_true_eq, beq_iff_eq] at h
  exact h
theorem isEn_no {L : List (Nat × Nat)} {k : Nat} (hk : k < L.length) (h : isEn L k = false) : ¬ (L.getD k (0, 0)).1 = 3 := by
  intro q
  unfold isEn at h
  rw [q, decide_eq_true hk] at h
  cases h
theorem bAt_is {L : List (Nat × Nat)} {q : Nat} (h : q < (bgs L).length) : isEn L (bAt L q) = true := by
  have := bgs_is h
  rw [getD_anyP h 0 L.length] at this
  exact this
set_option maxHeartbeats 1000000 in
theorem rbegin_any (ao : Option Addr) (cap : Nat) (L : List (Nat × Nat)) (i q : Nat) (w : World) (hn : L.length ≤ 9223372036854775807) (hq : q < (bgs L).length) (h1 : bAt L q ≤ i) (h2 : i < bAt L (q + 1)) (hr : CRd w ao L w.heap.size) :
    Calls Tryd.prog 66 #[.slice ao L.length cap, .int .i64 i] w fun e w' => e = .returned (.int .i64 (bAt L q)) ∧ w' = w := by
  have hbe : bAt L (q + 1) ≤ L.length := bgs_end _
  have HIN : Hid (∀ k, bAt L q ≤ k → k < bAt L (q + 1) → isEn L k = decide (k = bAt L q)) := hid_of (fun k a b => (at_in hq a b).2)
  have HIS := hid_of (isEn_op (bAt_is hq))
  obtain ⟨b, off, rfl, hb, hc⟩ := hr (by omega)
  have HC := hid_of hc
  generalize bAt L q = bq at h1 HIN HIS
  generalize bAt L (q + 1) = eq at h2 hbe HIN
  clear hc hr hq
  go_enter Tryd.func66, Tryd.ntmps66
  go_wp2
  go_loopw [1] (fun u wr => ∃ k : Nat, u = .int .i64 k ∧ bq ≤ k ∧ k ≤ i ∧ wr = w)
    (fun u _ => (intOf u).toNat)
  case atStart => exact ⟨i, rfl, h1, Nat.le_refl _, rfl⟩
  case round =>
    obtain ⟨k, rfl, hk1, hk2, hwr⟩ := hrel
    subst hwr
    rename World => w
    have hkL : k < L.length := by omega
    have v0 := (HC.out k hkL).1
    have hkI : (k : Int) < (L.length : Int) := by omega
    by_cases hkb : k = bq
    · have h3 := HIS.out.2
      rw [← hkb] at h3
      rw [h3] at v0
      have hE := hid_of hkb
      clear hkb h3
      go_wp2
      go_ret
      exact ⟨by rw [hE.out]; rfl, rfl⟩
    · have hne := isEn_no hkL (by rw [HIN.out k hk1 (by omega)]; exact decide_eq_false hkb)
      have hop : (((L.getD k (0, 0)).1 : Int) != 3) = true := bne_iff_ne.2 (by omega)
      generalize (L.getD k (0, 0)).1 = op at v0 hop
      have hk0 : (0 : Int) < (k : Int) := by omega
      obtain ⟨m, hm⟩ : ∃ m, k = m + 1 := ⟨k - 1, by omega⟩
      have HM := hid_of hm
      have hsub : (k : Int) - 1 = (m : Int) := by omega
      clear hne hm
      go_wp2
      go_roundw
      case rel => have := HM.out; exact ⟨m, by go_num, by omega, by omega, trivial⟩
      case measure => have := HM.out; simp [intOf]; omega
set_option maxHeartbeats 1000000 in
theorem rend_any (ao : Option Addr) (cap : Nat) (L : List (Nat × Nat)) (q : Nat) (w : World) (hn : L.length ≤ 4611686018427387904) (hq : q < (bgs L).length) (hr : CRd w ao L w.heap.size) :
    Calls Tryd.prog 51 #[.slice ao L.length cap, .int .i64 (bAt L q)] w fun e w' => e = .returned (.int .i64 (bAt L (q + 1))) ∧ w' = w := by
  have hbe : bAt L (q + 1) ≤ L.length := bgs_end _
  have hlt0 := bAt_lt hq
  have HIN : Hid (∀ k, bAt L q ≤ k → k < bAt L (q + 1) → isEn L k = decide (k = bAt L q)) := hid_of (fun k a b => (at_in hq a b).2)
  have HEN : Hid (bAt L (q + 1) < L.length → (L.getD (bAt L (q + 1)) (0, 0)).1 = 3) := hid_of (fun hlt => by
    by_cases h2 : q + 1 < (bgs L).length
    · exact (isEn_op (bAt_is h2)).2
    · have : bAt L (q + 1) = L.length := getD_outP (by omega)
      omega)
  obtain ⟨b, off, rfl, hb, hc⟩ := hr (by omega)
  have HC := hid_of hc
  generalize bAt L q = bq at HIN hlt0
  generalize bAt L (q + 1) = eq at hbe HIN HEN hlt0
  clear hc hr hq
  go_enter Tryd.func51, Tryd.ntmps51
  go_wp2
  go_loopw [5] (fun u wr => ∃ k : Nat, u = .int .i64 k ∧ bq < k ∧ k ≤ eq ∧ wr = w)
    (fun u _ => eq - (intOf u).toNat)
  case atStart => exact ⟨bq + 1, by go_num, by omega, by omega, rfl⟩
  case round =>
    obtain ⟨k, rfl, hk1, hk2, hwr⟩ := hrel
    subst hwr
    rename World => w
    by_cases hke : k < eq
    · have hkL : k < L.length := by omega
      have v0 := (HC.out k hkL).1
      have hkI : (k : Int) < (L.length : Int) := by omega
      have hne := isEn_no hkL (by rw [HIN.out k (by omega) hke]; exact decide_eq_false (by omega))
      have hop : (((L.getD k (0, 0)).1 : Int) != 3) = true := bne_iff_ne.2 (by omega)
      generalize (L.getD k (0, 0)).1 = op at v0 hop
      clear hne
      go_wp2
      go_roundw
      case rel => exact ⟨k + 1, by go_num, by omega, by omega, trivial⟩
      case measure => simp [intOf]; omega
    · have hkq : k = eq := by omega
      subst hkq
      by_cases hkL : k < L.length
      · have v0 := (HC.out k hkL).1
        rw [HEN.out hkL] at v0
        have hkI : (k : Int) < (L.length : Int) := by omega
        go_wp2
        go_ret
        exact ⟨rfl, rfl⟩
      · have hkI : ¬ (k : Int) < (L.length : Int) := by omega
        go_wp2
        go_ret
        exact ⟨rfl, rfl⟩
set_option maxHeartbeats 1000000 in
theorem rinside_any (ao : Option Addr) (cap : Nat) (L : List (Nat × Nat)) (z : Nat) (w : World) (hn : L.length ≤ 9223372036854775807) (hz : z < 4294967296) (hr : CRd w ao L w.heap.size) :
    Calls Tryd.prog 50 #[.slice ao L.length cap, .int .u32 z] w fun e w' => e = .returned (.bool (decide (z < L.length) && !isEn L z)) ∧ w' = w := by
  by_cases hzL : z < L.length
  · obtain ⟨b, off, rfl, hb, hc⟩ := hr (by omega)
    have v0 := (hc z hzL).1
    have hzI : (z : Int) < (L.length : Int) := by omega
    rw [decide_eq_true hzL, op_is hzL]
    generalize (L.getD z (0, 0)).1 = op at v0
    clear hc hr
    by_cases h3 : op = 3
    · subst h3
      go_enter Tryd.func50, Tryd.ntmps50
      go_wp2
      go_ret
      exact ⟨rfl, rfl⟩
    · have hop : ((op : Int) != 3) = true := bne_iff_ne.2 (by omega)
      rw [show (op == 3) = false from beq_eq_false_iff_ne.2 h3]
      clear h3
      go_enter Tryd.func50, Tryd.ntmps50
      go_wp2
      go_ret
      exact ⟨rfl, rfl⟩
  · have hzI : ¬ (z : Int) < (L.length : Int) := by omega
    rw [decide_eq_false hzL]
    clear hr
    go_enter Tryd.func50, Tryd.ntmps50
    go_wp2
    go_ret
    exact ⟨rfl, rfl⟩
set_option maxHeartbeats 1000000 in
theorem rof_any (ao : Option Addr) (cap : Nat) (L : List (Nat × Nat)) (z : Nat) (w : World) (hn : L.length ≤ 16384) (hz : z < 4294967296) (hr : CRd w ao L w.heap.size) :
    Calls Tryd.prog 27 #[.slice ao L.length cap, .int .u32 z] w fun e w' => e = .returned (.int .i64 (ofL L z)) ∧ w' = w := by
  by_cases hzL : z < L.length
  · obtain ⟨b, off, rfl, hb, hc⟩ := hr (by omega)
    have HC := hid_of hc
    have hzI : (z : Int) < (L.length : Int) := by omega
    have hzI2 : ¬ (L.length : Int) ≤ (z : Int) := by omega
    have HOF : Hid (ofL L z = ((els (z + 1) (isEn L)).length : Int) - 1) := hid_of (by rw [ofL, if_pos hzL])
    clear hc hr
    go_enter Tryd.func27, Tryd.ntmps27
    go_wp2
    go_loopw [5, 6] (fun u v wr => ∃ k m : Nat, u = .int .i64 ((m : Int) - 1) ∧ v = .int .i64 k ∧ k ≤ z + 1 ∧ m = (els k (isEn L)).length ∧ m ≤ k ∧ wr = w)
      (fun _ v _ => z + 1 - (intOf v).toNat)
    case atStart => exact ⟨0, 0, rfl, rfl, Nat.zero_le _, rfl, Nat.le_refl _, rfl⟩
    case round =>
      obtain ⟨k, m, rfl, rfl, hk, hm, hmk, hwr⟩ := hrel
      subst hwr
      rename World => w
      have HM := hid_of hm
      clear hm
      by_cases hkz : k ≤ z
      · have hkL : k < L.length := by omega
        have v0 := (HC.out k hkL).1
        have hkI : (k : Int) < (L.length : Int) := by omega
        have hkzI : (k : Int) ≤ (z : Int) := by omega
        have HS := hid_of (els_succ k (isEn L))
        have HE := hid_of (op_is hkL)
        generalize (L.getD k (0, 0)).1 = op at v0 HE
        by_cases h3 : op = 3
        · subst h3
          have hs1 : (m : Int) - 1 + 1 = (m : Int) := by omega
          go_wp2
          go_roundw
          case rel => exact ⟨k + 1, m + 1, by go_num, by go_num, by omega, by rw [HS.out, HE.out, List.length_append, HM.out]; rfl, by omega, trivial⟩
          case measure => simp [intOf]; omega
        · have hop : ((op : Int) == 3) = false := beq_eq_false_iff_ne.2 (by omega)
          have H3 := hid_of h3
          clear h3
          go_wp2
          go_roundw
          case rel => exact ⟨k + 1, m, by go_num, by go_num, by omega, by rw [HS.out, HE.out, beq_eq_false_iff_ne.2 H3.out, List.length_append, HM.out]; rfl, by omega, trivial⟩
          case measure => simp [intOf]; omega
      · have hkzI : ¬ (k : Int) ≤ (z : Int) := by omega
        have hke : k = z + 1 := by omega
        have HK := hid_of hke
        clear hke
        go_wp2
        go_ret
        refine ⟨?_, rfl⟩
        rw [HOF.out, ← HK.out, ← HM.out]
        rfl
  · have hzI : (L.length : Int) ≤ (z : Int) := by omega
    rw [ofL, if_neg hzL]
    clear hr
    go_enter Tryd.func27, Tryd.ntmps27
    go_wp2
    go_ret
    exact ⟨rfl, rfl⟩
end Go.Proofs.YtihnkeflcnndpaaDoor
namespace Go.Proofs.YtihnkeflcnndpaaDoor
open Go.RowKit Go.WideShapes Go.Shelf
set_option maxRecDepth 100000

set_option maxHeartbeats 2000000 in
theorem rlegal_any (ao aj : Option Addr) (cap capj : Nat) (L : List (Nat × Nat)) (J : List Nat) (x y : Nat) (w : World) (hn : L.length ≤ 16384) (hJn : J.length ≤ 4611686018427387904) (hx : x < 4294967296) (hy : y < 4294967296) (hE : isEn L 0 = true) (hJL : ∀ z ∈ J, z < L.length) (hr : CRd w ao L w.heap.size) (hrJ : JRd w aj J w.heap.size) :
    Calls Tryd.prog 28 #[.slice ao L.length cap, .slice aj J.length capj, .int .u32 x, .int .u32 y] w fun e w' => e = .returned (.bool (decide (y ∈ J) && (ofL L x == ofL L y))) ∧ w' = w := by
  have HX := hid_of (rof_any ao cap L x w hn hx hr)
  have HY := hid_of (rof_any ao cap L y w hn hy hr)
  have HNG : Hid (y ∈ J → ofL L x = ofL L y → ¬ ofL L x < 0) := hid_of (fun h1 h2 h3 => by
    rw [h2] at h3
    exact (ofL_neg hE y).1 h3 (hJL y h1))
  clear hr hJL
  go_enter Tryd.func28, Tryd.ntmps28
  go_wp2
  go_loopw [9, 10] (fun u v wr => ∃ k : Nat, u = .bool (decide (y ∈ J.take k)) ∧ v = .int .i64 k ∧ k ≤ J.length ∧ wr = w)
    (fun _ v _ => J.length - (intOf v).toNat)
  case atStart => exact ⟨0, by simp, rfl, Nat.zero_le _, rfl⟩
  case round =>
    obtain ⟨k, rfl, rfl, hk, hwr⟩ := hrel
    subst hwr
    rename World => w
    by_cases hlt : k < J.length
    · have hltI : (k : Int) < (J.length : Int) := by omega
      obtain ⟨b, off, rfl, hb, hc⟩ := hrJ (by omega)
      have v0 := hc k hlt
      have HTK := hid_of (takeN J k hlt)
      generalize J.getD k 0 = z at v0 HTK
      clear hc
      by_cases hzy : z = y
      · subst hzy
        have hzB : ((z : Int) == (z : Int)) = true := by simp
        go_wp2
        go_roundw
        case rel => exact ⟨k + 1, by rw [HTK.out]; simp, by go_num, by omega, by first | rfl | trivial⟩
        case measure => simp [intOf]; omega
      · have hzB : ((z : Int) == (y : Int)) = false := beq_eq_false_iff_ne.2 (by omega)
        have HZY := hid_of hzy
        clear hzy
        go_wp2
        go_roundw
        case rel => exact ⟨k + 1, by rw [HTK.out]; simp [Ne.symm HZY.out], by go_num, by omega, by first | rfl | trivial⟩
        case measure => simp [intOf]; omega
    · have hltI : ¬ (k : Int) < (J.length : Int) := by omega
      have hke : k = J.length := by omega
      rw [hke, List.take_length]
      clear hke hlt
      by_cases hyJ : y ∈ J
      · rw [decide_eq_true hyJ]
        by_cases ho : ofL L x = ofL L y
        · have hng := HNG.out hyJ ho
          have HFin : Hid ((decide (y ∈ J) && (ofL L x == ofL L y)) = true) := hid_of (by rw [decide_eq_true hyJ, ho]; simp)
          rw [← ho] at HY
          obtain ⟨ox, hox⟩ : ∃ o, ofL L x = o := ⟨_, rfl⟩
          rw [hox] at HX HY hng
          clear hox
          have hge : (0 : Int) ≤ ox := by omega
          clear hng ho
          go_wp2_with (first
            | (go_at_call 27; with_reducible refine HX.out.mono ?_; rintro e2 w2 ⟨rfl, hw2⟩; have hw2 := hw2.symm; subst hw2; clear HX)
            | (go_at_call 27; with_reducible refine HY.out.mono ?_; rintro e3 w3 ⟨rfl, hw3⟩; have hw3 := hw3.symm; subst hw3))
          go_ret
          exact ⟨by first | (rw [HFin.out]; rfl) | rfl, rfl⟩
        · have HFin : Hid ((decide (y ∈ J) && (ofL L x == ofL L y)) = false) := hid_of (by rw [decide_eq_true hyJ, beq_eq_false_iff_ne.2 ho]; rfl)
          have hB : (ofL L x == ofL L y) = false := beq_eq_false_iff_ne.2 ho
          have HF2 := hid_of hB
          obtain ⟨ox, hox⟩ : ∃ o, ofL L x = o := ⟨_, rfl⟩
          obtain ⟨oy, hoy⟩ : ∃ o, ofL L y = o := ⟨_, rfl⟩
          rw [hox] at HX hB
          rw [hoy] at HY hB
          clear hox hoy
          clear ho HNG
          by_cases hge : 0 ≤ ox
          · go_wp2_with (first
              | (go_at_call 27; with_reducible refine HX.out.mono ?_; rintro e2 w2 ⟨rfl, hw2⟩; have hw2 := hw2.symm; subst hw2; clear HX)
              | (go_at_call 27; with_reducible refine HY.out.mono ?_; rintro e3 w3 ⟨rfl, hw3⟩; have hw3 := hw3.symm; subst hw3))
            go_ret
            exact ⟨by first | (rw [HFin.out]; rfl) | (rw [HF2.out]; rfl) | rfl, rfl⟩
          · go_wp2_with (first
              | (go_at_call 27; with_reducible refine HX.out.mono ?_; rintro e2 w2 ⟨rfl, hw2⟩; have hw2 := hw2.symm; subst hw2; clear HX)
              | (go_at_call 27; with_reducible refine HY.out.mono ?_; rintro e3 w3 ⟨rfl, hw3⟩; have hw3 := hw3.symm; subst hw3))
            go_ret
            exact ⟨by first | (rw [HFin.out]; rfl) | (rw [HF2.out]; rfl) | rfl, rfl⟩
      · have HFin : Hid ((decide (y ∈ J) && (ofL L x == ofL L y)) = false) := hid_of (by rw [decide_eq_false hyJ, Bool.false_and])
        rw [decide_eq_false hyJ]
        obtain ⟨ox, hox⟩ : ∃ o, ofL L x = o := ⟨_, rfl⟩
        rw [hox] at HX
        clear HNG hox
        go_wp2_with (go_at_call 27; with_reducible refine HX.out.mono ?_; rintro e2 w2 ⟨rfl, hw2⟩; have hw2 := hw2.symm; subst hw2)
        go_ret
        exact ⟨by first | (rw [HFin.out]; rfl) | rfl, rfl⟩
/-- the jumps that lie in a procedure -/
def tgL (L : List (Nat × Nat)) (J : List Nat) (n : Int) : List Nat := J.filter fun z => ofL L z == n
theorem tgL_snoc (L : List (Nat × Nat)) (J : List Nat) (z : Nat) (n : Int) : tgL L (J ++ [z]) n = tgL L J n ++ (if ofL L z == n then [z] else []) := by
  unfold tgL
  rw [List.filter_append]
  congr 1
  by_cases h : (ofL L z == n) = true
  · rw [if_pos h]
    simp [h]
  · rw [if_neg h]
    simp [h]
theorem tgL_le (L : List (Nat × Nat)) (J : List Nat) (n : Int) : (tgL L J n).length ≤ J.length := List.length_filter_le _ _
set_option maxHeartbeats 2000000 in
theorem rtargets_any (ao aj : Option Addr) (cap capj : Nat) (L : List (Nat × Nat)) (J : List Nat) (n : Int) (w : World) (hn : L.length ≤ 16384) (hJn : J.length ≤ 35184372087808) (hJ : ∀ z ∈ J, z < 4294967296) (hr : CRd w ao L w.heap.size) (hrJ : JRd w aj J w.heap.size) :
    Calls Tryd.prog 29 #[.slice ao L.length cap, .slice aj J.length capj, .int .i64 n] w fun e w' => ∃ v, e = .returned v ∧ w'.ownsRow w.heap.size 32 1 v (tgL L J n).length (dv (tgL L J n)) ∧ Below w.heap.size w w' := by
  obtain ⟨i0, hi, hz0, hz1, hz2⟩ := info_parts Tryd.infoD
  go_enter Tryd.func29, Tryd.ntmps29
  go_wp2
  go_loopw [7, 8] (fun u v wr => ∃ k : Nat, v = .int .i64 k ∧ k ≤ J.length ∧ wr.ownsRow w.heap.size 32 1 u (tgL L (J.take k) n).length (dv (tgL L (J.take k) n)) ∧ Below w.heap.size w wr)
    (fun _ v _ => J.length - (intOf v).toNat)
  case atStart => exact ⟨0, rfl, Nat.zero_le _, World.ownsRow_nil _ _ _ _, Below.refl _ _⟩
  case round =>
    obtain ⟨k, rfl, hk, hown, hb⟩ := hrel
    by_cases hlt : k < J.length
    · have hltI : (k : Int) < (J.length : Int) := by omega
      obtain ⟨b, off, rfl, hbj, hc⟩ := (hrJ.below hb) (by omega)
      have v0 := hc k hlt
      have hz : J.getD k 0 < 4294967296 := hJ _ (getD_memP hlt)
      have hO := rof_any ao cap L (J.getD k 0) wr hn hz ((hr.below hb).mono hb.size)
      have HTK := hid_of (takeN J k hlt)
      have HTS := hid_of (fun z => tgL_snoc L (J.take k) z n)
      have htl : (tgL L (J.take k) n).length ≤ k := Nat.le_trans (tgL_le _ _ _) (by simp; omega)
      generalize J.getD k 0 = z at v0 hz hO HTK
      generalize tgL L (J.take k) n = tg at hown HTS htl
      have hB := hb.size
      clear hc
      by_cases ho : ofL L z = n
      · have hoB : (ofL L z == n) = true := by rw [ho]; simp
        have HOB := hid_of hoB
        rw [ho] at hO
        clear ho hoB
        go_wp2_with (first
          | (go_at_call 27; with_reducible refine hO.mono ?_; rintro e2 w2 ⟨rfl, hw2⟩; have hw2 := hw2.symm; subst hw2)
          | (at_builtin; refine wpList_append_own _ rfl _ _ 23 rfl w.heap.size 32 i0 (.int .u32 0) 1 4 Tryd.underlying23 hi hz0 hz1 hz2 rfl (by decide) _ _ _ rfl (hown.alloc _) ⟨_, 0, none⟩ 1 1 [.int .u32 z] rfl rfl ?c1 ?c2 ?c3 ?c4 ?c5 ?_))
        case c1 =>
          intro j u hj
          match j, hj with
          | 0, hj => simp at hj; subst hj; simp [Addr.add]
        case c2 => intro u hu; simp at hu; subst hu; rfl
        case c3 => unfold maxLen; omega
        case c4 => omega
        case c5 => simp; omega
        intro v' w1 hown' hgrow _
        have R2 : Below w.heap.size w w1 := grown_below hb hB hown hgrow
        have R1 : w1.ownsRow w.heap.size 32 1 v' (tgL L (J.take (k + 1)) n).length (dv (tgL L (J.take (k + 1)) n)) := by
          rw [HTK.out, HTS.out, if_pos HOB.out, dv_snoc, List.length_append]
          exact hown'
        clear hown' hgrow hown hO
        go_wp2
        go_roundw
        case rel => exact ⟨k + 1, by go_num, by omega, R1, R2⟩
        case measure => simp [intOf]; omega
      · have hoB : (ofL L z == n) = false := beq_eq_false_iff_ne.2 ho
        have HT2 : Hid (tgL L (J.take (k + 1)) n = tg) := hid_of (by rw [HTK.out, HTS.out, if_neg (by rw [hoB]; decide), List.append_nil])
        generalize ofL L z = oz at hO hoB
        clear ho HTS
        go_wp2_with (go_at_call 27; with_reducible refine hO.mono ?_; rintro e2 w2 ⟨rfl, hw2⟩; have hw2 := hw2.symm; subst hw2)
        go_roundw
        case rel => exact ⟨k + 1, by go_num, by omega, by rw [HT2.out]; exact hown, hb⟩
        case measure => simp [intOf]; omega
    · have hltI : ¬ (k : Int) < (J.length : Int) := by omega
      have hke : k = J.length := by omega
      rw [hke, List.take_length] at hown
      clear hke
      go_wp2
      go_ret
      exact ⟨_, rfl, hown, hb⟩
end Go.Proofs.YtihnkeflcnndpaaDoor
namespace Go.Proofs.YtihnkeflcnndpaaDoor
open Go.RowKit Go.WideShapes Go.Shelf
set_option maxRecDepth 100000

theorem Tryd.infoPr : (Tryd.prog.info? 43).map (fun i => (i.zero, i.size, i.bytes)) = some (some (.agg #[.int .u32 0, .int .u32 0, .int .u32 0, .int .i64 0]), 4, 24) := by kernel_rfl
theorem bAt_cnt {L : List (Nat × Nat)} {i : Nat} (h : isEn L i = true) : (els i (isEn L)).length < (bgs L).length ∧ bAt L (els i (isEn L)).length = i := by
  have hi := (isEn_op h).1
  have hc := els_cut L.length i (isEn L) (by omega)
  rw [rng_one hi h] at hc
  constructor
  · rw [bgs, hc]
    simp
  · unfold bAt bgs
    rw [hc, List.getD_eq_getElem?_getD, List.getElem?_append_right (Nat.le_refl _)]
    simp
theorem ptake3 (P : List (Nat × Nat × Nat)) (k : Nat) (h : k < P.length) : P.take (k + 1) = P.take k ++ [P.getD k (0, 0, 0)] := by
  rw [List.take_add_one, List.getElem?_eq_getElem h]
  simp [List.getD_eq_getElem?_getD, List.getElem?_eq_getElem h]
theorem append_wp {w : World} {o : Oper} {a : Act} {K : Act → World → Prop} {Q : Exit → Act → World → Prop} (s x : Operand) (ho : o.op = .call { callee := .builtin .append, args := #[s, x], argTypes := #[71, 71] })
    (base g : Nat) (lv : Value) (m : Nat) (pt : List (Nat × Nat × Nat)) (k be arg : Nat) (hs : a.eval s = lv) (hx : a.eval x = .slice (some ⟨g, 0, none⟩) 1 1) (hown : w.ownsRow base 43 4 lv m (pv pt)) (hobj : w.heap[g]? = some (Obj.cells #[.int .u32 (k : Int), .int .u32 (be : Int), .int .u32 (arg : Int), .int .i64 0] 43)) (hm : m ≤ 16384) (hbase : base ≤ w.heap.size)
    (h : ∀ v' w', w'.ownsRow base 43 4 v' (m + 1) (pv (pt ++ [(k, be, arg)])) → Below base w w' → K (a.put o.dst v') w') : Oper.wp Tryd.prog o a w K Q := by
  obtain ⟨i0, hi, hz0, hz1, hz2⟩ := info_parts Tryd.infoPr
  refine wp_append_own w s x _ ho base 43 i0 (.agg #[.int .u32 0, .int .u32 0, .int .u32 0, .int .i64 0]) 4 24 Tryd.underlying71 hi hz0 hz1 hz2 rfl (by decide) lv m (pv pt) hs hown ⟨g, 0, none⟩ 1 1 [.int .u32 (k : Int), .int .u32 (be : Int), .int .u32 (arg : Int), .int .i64 0] hx rfl ?_ ?_ (by unfold maxLen; omega) (by omega) hbase ?_
  · intro j u hj
    rw [add_plain]
    have hl : j < 4 := by simpa using (List.getElem?_eq_some_iff.1 hj).1
    match j, hl, hj with
    | 0, _, hj => rw [obj_cell hobj]; exact hj
    | 1, _, hj => rw [obj_cell hobj]; exact hj
    | 2, _, hj => rw [obj_cell hobj]; exact hj
    | 3, _, hj => rw [obj_cell hobj]; exact hj
  · intro u hu
    simp at hu
    rcases hu with rfl | rfl | rfl | rfl <;> rfl
  · intro v' w' h1 h2 _
    exact h v' w' (by rw [pv_append]; exact h1) ((Below.refl base w).grown h2 hbase (fun q e => (hown.lt q e).1))
set_option maxHeartbeats 2000000 in
theorem rprocs_any (ao : Option Addr) (cap : Nat) (L : List (Nat × Nat)) (w : World) (hn : L.length ≤ 16384) (hr : CRd w ao L w.heap.size) :
    Calls Tryd.prog 26 #[.slice ao L.length cap] w fun e w' => ∃ v, e = .returned v ∧ w'.ownsRow w.heap.size 43 4 v (prL L).length (pv (prL L)) ∧ Below w.heap.size w w' := by
  obtain ⟨i0, hi, hz0, hz1, hz2⟩ := info_parts Tryd.infoPr
  go_enter Tryd.func26, Tryd.ntmps26
  go_wp2
  go_loopw [3, 4] (fun u v wr => ∃ k : Nat, v = .int .i64 k ∧ k ≤ L.length ∧ (els k (isEn L)).length ≤ k ∧ wr.ownsRow w.heap.size 43 4 u (els k (isEn L)).length (pv ((prL L).take (els k (isEn L)).length)) ∧ Below w.heap.size w wr)
    (fun _ v _ => L.length - (intOf v).toNat)
  case atStart => exact ⟨0, rfl, Nat.zero_le _, Nat.le_refl _, World.ownsRow_nil _ _ _ _, Below.refl _ _⟩
  case round =>
    obtain ⟨k, rfl, hk, hmk, hown, hb⟩ := hrel
    by_cases hlt : k < L.length
    · have hltI : (k : Int) < (L.length : Int) := by omega
      have hB := hb.size
      have HV0 := hid_of (fun V (hV : Below w.heap.size w V) => (hr.below hV) (Nat.lt_of_le_of_lt (Nat.zero_le _) hlt))
      obtain ⟨b, off, rfl, hbc, hc⟩ := (hr.below hb) (by omega)
      replace HV0 : Hid (∀ V, Below w.heap.size w V → V.cell? ⟨b, off + k * 2 + 1, none⟩ = some (.int .u32 ((L.getD k (0, 0)).2 : Nat))) := hid_of (fun V hV => by
        obtain ⟨b', off', e, _, hc'⟩ := HV0.out V hV
        cases e
        exact (hc' k hlt).2)
      obtain ⟨v0, v1⟩ := hc k hlt
      have HS := hid_of (els_succ k (isEn L))
      by_cases hen : isEn L k = true
      · have h3 := (isEn_op hen).2
        rw [h3] at v0
        obtain ⟨hq1, hq2⟩ := bAt_cnt hen
        have hEnd := rend_any (some ⟨b, off, none⟩) cap L (els k (isEn L)).length wr.drew (by omega) hq1 (by have h := (hr.below hb).mono hB; exact h)
        rw [hq2] at hEnd
        have HPT : Hid ((prL L).take ((els k (isEn L)).length + 1) = (prL L).take (els k (isEn L)).length ++ [(k, bAt L ((els k (isEn L)).length + 1), argL L k)]) := hid_of (by
          rw [ptake3 _ _ (by rw [prs_len]; exact hq1), prL_get L hq1, hq2])
        have HEN := hid_of hen
        have hbe : bAt L ((els k (isEn L)).length + 1) ≤ L.length := bgs_end _
        rw [show (L.getD k (0, 0)).2 = argL L k from rfl] at v1 HV0
        generalize argL L k = arg at v1 HPT HV0
        generalize bAt L ((els k (isEn L)).length + 1) = be at hEnd HPT hbe
        generalize (prL L).take (els k (isEn L)).length = pt at hown HPT
        obtain ⟨m, hml⟩ : ∃ m, (els k (isEn L)).length = m := ⟨_, rfl⟩
        have HML := hid_of hml
        rw [hml] at hown HPT hmk
        clear hml
        clear hq1 hq2 h3 hen hc
        have hwk : IntKind.u32.wrap (k : Int) = (k : Int) := by rw [IntKind.wrap_u32]; omega
        have hwe : IntKind.u32.wrap (be : Int) = (be : Int) := by rw [IntKind.wrap_u32]; omega
        have HV : Hid (∀ V, Below w.heap.size w V → V.cell? ⟨b, off + k * 2 + 1, none⟩ = some (.int .u32 (arg : Nat))) := hid_of HV0.out
        have HB := hid_of hb
        have HOW : Hid ((wr.alloc (Obj.cells #[.int .u32 (k : Int), .int .u32 (be : Int), .int .u32 (arg : Int), .int .i64 0] 43)).drew.ownsRow w.heap.size 43 4 u3 m (pv pt)) := hid_of (hown.alloc _).drew
        have hm16 : m ≤ 16384 := by omega
        clear hown
        have hk0 : (0 : Int) ≤ (k : Int) := by omega
        go_wp2_with fail
        go_region_held3 (fun V => V.cell? ⟨b, off + k * 2 + 1, none⟩ = some (.int .u32 (arg : Nat))) (first | exact HV.out _ HB.out | exact HV.out _ (below_drewN HB.out 1) | exact HV.out _ (belP (below_drewN HB.out 1)) | exact HV.out _ (below_drewN (belP HB.out) 1) | exact HV.out _ ((below_drewN (belP HB.out) 1).trans R2)) (first
          | (go_at_call 51; with_reducible refine hEnd.mono ?_; rintro e2 w2 ⟨rfl, hw2⟩; subst hw2)
          | (rw [if_pos (by rfl)]; refine append_wp _ _ rfl w.heap.size _ u3 m pt k be arg rfl rfl HOW.out (heap_alloc_new wr _) hm16 (below_drewN (belP HB.out) 1).size ?_; intro v' w1 hown' R2))
        have HR : Hid (w1.ownsRow w.heap.size 43 4 v' (m + 1) (pv (pt ++ [(k, be, arg)])) ∧ Below w.heap.size w w1) := hid_of ⟨hown', (below_drewN (belP hb) 1).trans R2⟩
        clear hown' R2 HOW
        go_wp2
        go_roundw
        case rel =>
          have e := HS.out
          rw [if_pos HEN.out] at e
          have e2 : (els (k + 1) (isEn L)).length = m + 1 := by rw [e, List.length_append]; simp [HML.out]
          refine ⟨k + 1, by go_num, by omega, by omega, ?_, HR.out.2⟩
          rw [e2, HPT.out]
          exact HR.out.1
        case measure => simp [intOf]; omega
      · have hfe : isEn L k = false := by simpa using hen
        have hop : ((L.getD k (0, 0)).1 : Int) ≠ 3 := fun h => hen (by rw [op_is hlt]; exact beq_iff_eq.2 (by omega))
        have h3 : (((L.getD k (0, 0)).1 : Int) == (3 : Int)) = false := beq_eq_false_iff_ne.2 hop
        have HR := hid_of hown
        have HB := hid_of hb
        have HFE := hid_of hfe
        have HMK := hid_of hmk
        generalize (L.getD k (0, 0)).1 = op at v0 h3 hop
        clear hen hfe hown hc v1 HV0 hmk
        go_wp2
        go_roundw
        case rel =>
          have e := HS.out
          rw [if_neg (by rw [HFE.out]; decide), List.append_nil] at e
          refine ⟨k + 1, by go_num, by omega, ?_, ?_, HB.out⟩
          · rw [e]
            exact Nat.le_succ_of_le HMK.out
          · rw [e]
            exact HR.out
        case measure => simp [intOf]; omega
    · have hltI : ¬ (k : Int) < (L.length : Int) := by omega
      have hke : k = L.length := by omega
      have HR : Hid (wr.ownsRow w.heap.size 43 4 u3 (prL L).length (pv (prL L)) ∧ Below w.heap.size w wr) := hid_of (by
        have e : (els k (isEn L)).length = (prL L).length := by rw [hke, prs_len]
        rw [e, List.take_length] at hown
        exact ⟨hown, hb⟩)
      clear hown hb hmk
      go_wp2
      go_ret
      exact ⟨_, rfl, HR.out.1, HR.out.2⟩
end Go.Proofs.YtihnkeflcnndpaaDoor
namespace Go.Proofs.YtihnkeflcnndpaaDoor
open Go.RowKit Go.WideShapes Go.Shelf
set_option maxRecDepth 100000

theorem run_store_funcP (P : Program) (w : World) (a : Addr) (f : Fn) (x y : Array Value) (m : Mode) : (store a (.func f x y) m).run P w = stored P w a (.func f x y) m := run_store P w a _ m rfl
theorem ret_intP {k : IntKind} {a b : Int} (h : a = b) : Ending.returned (.int k a) = .returned (.int k b) := by rw [h]
set_option maxHeartbeats 1000000 in
theorem pick_any (x n : Int) (w : World) (hx0 : -9223372036854775808 ≤ x) (hx1 : x ≤ 9223372036854775807) (h1 : 1 ≤ n) (h2 : n ≤ 4611686018427387904) :
    Calls Tryd.prog 8 #[.int .i64 x, .int .i64 n] w fun e w' => e = .returned (.int .i64 (x % n)) ∧ w' = w := by
  have hm : x.tmod n = if 0 ≤ x ∨ n ∣ x then x % n else x % n - n := by
    have := Int.tmod_eq_emod (a := x) (b := n)
    rw [this]
    have hn : (n.natAbs : Int) = n := by omega
    by_cases hc : 0 ≤ x ∨ n ∣ x
    · simp [hc]
    · simp [hc, hn]
  have he0 := Int.emod_nonneg x (show n ≠ 0 by omega)
  have he1 := Int.emod_lt_of_pos x (show 0 < n by omega)
  by_cases hx : 0 ≤ x
  · clear hm
    go_enter Tryd.func8, Tryd.ntmps8
    go_wp2
    go_ret
    exact ⟨rfl, rfl⟩
  · have h0 : x.tmod n = 0 ∧ x % n = 0 ∨ x.tmod n < 0 ∧ x.tmod n + n = x % n ∧ -n < x.tmod n := by
      by_cases hc : n ∣ x
      · left
        rw [hm, if_pos (.inr hc)]
        exact ⟨Int.emod_eq_zero_of_dvd hc, Int.emod_eq_zero_of_dvd hc⟩
      · right
        have hne : x % n ≠ 0 := fun h => hc (Int.dvd_of_emod_eq_zero h)
        rw [hm, if_neg (by omega)]
        omega
    clear hm
    rcases h0 with ⟨h3, h4⟩ | ⟨h3, h4, h5⟩
    · have H4 : Hid (x % n = 0) := h4
      clear h4
      go_enter Tryd.func8, Tryd.ntmps8
      go_wp2
      go_ret
      exact ⟨ret_intP (by rw [H4.out]), rfl⟩
    · have H4 : Hid (x.tmod n + n = x % n) := h4
      clear h4
      go_enter Tryd.func8, Tryd.ntmps8
      go_wp2
      go_ret
      exact ⟨ret_intP (by rw [H4.out]), rfl⟩


end Go.Proofs.YtihnkeflcnndpaaDoor
