import Derived.Test.YtihnkeflcnndpaaDoorQRb
namespace Go.Proofs.YtihnkeflcnndpaaDoor
open Go.RowKit Go.WideShapes Go.Shelf
set_option maxRecDepth 100000

/-- what is wrong with an instruction -/
def errA (L : List (Nat × Nat)) (j : Nat) : Nat := errP L ((prL L).getD ((els (j + 1) (isEn L)).length - 1) (0, 0, 0)) j
theorem errA_in {L : List (Nat × Nat)} {q j : Nat} (hq : q < (bgs L).length) (h1 : bAt L q ≤ j) (h2 : j < bAt L (q + 1)) : errA L j = errP L ((prL L).getD q (0, 0, 0)) j := by
  unfold bAt at h1 h2
  rw [getD_anyP hq L.length 0] at h1
  rw [errA, cnt_eq hq h1 h2]
  rfl
theorem bAt_mono {L : List (Nat × Nat)} {q k : Nat} (hqk : q < k) (hk : k < (bgs L).length) : bAt L (q + 1) ≤ bAt L k := by
  by_cases h : q + 1 = k
  · rw [h]
    exact Nat.le_refl _
  · unfold bAt
    rw [getD_anyP (by omega : q + 1 < (bgs L).length) L.length 0]
    exact Nat.le_of_lt (bgs_up (by omega) hk)
theorem ckR_bad {L : List (Nat × Nat)} (hE : isEn L 0 = true) {i x : Nat} (hi : i < L.length) (hx : x ≠ 0) (he : errA L i = x) (hj : ∀ j, j < i → errA L j = 0) : CkR L (prL L) i x := by
  obtain ⟨q, hq, h1, h2⟩ := lies_in hE hi
  rw [getD_anyP hq 0 L.length] at h1
  have hqp : q < (prL L).length := by rw [prs_len]; exact hq
  have hqg := prL_get L hq
  refine .inr ⟨hx, q, hqp, by rw [hqg]; exact h1, by rw [hqg]; exact h2, by rw [← errA_in hq h1 h2]; exact he, fun j a b => ?_, fun k hk j a b => ?_⟩
  · rw [hqg] at a
    rw [← errA_in hq a (Nat.lt_trans b h2)]
    exact hj j b
  · have hk2 : k < (bgs L).length := by omega
    rw [prL_get L hk2] at a b
    rw [← errA_in hk2 a b]
    have := bAt_mono hk hq
    exact hj j (Nat.lt_of_lt_of_le b (Nat.le_trans this h1))
theorem ckR_ok {L : List (Nat × Nat)} (hj : ∀ j, j < L.length → errA L j = 0) : CkR L (prL L) 0 0 := .inl ⟨rfl, rfl, fun k hk j a b => by
  have hk2 : k < (bgs L).length := by rw [← prs_len L]; exact hk
  rw [prL_get L hk2] at a b
  rw [← errA_in hk2 a b]
  exact hj j (Nat.lt_of_lt_of_le b (bgs_end _))⟩
/-- what the document's Find answers -/
def RfP (w : World) (L : List (Nat × Nat)) (J : List Nat) (M : List (ByteArray × Nat)) (e : Ending) (w' : World) : Prop :=
  Below w.heap.size w w' ∧ ∃ i x : Nat, e = .returned (.tuple #[.int .i64 i, .int .i64 x]) ∧ ((x ≠ 0 ∧ FdB L J M i x) ∨ (x = 0 ∧ i = 0 ∧ FdG L J M))
set_option maxHeartbeats 4000000 in
theorem rfind_any (ao aj an : Option Addr) (cap capj capn : Nat) (L : List (Nat × Nat)) (J : List Nat) (M : List (ByteArray × Nat)) (w : World) (hn : L.length ≤ 9223372036854775807) (hJn : J.length ≤ 9223372036854775807) (hMn : M.length ≤ 9223372036854775807) (hwf : Wfc L) (hJ : ∀ z ∈ J, z < 4294967296) (hM : ∀ j, j < M.length → (M.getD j (.empty, 0)).2 < 4294967296)
    (hr : CRd w ao L w.heap.size) (hrJ : JRd w aj J w.heap.size) (hrN : NRd w an M w.heap.size) :
    Calls Tryd.prog 21 #[.slice ao L.length cap, .slice aj J.length capj, .slice an M.length capn] w (RfP w L J M) := by
  have hEn : Calls Tryd.prog 48 #[.slice ao L.length cap] w fun e w' => (∃ v, e = .returned (.tuple #[v, .int .i64 (encI L : Nat), .int .i64 (encX L : Nat)])) ∧ Below w.heap.size w w' := (rencode_any ao cap L w hn hwf hr).mono (by rintro e w' ⟨v, rfl, _, hb⟩; exact ⟨⟨v, rfl⟩, hb⟩)
  have HR := hid_of hr
  clear hr
  by_cases hx : encX L = 0
  · have hl := encX_len hx
    have HX := hid_of hx
    rw [hx, show ((0 : Nat) : Int) = 0 from rfl] at hEn
    generalize ((encI L : Nat) : Int) = ei at hEn
    clear hx
    cases hE : isEn L 0 with
    | false =>
      have HF : Hid (FdB L J M 0 130) := hid_of (.inr (.inl ⟨HX.out, hE, rfl, rfl⟩))
      by_cases hz : L.length = 0
      · rw [hz] at hEn ⊢
        clear hz hn hl
        go_enter Tryd.func21, Tryd.ntmps21
        go_wp2_with (go_at_call 48; with_reducible refine hEn.mono ?_; rintro e w1 ⟨⟨v, rfl⟩, hb1⟩)
        refine bodyPost_ret (results_tmp2 rfl _ _ _) rfl ?_
        exact ⟨hb1, 0, 130, rfl, .inl ⟨by decide, HF.out⟩⟩
      · have hLI : ¬ (L.length : Int) = 0 := by omega
        obtain ⟨b, off, rfl, hb, hc⟩ := HR.out (by omega)
        have v0 := (hc 0 (by omega)).1
        simp only [Nat.zero_mul, Nat.add_zero] at v0
        have hop : ¬ (((L.getD 0 (0, 0)).1 : Nat) : Int) = 3 := by
          have := isEn_no (by omega) hE
          omega
        generalize (L.getD 0 (0, 0)).1 = op at v0 hop
        have hopB : ((op : Int) != 3) = true := by simp [hop]
        have hLB : ((L.length : Int) == 0) = false := beq_eq_false_iff_ne.2 hLI
        have HV0 : Hid (∀ W, Below w.heap.size w W → W.cell? ⟨b, off, none⟩ = some (.int .u8 (op : Int))) := hid_of (fun W hW => (hW.cell (p := ⟨b, off, none⟩) hb).trans v0)
        clear hc v0
        have h0I : (0 : Int) < (L.length : Int) := by omega
        go_enter Tryd.func21, Tryd.ntmps21
        go_wp2_with (go_at_call 48; with_reducible refine hEn.mono ?_; rintro e w1 ⟨⟨v, rfl⟩, hb1⟩; have v0 := HV0.out w1 hb1)
        refine bodyPost_ret (results_tmp2 rfl _ _ _) rfl ?_
        exact ⟨hb1, 0, 130, rfl, .inl ⟨by decide, HF.out⟩⟩
    | true =>
      have hpos : 0 < L.length := (isEn_op hE).1
      have hop := (isEn_op hE).2
      have hLI : ¬ (L.length : Int) = 0 := by omega
      have hLB : ((L.length : Int) == 0) = false := beq_eq_false_iff_ne.2 hLI
      have h0I : (0 : Int) < (L.length : Int) := by omega
      obtain ⟨b, off, rfl, hbb, hc⟩ := HR.out hpos
      have HVC : Hid (∀ W, Below w.heap.size w W → W.cell? ⟨b, off, none⟩ = some (.int .u8 3)) := hid_of (fun W hW => by
        have := (hc 0 hpos).1
        rw [hop] at this
        exact (hW.cell (p := ⟨b, off, none⟩) hbb).trans (by simpa using this))
      have HVA : Hid (∀ W, Below w.heap.size w W → ∀ k, k < L.length → W.cell? ⟨b, off + k * 2, none⟩ = some (.int .u8 ((L.getD k (0, 0)).1 : Nat))) := hid_of (fun W hW k hk => (hW.cell (p := ⟨b, off + k * 2, none⟩) hbb).trans (hc k hk).1)
      have HRI : Hid (∀ W (i : Nat), Below w.heap.size w W → i < L.length → Calls Tryd.prog 49 #[.slice (some ⟨b, off, none⟩) L.length cap, .int .i64 i] W fun e w' => e = .returned (.int .i64 (errA L i : Nat)) ∧ Below W.heap.size W w') := hid_of (fun W i hW hi => by
        obtain ⟨q, hq, h1, h2⟩ := lies_in hE hi
        rw [getD_anyP hq 0 L.length] at h1
        have := rinstr_any (some ⟨b, off, none⟩) cap L i q W hl hwf hq h1 h2 ((HR.out.below hW).mono hW.size)
        rw [← prL_get L hq, ← errA_in hq h1 h2] at this
        exact this)
      have HIN : Hid (∀ W (z : Nat), Below w.heap.size w W → z < 4294967296 → Calls Tryd.prog 50 #[.slice (some ⟨b, off, none⟩) L.length cap, .int .u32 z] W fun e w' => e = .returned (.bool (decide (z < L.length) && !isEn L z)) ∧ w' = W) := hid_of (fun W z hW hz => rinside_any (some ⟨b, off, none⟩) cap L z W hn hz ((HR.out.below hW).mono hW.size))
      have HBD : Hid (∀ {i x : Nat}, i < L.length → x ≠ 0 → errA L i = x → (∀ j, j < i → errA L j = 0) → CkR L (prL L) i x) := hid_of (fun hi hx he hj => ckR_bad hE hi hx he hj)
      clear hc HR
      go_enter Tryd.func21, Tryd.ntmps21
      go_wp2_with (go_at_call 48; with_reducible refine hEn.mono ?_; rintro e w1 ⟨⟨v, rfl⟩, hb1⟩; have v0 := HVC.out w1 hb1)
      clear v0 hEn
      go_loopw [11] (fun u wr => ∃ i : Nat, u = .int .i64 i ∧ i ≤ L.length ∧ (∀ j, j < i → errA L j = 0) ∧ Below w.heap.size w wr)
        (fun u _ => L.length - (intOf u).toNat)
      case atStart => exact ⟨0, rfl, Nat.zero_le _, fun j hj => absurd hj (by omega), hb1⟩
      case round =>
        clear hb1
        obtain ⟨i, rfl, hi, hok, hb⟩ := hrel
        by_cases hlt : i < L.length
        · have hltI : (i : Int) < (L.length : Int) := by omega
          have hri := HRI.out wr i hb hlt
          have HOk := hid_of hok
          have HEA : Hid (∃ x, errA L i = x) := hid_of ⟨_, rfl⟩
          obtain ⟨x, hxe⟩ := HEA.out
          rw [hxe] at hri
          have HXE := hid_of hxe
          clear hok hxe HEA
          by_cases hx0 : x = 0
          · subst hx0
            rw [show ((0 : Nat) : Int) = 0 from rfl] at hri
            go_wp2_with (go_at_call 49; with_reducible refine hri.mono ?_; rintro e2 w2 ⟨rfl, hb2⟩)
            go_roundw
            case rel => exact ⟨i + 1, by go_num, by omega, fun j hj => by
              by_cases hji : j < i
              · exact HOk.out j hji
              · rw [show j = i by omega]; exact HXE.out, btP hb hb2⟩
            case measure => simp [intOf]; omega
          · have hxI : ¬ (x : Int) = 0 := by omega
            go_wp2_with (go_at_call 49; with_reducible refine hri.mono ?_; rintro e2 w2 ⟨rfl, hb2⟩)
            refine bodyPost_ret (results_tmp2 rfl _ _ _) rfl ?_
            exact ⟨btP hb hb2, i, x, rfl, .inl ⟨hx0, .inr (.inr (.inl ⟨HX.out, hE, HBD.out hlt hx0 HXE.out HOk.out⟩))⟩⟩
        · have hltI : ¬ (i : Int) < (L.length : Int) := by omega
          have HCK : Hid (CkR L (prL L) 0 0) := hid_of (ckR_ok (fun j hj => hok j (by omega)))
          clear hok hlt
          go_wp2_with fail
          go_loopw [12] (fun u wr => ∃ j : Nat, u = .int .i64 j ∧ j ≤ J.length ∧ (∀ p, p < j → okJ L J p = true) ∧ Below w.heap.size w wr)
            (fun u _ => J.length - (intOf u).toNat)
          case atStart => exact ⟨0, rfl, Nat.zero_le _, fun j hj => absurd hj (by omega), hb⟩
          case round =>
            clear hb
            obtain ⟨k, rfl, hk, hok, hb⟩ := hrel
            have HOk := hid_of hok
            clear hok
            by_cases hlt : k < J.length
            · have hltI : (k : Int) < (J.length : Int) := by omega
              obtain ⟨bj, offj, rfl, hbj, hcj⟩ := (hrJ.below hb) (by omega)
              have v0 := hcj k hlt
              have hz : J.getD k 0 < 4294967296 := hJ _ (getD_memP hlt)
              have HOKK : Hid (okJ L J k = (!(decide (0 < k) && decide (J.getD k 0 ≤ J.getD (k - 1) 0)) && (decide (J.getD k 0 < L.length) && !isEn L (J.getD k 0)))) := hid_of rfl
              have HI2 : Hid (∀ n, Calls Tryd.prog 50 #[.slice (some ⟨b, off, none⟩) L.length cap, .int .u32 (J.getD k 0 : Nat)] (wr.drewN n) fun e w' => e = .returned (.bool (decide (J.getD k 0 < L.length) && !isEn L (J.getD k 0))) ∧ w' = wr.drewN n) := hid_of (fun n => HIN.out _ _ (below_drewN hb n) hz)
              generalize J.getD k 0 = z at v0 hz HOKK HI2
              generalize hins : (decide (z < L.length) && !isEn L z) = ins at HOKK HI2
              clear hins
              by_cases hk0 : k = 0
              · subst hk0
                clear hcj
                rw [show ((0 : Nat) : Int) = 0 from rfl] at hltI
                simp only [Nat.add_zero] at v0
                rw [show (Value.int .i64 ((0 : Nat) : Int)) = Value.int .i64 0 from rfl]
                cases ins with
                | true =>
                  go_wp2_with fail
                  go_quiet (with_reducible refine Calls.quiet_of_same (HI2.out _))
                  go_wp2_with fail
                  go_roundw
                  case rel => exact ⟨0 + 1, by go_num, by omega, fun p hp => by
                    by_cases hpk : p < 0
                    · exact HOk.out p hpk
                    · rw [show p = 0 by omega, HOKK.out]; simp, below_drewN hb nq⟩
                  case measure => simp [intOf]; omega
                | false =>
                  go_wp2_with fail
                  go_quiet (with_reducible refine Calls.quiet_of_same (HI2.out _))
                  go_wp2_with fail
                  refine bodyPost_ret (results_tmp2 rfl _ _ _) rfl ?_
                  exact ⟨below_drewN hb nq, 0, 134, rfl, .inl ⟨by decide, .inr (.inr (.inr (.inl ⟨HX.out, hE, HCK.out, .inr ⟨rfl, hlt, by rw [HOKK.out]; simp, HOk.out⟩⟩)))⟩⟩
              · obtain ⟨m, rfl⟩ : ∃ m, k = m + 1 := ⟨k - 1, by omega⟩
                have v1 := hcj m (by omega)
                have hsub : ((m + 1 : Nat) : Int) - 1 = (m : Int) := by omega
                have hmJ : (m : Int) < (J.length : Int) := by omega
                have hgt : (0 : Int) < ((m + 1 : Nat) : Int) := by omega
                rw [show m + 1 - 1 = m by omega] at HOKK
                generalize J.getD m 0 = y at v1 HOKK
                clear hcj hk0
                by_cases hle : z ≤ y
                · have hleI : (z : Int) ≤ (y : Int) := by omega
                  have HLE := hid_of hle
                  go_wp2_with fail
                  go_quiet (with_reducible refine Calls.quiet_of_same (HI2.out _))
                  go_wp2_with fail
                  refine bodyPost_ret (results_tmp2 rfl _ _ _) rfl ?_
                  exact ⟨below_drewN hb nq, m + 1, 134, rfl, .inl ⟨by decide, .inr (.inr (.inr (.inl ⟨HX.out, hE, HCK.out, .inr ⟨rfl, hlt, by rw [HOKK.out]; simp [HLE.out], HOk.out⟩⟩)))⟩⟩
                · have hleI : ¬ (z : Int) ≤ (y : Int) := by omega
                  have HLE := hid_of hle
                  cases ins with
                  | true =>
                    go_wp2_with fail
                    go_quiet (with_reducible refine Calls.quiet_of_same (HI2.out _))
                    go_wp2_with fail
                    go_roundw
                    case rel => exact ⟨(m + 1) + 1, by go_num, by omega, fun p hp => by
                      by_cases hpk : p < (m + 1)
                      · exact HOk.out p hpk
                      · rw [show p = (m + 1) by omega, HOKK.out]; simp [HLE.out], below_drewN hb nq⟩
                    case measure => simp [intOf]; omega
                  | false =>
                    go_wp2_with fail
                    go_quiet (with_reducible refine Calls.quiet_of_same (HI2.out _))
                    go_wp2_with fail
                    refine bodyPost_ret (results_tmp2 rfl _ _ _) rfl ?_
                    exact ⟨below_drewN hb nq, m + 1, 134, rfl, .inl ⟨by decide, .inr (.inr (.inr (.inl ⟨HX.out, hE, HCK.out, .inr ⟨rfl, hlt, by rw [HOKK.out]; simp, HOk.out⟩⟩)))⟩⟩
            · have hltI : ¬ (k : Int) < (J.length : Int) := by omega
              have HJM : Hid (JmR L J 0 0) := hid_of (.inl ⟨rfl, rfl, fun j hj => HOk.out j (by omega)⟩)
              clear HOk hlt
              go_wp2_with fail
              go_loopw [13] (fun u wr => ∃ j : Nat, u = .int .i64 j ∧ j ≤ M.length ∧ (∀ p, p < j → okN L M p = true) ∧ Below w.heap.size w wr)
                (fun u _ => M.length - (intOf u).toNat)
              case atStart => exact ⟨0, rfl, Nat.zero_le _, fun j hj => absurd hj (by omega), hb⟩
              case round =>
                clear hb
                obtain ⟨k, rfl, hk, hok, hb⟩ := hrel
                have HOk := hid_of hok
                clear hok
                by_cases hlt : k < M.length
                · have hltI : (k : Int) < (M.length : Int) := by omega
                  obtain ⟨bn, offn, rfl, hbn, hcn⟩ := (hrN.below hb) (by omega)
                  have v1 := (hcn k hlt).2
                  have hz := hM k hlt
                  have HOKK : Hid (okN L M k = isEn L (M.getD k (.empty, 0)).2) := hid_of rfl
                  generalize (M.getD k (.empty, 0)).2 = z at v1 hz HOKK
                  clear hcn
                  by_cases hzL : z < L.length
                  · have hzI : ¬ (L.length : Int) ≤ (z : Int) := by omega
                    have hzI2 : (z : Int) < (L.length : Int) := by omega
                    have v2 := HVA.out wr hb z hzL
                    have HEO := hid_of (op_is hzL)
                    generalize (L.getD z (0, 0)).1 = op at v2 HEO
                    by_cases h3 : op = 3
                    · subst h3
                      go_wp2_with fail
                      go_roundw
                      case rel => exact ⟨k + 1, by go_num, by omega, fun p hp => by
                        by_cases hpk : p < k
                        · exact HOk.out p hpk
                        · rw [show p = k by omega, HOKK.out, HEO.out]; rfl, hb⟩
                      case measure => simp [intOf]; omega
                    · have hopB : ((op : Int) != 3) = true := bne_iff_ne.2 (by omega)
                      have H3 := hid_of h3
                      clear h3
                      go_wp2_with fail
                      refine bodyPost_ret (results_tmp2 rfl _ _ _) rfl ?_
                      exact ⟨hb, k, 135, rfl, .inl ⟨by decide, .inr (.inr (.inr (.inr ⟨HX.out, hE, HCK.out, HJM.out, .inr ⟨rfl, hlt, by rw [HOKK.out, HEO.out]; exact beq_eq_false_iff_ne.2 H3.out, HOk.out⟩⟩)))⟩⟩
                  · have hzI : (L.length : Int) ≤ (z : Int) := by omega
                    have HZL := hid_of hzL
                    clear hzL
                    go_wp2_with fail
                    refine bodyPost_ret (results_tmp2 rfl _ _ _) rfl ?_
                    exact ⟨hb, k, 135, rfl, .inl ⟨by decide, .inr (.inr (.inr (.inr ⟨HX.out, hE, HCK.out, HJM.out, .inr ⟨rfl, hlt, by rw [HOKK.out, isEn, decide_eq_false HZL.out]; rfl, HOk.out⟩⟩)))⟩⟩
                · have hltI : ¬ (k : Int) < (M.length : Int) := by omega
                  go_wp2_with fail
                  refine bodyPost_ret (results_tmp2 rfl _ _ _) rfl ?_
                  exact ⟨hb, 0, 0, rfl, .inr ⟨rfl, rfl, ⟨HX.out, hE, (ckR0 HCK.out).2, (jmR0 HJM.out).2, fun j hj => HOk.out j (by omega)⟩⟩⟩
  · have hxI : ¬ ((encX L : Nat) : Int) = 0 := by omega
    have hfin : FdB L J M (encI L) (encX L) := .inl ⟨hx, rfl, rfl⟩
    obtain ⟨ex, hex⟩ : ∃ ex, encX L = ex := ⟨_, rfl⟩
    obtain ⟨ei, hei⟩ : ∃ ei, encI L = ei := ⟨_, rfl⟩
    rw [hex] at hEn hx hxI hfin
    rw [hei] at hEn hfin
    have HF := hid_of hfin
    clear hex hei hfin
    go_enter Tryd.func21, Tryd.ntmps21
    go_wp2_with (go_at_call 48; with_reducible refine hEn.mono ?_; rintro e w1 ⟨⟨v, rfl⟩, hb1⟩)
    refine bodyPost_ret (results_tmp2 rfl _ _ _) rfl ?_
    exact ⟨hb1, ei, ex, rfl, .inl ⟨hx, HF.out⟩⟩
end Go.Proofs.YtihnkeflcnndpaaDoor
