import Derived.Test.YtcaobkhifiicnaaRefCuts
import Derived.Test.YtcaobkhifiicnaaGsB
namespace Go.Proofs.Ytcaobkhifiicnaa
open Go.RowKit Go.Shelf

theorem enc_same {r : Int} (h0 : 0 ≤ r) (h1 : r ≤ 1114111) (h2 : ¬ (55296 ≤ r ∧ r ≤ 57343)) : encZ r = Lib.encodeRuneZ r := by
  unfold Lib.encodeRuneZ
  by_cases a1 : r < 128
  · rw [encZ_1 a1, if_pos (by omega)]
  · rw [if_neg (by omega)]
    by_cases a2 : r < 2048
    · rw [encZ_2 (by omega) a2, if_pos (by omega)]
    · rw [if_neg (by omega)]
      by_cases a3 : r < 65536
      · rw [encZ_3 (by omega) a3, if_pos (by omega)]
      · rw [encZ_4 (by omega), if_neg (by omega), if_pos (by omega)]
theorem prn_pos {r : Int} (h : prn r = true) : 10 ≤ r := by
  unfold prn at h
  simp at h
  omega
/-- bytes of a text from a place on -/
def seg (s : ByteArray) (i m : Nat) : List Int := (List.range m).map fun j => (bt s (i + j) : Int)
theorem seg_succ (s : ByteArray) (i m : Nat) : seg s i (m + 1) = seg s i m ++ [(bt s (i + m) : Int)] := by simp [seg, List.range_succ]
theorem seg_len (s : ByteArray) (i m : Nat) : (seg s i m).length = m := by simp [seg]
theorem gsx_seg (s : ByteArray) (i : Nat) (hi : i < s.size) (hp : prn (numAt s i) = true) : gsx (cutAt s i hi) = seg s i (wid s i) := by
  have h10 := prn_pos hp
  obtain ⟨c1, c2, c3⟩ := code_cut s i hi (by omega)
  have hr := numAt_range s i
  have e : gsx (cutAt s i hi) = Lib.encodeRuneZ (numAt s i) := if_pos hp
  rw [e, ← enc_same (by omega) hr.2 c2]
  apply List.ext_getElem
  · rw [seg_len, c1]
  · intro j h1 h2
    have := (c3 j h1).2
    simp [seg]
    rw [this, List.getD, List.getElem?_eq_getElem h1]
    rfl
theorem gsx_mark (s : ByteArray) (i : Nat) (hi : i < s.size) (hp : prn (numAt s i) = false) : gsx (cutAt s i hi) = [63] := by
  have e : gsx (cutAt s i hi) = if prn (numAt s i) = true then Lib.encodeRuneZ (numAt s i) else [63] := rfl
  rw [e, hp, if_neg (by decide)]
theorem pz_non (zs : List Int) : ∀ i, i < (pz zs).length → zs.getD i 0 ≠ 0 := by
  induction zs with
  | nil => intro i h; simp [pz] at h
  | cons a l ih =>
    intro i h
    by_cases ha : a = 0
    · subst ha; simp [pz] at h
    · have e : pz (a :: l) = a :: pz l := by simp [pz, ha]
      rw [e] at h
      cases i with
      | zero => simpa using ha
      | succ i =>
        simp only [List.length_cons] at h
        have := ih i (by omega)
        simpa using this
theorem pz_end (zs : List Int) (h : (pz zs).length < zs.length) : zs.getD (pz zs).length 0 = 0 := by
  induction zs with
  | nil => simp at h
  | cons a l ih =>
    by_cases ha : a = 0
    · subst ha; simp [pz]
    · have e : pz (a :: l) = a :: pz l := by simp [pz, ha]
      rw [e] at h ⊢
      simp only [List.length_cons] at h ⊢
      have := ih (by omega)
      simpa using this
theorem pl_at {s : ByteArray} {f pos : Nat} {pre : List (Cut s)} (hlt : pos < s.size) (h : pre ++ cutsFrom s f pos = cuts s) (hf : s.size ≤ pos + f) : pre.length < (cuts s).length ∧ (pl (cuts s))[pre.length]? = some (.int .i64 (pos : Int)) ∧ (nm (cuts s))[pre.length]? = some (.int .i32 (numAt s pos)) ∧
    ((pre.length + 1 < (cuts s).length ∧ (pl (cuts s))[pre.length + 1]? = some (.int .i64 ((pos + wid s pos : Nat) : Int))) ∨ (¬ pre.length + 1 < (cuts s).length ∧ pos + wid s pos = s.size)) := by
  obtain ⟨f', rfl⟩ : ∃ f', f = f' + 1 := ⟨f - 1, by omega⟩
  have hw := wid_pos s pos
  have hl := wid_le s pos hlt
  rw [cutsFrom_step s f' pos hlt] at h
  rw [← h]
  refine ⟨by simp, by simp [pl, cutAt], by simp [nm, cutAt], ?_⟩
  by_cases h2 : pos + wid s pos < s.size
  · left
    obtain ⟨f2, rfl⟩ : ∃ f2, f' = f2 + 1 := ⟨f' - 1, by omega⟩
    rw [cutsFrom_step s f2 _ h2]
    exact ⟨by simp, by simp [pl, cutAt]⟩
  · right
    rw [cutsFrom_end s f' _ h2]
    exact ⟨by simp, by omega⟩
theorem own_shape {w : World} {B e n : Nat} {v : Value} {xs : List Value} (h : w.ownsRow B e 1 v n xs) : ∃ ao cap, v = .slice ao n cap ∧ ∀ j u, xs[j]? = some u → ∃ g, ao = some ⟨g, 0, none⟩ ∧ B ≤ g ∧ g < w.heap.size ∧ w.cell? ⟨g, j, none⟩ = some u := by
  have hl := h.1
  rcases h.2 with ⟨rfl, rfl⟩ | ⟨g, cap, cur, rfl, hB, hh, _⟩
  · refine ⟨none, 0, rfl, fun j u hj => ?_⟩
    have : xs = [] := List.eq_nil_of_length_eq_zero (by omega)
    subst this
    simp at hj
  · refine ⟨some ⟨g, 0, none⟩, cap, rfl, fun j u hj => ⟨g, rfl, (h.lt g rfl).1, (h.lt g rfl).2, ?_⟩⟩
    have := h.cells (g := g) rfl j u hj
    have hadd : (⟨g, 0, none⟩ : Addr).add j = ⟨g, j, none⟩ := by unfold Addr.add; split <;> simp_all
    rwa [hadd] at this
theorem cutsFrom_len (s : ByteArray) : ∀ f pos, (cutsFrom s f pos).length ≤ f
  | 0, _ => by simp [cutsFrom]
  | f + 1, pos => by
    by_cases h : pos < s.size
    · rw [cutsFrom_step s f pos h, List.length_cons]
      have := cutsFrom_len s f (pos + wid s pos)
      omega
    · rw [cutsFrom_end s _ pos h]; simp
set_option maxRecDepth 100000 in
set_option maxHeartbeats 4000000 in
theorem rguest_some (b off cap : Nat) (zs : List Int) (w : World) (hn : zs.length ≤ 1048576) (h0 : 0 < zs.length) (hcap : zs.length ≤ cap) (hc : ∀ j, j < zs.length → w.cell? ⟨b, off + j, none⟩ = some (.int .u8 (zs.getD j 0))) :
    Calls Try.prog 7 #[.slice (some ⟨b, off, none⟩) zs.length cap] w fun e w' => e = .returned (.string (strOfNums (gsL (cuts (strOfNums (pz zs)))))) ∧ Below w.heap.size w w' := by
  obtain ⟨i0, hi, hz0, hz1, hz2⟩ := info_parts Try.info5
  have hpl := pz_len zs
  have hcv := run_convert_bytes_arg (P := Try.prog) w 22 5 Try.underlying22 Try.underlying5 b off (pz zs).length cap (pz zs) rfl (fun i hi => by rw [hc i (by omega), pz_at zs i hi]) 9 Try.underlying9
  have hss : (strOfNums (pz zs)).size = (pz zs).length := strOfNums_size _
  have HN : Hid (∀ i, i < (pz zs).length → zs.getD i 0 ≠ 0) := pz_non zs
  have HE : Hid ((pz zs).length < zs.length → zs.getD (pz zs).length 0 = 0) := pz_end zs
  have HC : Hid (∀ j, j < zs.length → w.cell? ⟨b, off + j, none⟩ = some (.int .u8 (zs.getD j 0))) := hc
  clear hc
  obtain ⟨s, hs⟩ : ∃ s, strOfNums (pz zs) = s := ⟨_, rfl⟩
  rw [hs] at hcv hss ⊢
  obtain ⟨N, hN⟩ : ∃ N, (pz zs).length = N := ⟨_, rfl⟩
  rw [hN] at hcv hpl hss HN HE
  clear hN hs
  go_enter Try.func7, Try.ntmps7
  go_wp2
  go_loop [3] (fun i => ∃ k : Nat, k ≤ N ∧ i = .int .i64 k) (fun i => N - (intOf i).toNat)
  case atStart => exact ⟨0, Nat.zero_le _, rfl⟩
  case round =>
    obtain ⟨k, hk, rfl⟩ := hrel
    by_cases hlt : k < N
    · have hck := HC.out k (by omega)
      have hne := HN.out k hlt
      generalize zs.getD k 0 = c at hck hne
      have hI : (k : Int) < (zs.length : Int) := by omega
      have hcc : (c == 0) = false := by rw [beq_eq_false_iff_ne]; exact hne
      go_wp2
      go_round
      case rel => exact ⟨k + 1, by omega, by go_num⟩
      case measure => simp [intOf]; omega
    · obtain rfl : k = N := by omega
      have hex : (k = zs.length) ∨ (k < zs.length ∧ w.cell? ⟨b, off + k, none⟩ = some (.int .u8 0)) := by
        rcases Nat.lt_or_ge k zs.length with h | h
        · right; refine ⟨h, ?_⟩; rw [HC.out k h, HE.out h]
        · left; omega
      have hnc : ¬ cap = 0 := by omega
      have hnc2 : ¬ 0 = cap := by omega
      clear HE HN HC hlt hk
      have HSS := hid_of hss
      have hs1 : s.size ≤ 1048576 := by omega
      clear hss
      rcases hex with hex | ⟨hlen, hc0⟩
      · have hI : (zs.length : Int) ≤ (k : Int) := by omega
        clear hex
        go_wp2_with fail
        refine (cuts_any s _ (by omega)).mono ?_
        rintro e w1 ⟨v1, v2, rfl, own1, own2, hb⟩
        obtain ⟨ao1, cp1, rfl, hcell1⟩ := own_shape own1
        obtain ⟨ao2, cp2, rfl, hcell2⟩ := own_shape own2
        have HP1 := hid_of hcell1
        have HP2 := hid_of hcell2
        clear hcell1 hcell2 own1 own2
        have hcl : (cuts s).length ≤ s.size := cutsFrom_len s s.size 0
        obtain ⟨cl, hcl'⟩ : ∃ cl, (cuts s).length = cl := ⟨_, rfl⟩
        rw [hcl'] at hcl
        have HCL := hid_of hcl'
        have HBW := hb.size
        rw [hcl']
        clear hcl'
        go_wp2_with fail
        go_loopw [7, 8] (fun v i wr => ∃ (pos f : Nat) (pre : List (Cut s)), pre ++ cutsFrom s f pos = cuts s ∧ s.size ≤ pos + f ∧ pos ≤ s.size ∧ (∃ K : Nat, Hid (pre.length = K) ∧ i = .int .i64 (K : Int)) ∧ wr.ownsRow w1.heap.size 5 1 v (gsL pre).length (bv (gsL pre)) ∧ Below w1.heap.size w1 wr) (fun _ i _ => cl - (intOf i).toNat)
        case atStart => exact ⟨0, s.size, [], rfl, by omega, by omega, ⟨0, rfl, rfl⟩, World.ownsRow_nil _ _ _ _, Below.refl _ _⟩
        case round =>
          obtain ⟨pos, f, pre, hpre, hf, hps, ⟨K, HK, rfl⟩, hown, hbw⟩ := hrel
          have HP := hid_of hpre
          have hB := hbw.size
          by_cases hlt : pos < s.size
          · obtain ⟨hkl, e1, e2, e3⟩ := pl_at hlt hpre hf
            rw [HCL.out, HK.out] at hkl e3
            rw [HK.out] at e1 e2
            have hwl := wid_le s pos hlt
            have hwp := wid_pos s pos
            have hnr := numAt_range s pos
            have hLl := gsL_len pre
            rw [HK.out] at hLl
            obtain ⟨g1, rfl, _, hg1, c1⟩ := HP1.out _ _ e1
            obtain ⟨g2, rfl, _, hg2, c2⟩ := HP2.out _ _ e2
            have c1' : wr.cell? ⟨g1, K, none⟩ = some (.int .i64 (pos : Int)) := (hbw.cell (p := ⟨g1, K, none⟩) hg1).trans c1
            have c2' : wr.cell? ⟨g2, K, none⟩ = some (.int .i32 (numAt s pos)) := (hbw.cell (p := ⟨g2, K, none⟩) hg2).trans c2
            have HR0 : Hid (numAt s pos = numAt s pos) := rfl
            obtain ⟨r, hr⟩ : ∃ r, numAt s pos = r := ⟨_, rfl⟩
            have HR := hid_of hr
            obtain ⟨en, hen⟩ : ∃ en, pos + wid s pos = en := ⟨_, rfl⟩
            have HEN := hid_of hen
            rw [hr] at c2' hnr
            rw [hen] at hwl e3
            have hpe : pos < en := by omega
            obtain ⟨L0, hL0⟩ : ∃ L0, gsL pre = L0 := ⟨_, rfl⟩
            have HL := hid_of hL0
            rw [hL0] at hown hLl
            clear hpre e1 e2 c1 c2 HR0 hr hen hL0 hwp
            have hkI : (K : Int) < (cl : Int) := by omega
            rcases e3 with ⟨hk2, e4⟩ | ⟨hk2, hens⟩
            · obtain ⟨g3, eg, _, _, c3⟩ := HP1.out _ _ e4
              cases eg
              have c3' : wr.cell? ⟨g1, K + 1, none⟩ = some (.int .i64 (en : Int)) := (hbw.cell (p := ⟨g1, K + 1, none⟩) hg1).trans c3
              have hkI2 : (K : Int) + 1 < (cl : Int) := by omega
              clear e4 c3
              by_cases r10 : r = 10
              · have hp : prn r = true := by unfold prn; simp; omega
                have HX : Hid (gsx (cutAt s pos hlt) = seg s pos (en - pos)) := by rw [Hid, gsx_seg s pos hlt (by rw [HR.out]; exact hp), ← HEN.out, Nat.add_sub_cancel_left]
                clear hp
                have hr10 : (r == 10) = true := by rw [beq_iff_eq]; exact r10
                clear r10

                go_wp2
                go_loopw [7, 11] (fun v i wr => ∃ q : Nat, pos ≤ q ∧ q ≤ en ∧ i = .int .i64 (q : Int) ∧ wr.ownsRow w1.heap.size 5 1 v (L0.length + (q - pos)) (bv (L0 ++ seg s pos (q - pos))) ∧ Below w1.heap.size w1 wr) (fun _ i _ => en - (intOf i).toNat)
                case atStart => exact ⟨pos, Nat.le_refl _, by omega, rfl, by simpa [seg] using hown, hbw⟩
                case round =>
                  obtain ⟨q, hq0, hq1, rfl, hown', hbw'⟩ := hrel
                  have hB := hbw'.size
                  by_cases hq : q < en
                  · have hqs : q < s.size := by omega
                    have hqI : (q : Int) < (en : Int) := by omega
                    have hqsI : (q : Int) < (s.size : Int) := by omega
                    have hbe := bt_eq s q hqs
                    have HS : Hid (seg s pos (q + 1 - pos) = seg s pos (q - pos) ++ [(bt s q : Int)]) := by
                      rw [Hid, show q + 1 - pos = (q - pos) + 1 by omega, seg_succ, show pos + (q - pos) = q by omega]
                    obtain ⟨c, hcq⟩ : ∃ c, bt s q = c := ⟨_, rfl⟩
                    rw [hcq] at hbe HS
                    have hsb : (s[q]'hqs).toNat = c := hbe.symm
                    clear hbe hcq
                    go_wp2_with (at_builtin; refine wpList_append_own _ rfl _ _ 22 rfl w1.heap.size 5 i0 (.int .u8 0) 1 1 Try.underlying22 hi hz0 hz1 hz2 rfl (by decide) _ _ _ rfl (hown'.alloc _) ⟨_, 0, none⟩ 1 1 _ rfl rfl (World.news_of_block (heap_alloc_new _ _)) (by intro u hu; simp at hu; subst hu; rfl) (by unfold maxLen; omega) (by omega) (by simp; omega) ?_; intro v1 wa owna growa _; have hba := grown_below' hbw' hB hown' growa)
                    go_roundw
                    case rel =>
                      refine ⟨q + 1, by omega, by omega, by go_num, ?_, hba⟩
                      rw [HS.out, ← List.append_assoc, bv_append, show L0.length + (q + 1 - pos) = L0.length + (q - pos) + 1 by omega]
                      exact owna
                    case measure => simp [intOf]; omega
                  · obtain rfl : q = en := by omega
                    go_wp2
                    go_roundw
                    case rel =>
                      obtain ⟨hn1, hn2⟩ := cut_next hlt HP.out hf
                      rw [HEN.out] at hn1 hn2
                      refine ⟨q, f - 1, pre ++ [cutAt s pos hlt], hn1, hn2, by omega, ⟨K + 1, by rw [Hid, List.length_append, HK.out]; rfl, by go_num⟩, ?_, hbw'⟩
                      rw [gsL_snoc, HX.out, HL.out, List.length_append, seg_len]
                      exact hown'
                    case measure => simp [intOf]; omega
              · have hr10 : (r == 10) = false := by rw [beq_eq_false_iff_ne]; exact r10
                by_cases r32 : 32 ≤ r
                · by_cases r127 : r < 127
                  · have hp : prn r = true := by unfold prn; simp; omega
                    have HX : Hid (gsx (cutAt s pos hlt) = seg s pos (en - pos)) := by rw [Hid, gsx_seg s pos hlt (by rw [HR.out]; exact hp), ← HEN.out, Nat.add_sub_cancel_left]
                    clear hp
                    clear r10

                    go_wp2
                    go_loopw [7, 11] (fun v i wr => ∃ q : Nat, pos ≤ q ∧ q ≤ en ∧ i = .int .i64 (q : Int) ∧ wr.ownsRow w1.heap.size 5 1 v (L0.length + (q - pos)) (bv (L0 ++ seg s pos (q - pos))) ∧ Below w1.heap.size w1 wr) (fun _ i _ => en - (intOf i).toNat)
                    case atStart => exact ⟨pos, Nat.le_refl _, by omega, rfl, by simpa [seg] using hown, hbw⟩
                    case round =>
                      obtain ⟨q, hq0, hq1, rfl, hown', hbw'⟩ := hrel
                      have hB := hbw'.size
                      by_cases hq : q < en
                      · have hqs : q < s.size := by omega
                        have hqI : (q : Int) < (en : Int) := by omega
                        have hqsI : (q : Int) < (s.size : Int) := by omega
                        have hbe := bt_eq s q hqs
                        have HS : Hid (seg s pos (q + 1 - pos) = seg s pos (q - pos) ++ [(bt s q : Int)]) := by
                          rw [Hid, show q + 1 - pos = (q - pos) + 1 by omega, seg_succ, show pos + (q - pos) = q by omega]
                        obtain ⟨c, hcq⟩ : ∃ c, bt s q = c := ⟨_, rfl⟩
                        rw [hcq] at hbe HS
                        have hsb : (s[q]'hqs).toNat = c := hbe.symm
                        clear hbe hcq
                        go_wp2_with (at_builtin; refine wpList_append_own _ rfl _ _ 22 rfl w1.heap.size 5 i0 (.int .u8 0) 1 1 Try.underlying22 hi hz0 hz1 hz2 rfl (by decide) _ _ _ rfl (hown'.alloc _) ⟨_, 0, none⟩ 1 1 _ rfl rfl (World.news_of_block (heap_alloc_new _ _)) (by intro u hu; simp at hu; subst hu; rfl) (by unfold maxLen; omega) (by omega) (by simp; omega) ?_; intro v1 wa owna growa _; have hba := grown_below' hbw' hB hown' growa)
                        go_roundw
                        case rel =>
                          refine ⟨q + 1, by omega, by omega, by go_num, ?_, hba⟩
                          rw [HS.out, ← List.append_assoc, bv_append, show L0.length + (q + 1 - pos) = L0.length + (q - pos) + 1 by omega]
                          exact owna
                        case measure => simp [intOf]; omega
                      · obtain rfl : q = en := by omega
                        go_wp2
                        go_roundw
                        case rel =>
                          obtain ⟨hn1, hn2⟩ := cut_next hlt HP.out hf
                          rw [HEN.out] at hn1 hn2
                          refine ⟨q, f - 1, pre ++ [cutAt s pos hlt], hn1, hn2, by omega, ⟨K + 1, by rw [Hid, List.length_append, HK.out]; rfl, by go_num⟩, ?_, hbw'⟩
                          rw [gsL_snoc, HX.out, HL.out, List.length_append, seg_len]
                          exact hown'
                        case measure => simp [intOf]; omega
                  · by_cases r159 : 159 < r
                    · have hp : prn r = true := by unfold prn; simp; omega
                      have HX : Hid (gsx (cutAt s pos hlt) = seg s pos (en - pos)) := by rw [Hid, gsx_seg s pos hlt (by rw [HR.out]; exact hp), ← HEN.out, Nat.add_sub_cancel_left]
                      clear hp
                      clear r10

                      go_wp2
                      go_loopw [7, 11] (fun v i wr => ∃ q : Nat, pos ≤ q ∧ q ≤ en ∧ i = .int .i64 (q : Int) ∧ wr.ownsRow w1.heap.size 5 1 v (L0.length + (q - pos)) (bv (L0 ++ seg s pos (q - pos))) ∧ Below w1.heap.size w1 wr) (fun _ i _ => en - (intOf i).toNat)
                      case atStart => exact ⟨pos, Nat.le_refl _, by omega, rfl, by simpa [seg] using hown, hbw⟩
                      case round =>
                        obtain ⟨q, hq0, hq1, rfl, hown', hbw'⟩ := hrel
                        have hB := hbw'.size
                        by_cases hq : q < en
                        · have hqs : q < s.size := by omega
                          have hqI : (q : Int) < (en : Int) := by omega
                          have hqsI : (q : Int) < (s.size : Int) := by omega
                          have hbe := bt_eq s q hqs
                          have HS : Hid (seg s pos (q + 1 - pos) = seg s pos (q - pos) ++ [(bt s q : Int)]) := by
                            rw [Hid, show q + 1 - pos = (q - pos) + 1 by omega, seg_succ, show pos + (q - pos) = q by omega]
                          obtain ⟨c, hcq⟩ : ∃ c, bt s q = c := ⟨_, rfl⟩
                          rw [hcq] at hbe HS
                          have hsb : (s[q]'hqs).toNat = c := hbe.symm
                          clear hbe hcq
                          go_wp2_with (at_builtin; refine wpList_append_own _ rfl _ _ 22 rfl w1.heap.size 5 i0 (.int .u8 0) 1 1 Try.underlying22 hi hz0 hz1 hz2 rfl (by decide) _ _ _ rfl (hown'.alloc _) ⟨_, 0, none⟩ 1 1 _ rfl rfl (World.news_of_block (heap_alloc_new _ _)) (by intro u hu; simp at hu; subst hu; rfl) (by unfold maxLen; omega) (by omega) (by simp; omega) ?_; intro v1 wa owna growa _; have hba := grown_below' hbw' hB hown' growa)
                          go_roundw
                          case rel =>
                            refine ⟨q + 1, by omega, by omega, by go_num, ?_, hba⟩
                            rw [HS.out, ← List.append_assoc, bv_append, show L0.length + (q + 1 - pos) = L0.length + (q - pos) + 1 by omega]
                            exact owna
                          case measure => simp [intOf]; omega
                        · obtain rfl : q = en := by omega
                          go_wp2
                          go_roundw
                          case rel =>
                            obtain ⟨hn1, hn2⟩ := cut_next hlt HP.out hf
                            rw [HEN.out] at hn1 hn2
                            refine ⟨q, f - 1, pre ++ [cutAt s pos hlt], hn1, hn2, by omega, ⟨K + 1, by rw [Hid, List.length_append, HK.out]; rfl, by go_num⟩, ?_, hbw'⟩
                            rw [gsL_snoc, HX.out, HL.out, List.length_append, seg_len]
                            exact hown'
                          case measure => simp [intOf]; omega
                    · have hp : prn r = false := by unfold prn; simp; omega
                      have HX : Hid (gsx (cutAt s pos hlt) = [63]) := gsx_mark s pos hlt (by rw [HR.out]; exact hp)
                      clear hp
                      clear r10

                      go_wp2_with (at_builtin; refine wpList_append_own _ rfl _ _ 22 rfl w1.heap.size 5 i0 (.int .u8 0) 1 1 Try.underlying22 hi hz0 hz1 hz2 rfl (by decide) _ _ _ rfl (hown.alloc _) ⟨_, 0, none⟩ 1 1 _ rfl rfl (World.news_of_block (heap_alloc_new _ _)) (by intro u hu; simp at hu; subst hu; rfl) (by unfold maxLen; omega) (by omega) (by simp; omega) ?_; intro v1 wa owna growa _; have hba := grown_below' hbw hB hown growa)
                      go_roundw
                      case rel =>
                        obtain ⟨hn1, hn2⟩ := cut_next hlt HP.out hf
                        rw [HEN.out] at hn1 hn2
                        refine ⟨en, f - 1, pre ++ [cutAt s pos hlt], hn1, hn2, by omega, ⟨K + 1, by rw [Hid, List.length_append, HK.out]; rfl, by go_num⟩, ?_, hba⟩
                        rw [gsL_snoc, HX.out, HL.out, List.length_append, bv_append]
                        exact owna
                      case measure => simp [intOf]; omega
                · have hp : prn r = false := by unfold prn; simp; omega
                  have HX : Hid (gsx (cutAt s pos hlt) = [63]) := gsx_mark s pos hlt (by rw [HR.out]; exact hp)
                  clear hp
                  clear r10

                  go_wp2_with (at_builtin; refine wpList_append_own _ rfl _ _ 22 rfl w1.heap.size 5 i0 (.int .u8 0) 1 1 Try.underlying22 hi hz0 hz1 hz2 rfl (by decide) _ _ _ rfl (hown.alloc _) ⟨_, 0, none⟩ 1 1 _ rfl rfl (World.news_of_block (heap_alloc_new _ _)) (by intro u hu; simp at hu; subst hu; rfl) (by unfold maxLen; omega) (by omega) (by simp; omega) ?_; intro v1 wa owna growa _; have hba := grown_below' hbw hB hown growa)
                  go_roundw
                  case rel =>
                    obtain ⟨hn1, hn2⟩ := cut_next hlt HP.out hf
                    rw [HEN.out] at hn1 hn2
                    refine ⟨en, f - 1, pre ++ [cutAt s pos hlt], hn1, hn2, by omega, ⟨K + 1, by rw [Hid, List.length_append, HK.out]; rfl, by go_num⟩, ?_, hba⟩
                    rw [gsL_snoc, HX.out, HL.out, List.length_append, bv_append]
                    exact owna
                  case measure => simp [intOf]; omega
            · have hkI2 : (cl : Int) ≤ (K : Int) + 1 := by omega
              clear hk2
              have hsz := HSS.out
              obtain rfl : en = k := by omega
              clear hens hsz
              by_cases r10 : r = 10
              · have hp : prn r = true := by unfold prn; simp; omega
                have HX : Hid (gsx (cutAt s pos hlt) = seg s pos (en - pos)) := by rw [Hid, gsx_seg s pos hlt (by rw [HR.out]; exact hp), ← HEN.out, Nat.add_sub_cancel_left]
                clear hp
                have hr10 : (r == 10) = true := by rw [beq_iff_eq]; exact r10
                clear r10

                go_wp2
                go_loopw [7, 11] (fun v i wr => ∃ q : Nat, pos ≤ q ∧ q ≤ en ∧ i = .int .i64 (q : Int) ∧ wr.ownsRow w1.heap.size 5 1 v (L0.length + (q - pos)) (bv (L0 ++ seg s pos (q - pos))) ∧ Below w1.heap.size w1 wr) (fun _ i _ => en - (intOf i).toNat)
                case atStart => exact ⟨pos, Nat.le_refl _, by omega, rfl, by simpa [seg] using hown, hbw⟩
                case round =>
                  obtain ⟨q, hq0, hq1, rfl, hown', hbw'⟩ := hrel
                  have hB := hbw'.size
                  by_cases hq : q < en
                  · have hqs : q < s.size := by omega
                    have hqI : (q : Int) < (en : Int) := by omega
                    have hqsI : (q : Int) < (s.size : Int) := by omega
                    have hbe := bt_eq s q hqs
                    have HS : Hid (seg s pos (q + 1 - pos) = seg s pos (q - pos) ++ [(bt s q : Int)]) := by
                      rw [Hid, show q + 1 - pos = (q - pos) + 1 by omega, seg_succ, show pos + (q - pos) = q by omega]
                    obtain ⟨c, hcq⟩ : ∃ c, bt s q = c := ⟨_, rfl⟩
                    rw [hcq] at hbe HS
                    have hsb : (s[q]'hqs).toNat = c := hbe.symm
                    clear hbe hcq
                    go_wp2_with (at_builtin; refine wpList_append_own _ rfl _ _ 22 rfl w1.heap.size 5 i0 (.int .u8 0) 1 1 Try.underlying22 hi hz0 hz1 hz2 rfl (by decide) _ _ _ rfl (hown'.alloc _) ⟨_, 0, none⟩ 1 1 _ rfl rfl (World.news_of_block (heap_alloc_new _ _)) (by intro u hu; simp at hu; subst hu; rfl) (by unfold maxLen; omega) (by omega) (by simp; omega) ?_; intro v1 wa owna growa _; have hba := grown_below' hbw' hB hown' growa)
                    go_roundw
                    case rel =>
                      refine ⟨q + 1, by omega, by omega, by go_num, ?_, hba⟩
                      rw [HS.out, ← List.append_assoc, bv_append, show L0.length + (q + 1 - pos) = L0.length + (q - pos) + 1 by omega]
                      exact owna
                    case measure => simp [intOf]; omega
                  · obtain rfl : q = en := by omega
                    go_wp2
                    go_roundw
                    case rel =>
                      obtain ⟨hn1, hn2⟩ := cut_next hlt HP.out hf
                      rw [HEN.out] at hn1 hn2
                      refine ⟨q, f - 1, pre ++ [cutAt s pos hlt], hn1, hn2, by omega, ⟨K + 1, by rw [Hid, List.length_append, HK.out]; rfl, by go_num⟩, ?_, hbw'⟩
                      rw [gsL_snoc, HX.out, HL.out, List.length_append, seg_len]
                      exact hown'
                    case measure => simp [intOf]; omega
              · have hr10 : (r == 10) = false := by rw [beq_eq_false_iff_ne]; exact r10
                by_cases r32 : 32 ≤ r
                · by_cases r127 : r < 127
                  · have hp : prn r = true := by unfold prn; simp; omega
                    have HX : Hid (gsx (cutAt s pos hlt) = seg s pos (en - pos)) := by rw [Hid, gsx_seg s pos hlt (by rw [HR.out]; exact hp), ← HEN.out, Nat.add_sub_cancel_left]
                    clear hp
                    clear r10

                    go_wp2
                    go_loopw [7, 11] (fun v i wr => ∃ q : Nat, pos ≤ q ∧ q ≤ en ∧ i = .int .i64 (q : Int) ∧ wr.ownsRow w1.heap.size 5 1 v (L0.length + (q - pos)) (bv (L0 ++ seg s pos (q - pos))) ∧ Below w1.heap.size w1 wr) (fun _ i _ => en - (intOf i).toNat)
                    case atStart => exact ⟨pos, Nat.le_refl _, by omega, rfl, by simpa [seg] using hown, hbw⟩
                    case round =>
                      obtain ⟨q, hq0, hq1, rfl, hown', hbw'⟩ := hrel
                      have hB := hbw'.size
                      by_cases hq : q < en
                      · have hqs : q < s.size := by omega
                        have hqI : (q : Int) < (en : Int) := by omega
                        have hqsI : (q : Int) < (s.size : Int) := by omega
                        have hbe := bt_eq s q hqs
                        have HS : Hid (seg s pos (q + 1 - pos) = seg s pos (q - pos) ++ [(bt s q : Int)]) := by
                          rw [Hid, show q + 1 - pos = (q - pos) + 1 by omega, seg_succ, show pos + (q - pos) = q by omega]
                        obtain ⟨c, hcq⟩ : ∃ c, bt s q = c := ⟨_, rfl⟩
                        rw [hcq] at hbe HS
                        have hsb : (s[q]'hqs).toNat = c := hbe.symm
                        clear hbe hcq
                        go_wp2_with (at_builtin; refine wpList_append_own _ rfl _ _ 22 rfl w1.heap.size 5 i0 (.int .u8 0) 1 1 Try.underlying22 hi hz0 hz1 hz2 rfl (by decide) _ _ _ rfl (hown'.alloc _) ⟨_, 0, none⟩ 1 1 _ rfl rfl (World.news_of_block (heap_alloc_new _ _)) (by intro u hu; simp at hu; subst hu; rfl) (by unfold maxLen; omega) (by omega) (by simp; omega) ?_; intro v1 wa owna growa _; have hba := grown_below' hbw' hB hown' growa)
                        go_roundw
                        case rel =>
                          refine ⟨q + 1, by omega, by omega, by go_num, ?_, hba⟩
                          rw [HS.out, ← List.append_assoc, bv_append, show L0.length + (q + 1 - pos) = L0.length + (q - pos) + 1 by omega]
                          exact owna
                        case measure => simp [intOf]; omega
                      · obtain rfl : q = en := by omega
                        go_wp2
                        go_roundw
                        case rel =>
                          obtain ⟨hn1, hn2⟩ := cut_next hlt HP.out hf
                          rw [HEN.out] at hn1 hn2
                          refine ⟨q, f - 1, pre ++ [cutAt s pos hlt], hn1, hn2, by omega, ⟨K + 1, by rw [Hid, List.length_append, HK.out]; rfl, by go_num⟩, ?_, hbw'⟩
                          rw [gsL_snoc, HX.out, HL.out, List.length_append, seg_len]
                          exact hown'
                        case measure => simp [intOf]; omega
                  · by_cases r159 : 159 < r
                    · have hp : prn r = true := by unfold prn; simp; omega
                      have HX : Hid (gsx (cutAt s pos hlt) = seg s pos (en - pos)) := by rw [Hid, gsx_seg s pos hlt (by rw [HR.out]; exact hp), ← HEN.out, Nat.add_sub_cancel_left]
                      clear hp
                      clear r10

                      go_wp2
                      go_loopw [7, 11] (fun v i wr => ∃ q : Nat, pos ≤ q ∧ q ≤ en ∧ i = .int .i64 (q : Int) ∧ wr.ownsRow w1.heap.size 5 1 v (L0.length + (q - pos)) (bv (L0 ++ seg s pos (q - pos))) ∧ Below w1.heap.size w1 wr) (fun _ i _ => en - (intOf i).toNat)
                      case atStart => exact ⟨pos, Nat.le_refl _, by omega, rfl, by simpa [seg] using hown, hbw⟩
                      case round =>
                        obtain ⟨q, hq0, hq1, rfl, hown', hbw'⟩ := hrel
                        have hB := hbw'.size
                        by_cases hq : q < en
                        · have hqs : q < s.size := by omega
                          have hqI : (q : Int) < (en : Int) := by omega
                          have hqsI : (q : Int) < (s.size : Int) := by omega
                          have hbe := bt_eq s q hqs
                          have HS : Hid (seg s pos (q + 1 - pos) = seg s pos (q - pos) ++ [(bt s q : Int)]) := by
                            rw [Hid, show q + 1 - pos = (q - pos) + 1 by omega, seg_succ, show pos + (q - pos) = q by omega]
                          obtain ⟨c, hcq⟩ : ∃ c, bt s q = c := ⟨_, rfl⟩
                          rw [hcq] at hbe HS
                          have hsb : (s[q]'hqs).toNat = c := hbe.symm
                          clear hbe hcq
                          go_wp2_with (at_builtin; refine wpList_append_own _ rfl _ _ 22 rfl w1.heap.size 5 i0 (.int .u8 0) 1 1 Try.underlying22 hi hz0 hz1 hz2 rfl (by decide) _ _ _ rfl (hown'.alloc _) ⟨_, 0, none⟩ 1 1 _ rfl rfl (World.news_of_block (heap_alloc_new _ _)) (by intro u hu; simp at hu; subst hu; rfl) (by unfold maxLen; omega) (by omega) (by simp; omega) ?_; intro v1 wa owna growa _; have hba := grown_below' hbw' hB hown' growa)
                          go_roundw
                          case rel =>
                            refine ⟨q + 1, by omega, by omega, by go_num, ?_, hba⟩
                            rw [HS.out, ← List.append_assoc, bv_append, show L0.length + (q + 1 - pos) = L0.length + (q - pos) + 1 by omega]
                            exact owna
                          case measure => simp [intOf]; omega
                        · obtain rfl : q = en := by omega
                          go_wp2
                          go_roundw
                          case rel =>
                            obtain ⟨hn1, hn2⟩ := cut_next hlt HP.out hf
                            rw [HEN.out] at hn1 hn2
                            refine ⟨q, f - 1, pre ++ [cutAt s pos hlt], hn1, hn2, by omega, ⟨K + 1, by rw [Hid, List.length_append, HK.out]; rfl, by go_num⟩, ?_, hbw'⟩
                            rw [gsL_snoc, HX.out, HL.out, List.length_append, seg_len]
                            exact hown'
                          case measure => simp [intOf]; omega
                    · have hp : prn r = false := by unfold prn; simp; omega
                      have HX : Hid (gsx (cutAt s pos hlt) = [63]) := gsx_mark s pos hlt (by rw [HR.out]; exact hp)
                      clear hp
                      clear r10

                      go_wp2_with (at_builtin; refine wpList_append_own _ rfl _ _ 22 rfl w1.heap.size 5 i0 (.int .u8 0) 1 1 Try.underlying22 hi hz0 hz1 hz2 rfl (by decide) _ _ _ rfl (hown.alloc _) ⟨_, 0, none⟩ 1 1 _ rfl rfl (World.news_of_block (heap_alloc_new _ _)) (by intro u hu; simp at hu; subst hu; rfl) (by unfold maxLen; omega) (by omega) (by simp; omega) ?_; intro v1 wa owna growa _; have hba := grown_below' hbw hB hown growa)
                      go_roundw
                      case rel =>
                        obtain ⟨hn1, hn2⟩ := cut_next hlt HP.out hf
                        rw [HEN.out] at hn1 hn2
                        refine ⟨en, f - 1, pre ++ [cutAt s pos hlt], hn1, hn2, by omega, ⟨K + 1, by rw [Hid, List.length_append, HK.out]; rfl, by go_num⟩, ?_, hba⟩
                        rw [gsL_snoc, HX.out, HL.out, List.length_append, bv_append]
                        exact owna
                      case measure => simp [intOf]; omega
                · have hp : prn r = false := by unfold prn; simp; omega
                  have HX : Hid (gsx (cutAt s pos hlt) = [63]) := gsx_mark s pos hlt (by rw [HR.out]; exact hp)
                  clear hp
                  clear r10

                  go_wp2_with (at_builtin; refine wpList_append_own _ rfl _ _ 22 rfl w1.heap.size 5 i0 (.int .u8 0) 1 1 Try.underlying22 hi hz0 hz1 hz2 rfl (by decide) _ _ _ rfl (hown.alloc _) ⟨_, 0, none⟩ 1 1 _ rfl rfl (World.news_of_block (heap_alloc_new _ _)) (by intro u hu; simp at hu; subst hu; rfl) (by unfold maxLen; omega) (by omega) (by simp; omega) ?_; intro v1 wa owna growa _; have hba := grown_below' hbw hB hown growa)
                  go_roundw
                  case rel =>
                    obtain ⟨hn1, hn2⟩ := cut_next hlt HP.out hf
                    rw [HEN.out] at hn1 hn2
                    refine ⟨en, f - 1, pre ++ [cutAt s pos hlt], hn1, hn2, by omega, ⟨K + 1, by rw [Hid, List.length_append, HK.out]; rfl, by go_num⟩, ?_, hba⟩
                    rw [gsL_snoc, HX.out, HL.out, List.length_append, bv_append]
                    exact owna
                  case measure => simp [intOf]; omega
          · rw [cutsFrom_end s f pos hlt, List.append_nil] at hpre
            subst hpre
            have hkI : (cl : Int) ≤ (K : Int) := by have := HCL.out; have := HK.out; omega
            have hcv2 := fun W' (h : W'.heap = wr.heap) => conv_own (w := W') (own_heap h hown) 9 Try.underlying9
            have hcv3 := hcv2 wr rfl
            clear hcv2
            go_wp2
            go_ret
            exact ⟨rfl, hb.trans (hbw.mono HBW)⟩
      · have hI : (k : Int) < (zs.length : Int) := by omega
        go_wp2_with fail
        refine (cuts_any s _ (by omega)).mono ?_
        rintro e w1 ⟨v1, v2, rfl, own1, own2, hb⟩
        obtain ⟨ao1, cp1, rfl, hcell1⟩ := own_shape own1
        obtain ⟨ao2, cp2, rfl, hcell2⟩ := own_shape own2
        have HP1 := hid_of hcell1
        have HP2 := hid_of hcell2
        clear hcell1 hcell2 own1 own2
        have hcl : (cuts s).length ≤ s.size := cutsFrom_len s s.size 0
        obtain ⟨cl, hcl'⟩ : ∃ cl, (cuts s).length = cl := ⟨_, rfl⟩
        rw [hcl'] at hcl
        have HCL := hid_of hcl'
        have HBW := hb.size
        rw [hcl']
        clear hcl'
        go_wp2_with fail
        go_loopw [7, 8] (fun v i wr => ∃ (pos f : Nat) (pre : List (Cut s)), pre ++ cutsFrom s f pos = cuts s ∧ s.size ≤ pos + f ∧ pos ≤ s.size ∧ (∃ K : Nat, Hid (pre.length = K) ∧ i = .int .i64 (K : Int)) ∧ wr.ownsRow w1.heap.size 5 1 v (gsL pre).length (bv (gsL pre)) ∧ Below w1.heap.size w1 wr) (fun _ i _ => cl - (intOf i).toNat)
        case atStart => exact ⟨0, s.size, [], rfl, by omega, by omega, ⟨0, rfl, rfl⟩, World.ownsRow_nil _ _ _ _, Below.refl _ _⟩
        case round =>
          obtain ⟨pos, f, pre, hpre, hf, hps, ⟨K, HK, rfl⟩, hown, hbw⟩ := hrel
          have HP := hid_of hpre
          have hB := hbw.size
          by_cases hlt : pos < s.size
          · obtain ⟨hkl, e1, e2, e3⟩ := pl_at hlt hpre hf
            rw [HCL.out, HK.out] at hkl e3
            rw [HK.out] at e1 e2
            have hwl := wid_le s pos hlt
            have hwp := wid_pos s pos
            have hnr := numAt_range s pos
            have hLl := gsL_len pre
            rw [HK.out] at hLl
            obtain ⟨g1, rfl, _, hg1, c1⟩ := HP1.out _ _ e1
            obtain ⟨g2, rfl, _, hg2, c2⟩ := HP2.out _ _ e2
            have c1' : wr.cell? ⟨g1, K, none⟩ = some (.int .i64 (pos : Int)) := (hbw.cell (p := ⟨g1, K, none⟩) hg1).trans c1
            have c2' : wr.cell? ⟨g2, K, none⟩ = some (.int .i32 (numAt s pos)) := (hbw.cell (p := ⟨g2, K, none⟩) hg2).trans c2
            have HR0 : Hid (numAt s pos = numAt s pos) := rfl
            obtain ⟨r, hr⟩ : ∃ r, numAt s pos = r := ⟨_, rfl⟩
            have HR := hid_of hr
            obtain ⟨en, hen⟩ : ∃ en, pos + wid s pos = en := ⟨_, rfl⟩
            have HEN := hid_of hen
            rw [hr] at c2' hnr
            rw [hen] at hwl e3
            have hpe : pos < en := by omega
            obtain ⟨L0, hL0⟩ : ∃ L0, gsL pre = L0 := ⟨_, rfl⟩
            have HL := hid_of hL0
            rw [hL0] at hown hLl
            clear hpre e1 e2 c1 c2 HR0 hr hen hL0 hwp
            have hkI : (K : Int) < (cl : Int) := by omega
            rcases e3 with ⟨hk2, e4⟩ | ⟨hk2, hens⟩
            · obtain ⟨g3, eg, _, _, c3⟩ := HP1.out _ _ e4
              cases eg
              have c3' : wr.cell? ⟨g1, K + 1, none⟩ = some (.int .i64 (en : Int)) := (hbw.cell (p := ⟨g1, K + 1, none⟩) hg1).trans c3
              have hkI2 : (K : Int) + 1 < (cl : Int) := by omega
              clear e4 c3
              by_cases r10 : r = 10
              · have hp : prn r = true := by unfold prn; simp; omega
                have HX : Hid (gsx (cutAt s pos hlt) = seg s pos (en - pos)) := by rw [Hid, gsx_seg s pos hlt (by rw [HR.out]; exact hp), ← HEN.out, Nat.add_sub_cancel_left]
                clear hp
                have hr10 : (r == 10) = true := by rw [beq_iff_eq]; exact r10
                clear r10

                go_wp2
                go_loopw [7, 11] (fun v i wr => ∃ q : Nat, pos ≤ q ∧ q ≤ en ∧ i = .int .i64 (q : Int) ∧ wr.ownsRow w1.heap.size 5 1 v (L0.length + (q - pos)) (bv (L0 ++ seg s pos (q - pos))) ∧ Below w1.heap.size w1 wr) (fun _ i _ => en - (intOf i).toNat)
                case atStart => exact ⟨pos, Nat.le_refl _, by omega, rfl, by simpa [seg] using hown, hbw⟩
                case round =>
                  obtain ⟨q, hq0, hq1, rfl, hown', hbw'⟩ := hrel
                  have hB := hbw'.size
                  by_cases hq : q < en
                  · have hqs : q < s.size := by omega
                    have hqI : (q : Int) < (en : Int) := by omega
                    have hqsI : (q : Int) < (s.size : Int) := by omega
                    have hbe := bt_eq s q hqs
                    have HS : Hid (seg s pos (q + 1 - pos) = seg s pos (q - pos) ++ [(bt s q : Int)]) := by
                      rw [Hid, show q + 1 - pos = (q - pos) + 1 by omega, seg_succ, show pos + (q - pos) = q by omega]
                    obtain ⟨c, hcq⟩ : ∃ c, bt s q = c := ⟨_, rfl⟩
                    rw [hcq] at hbe HS
                    have hsb : (s[q]'hqs).toNat = c := hbe.symm
                    clear hbe hcq
                    go_wp2_with (at_builtin; refine wpList_append_own _ rfl _ _ 22 rfl w1.heap.size 5 i0 (.int .u8 0) 1 1 Try.underlying22 hi hz0 hz1 hz2 rfl (by decide) _ _ _ rfl (hown'.alloc _) ⟨_, 0, none⟩ 1 1 _ rfl rfl (World.news_of_block (heap_alloc_new _ _)) (by intro u hu; simp at hu; subst hu; rfl) (by unfold maxLen; omega) (by omega) (by simp; omega) ?_; intro v1 wa owna growa _; have hba := grown_below' hbw' hB hown' growa)
                    go_roundw
                    case rel =>
                      refine ⟨q + 1, by omega, by omega, by go_num, ?_, hba⟩
                      rw [HS.out, ← List.append_assoc, bv_append, show L0.length + (q + 1 - pos) = L0.length + (q - pos) + 1 by omega]
                      exact owna
                    case measure => simp [intOf]; omega
                  · obtain rfl : q = en := by omega
                    go_wp2
                    go_roundw
                    case rel =>
                      obtain ⟨hn1, hn2⟩ := cut_next hlt HP.out hf
                      rw [HEN.out] at hn1 hn2
                      refine ⟨q, f - 1, pre ++ [cutAt s pos hlt], hn1, hn2, by omega, ⟨K + 1, by rw [Hid, List.length_append, HK.out]; rfl, by go_num⟩, ?_, hbw'⟩
                      rw [gsL_snoc, HX.out, HL.out, List.length_append, seg_len]
                      exact hown'
                    case measure => simp [intOf]; omega
              · have hr10 : (r == 10) = false := by rw [beq_eq_false_iff_ne]; exact r10
                by_cases r32 : 32 ≤ r
                · by_cases r127 : r < 127
                  · have hp : prn r = true := by unfold prn; simp; omega
                    have HX : Hid (gsx (cutAt s pos hlt) = seg s pos (en - pos)) := by rw [Hid, gsx_seg s pos hlt (by rw [HR.out]; exact hp), ← HEN.out, Nat.add_sub_cancel_left]
                    clear hp
                    clear r10

                    go_wp2
                    go_loopw [7, 11] (fun v i wr => ∃ q : Nat, pos ≤ q ∧ q ≤ en ∧ i = .int .i64 (q : Int) ∧ wr.ownsRow w1.heap.size 5 1 v (L0.length + (q - pos)) (bv (L0 ++ seg s pos (q - pos))) ∧ Below w1.heap.size w1 wr) (fun _ i _ => en - (intOf i).toNat)
                    case atStart => exact ⟨pos, Nat.le_refl _, by omega, rfl, by simpa [seg] using hown, hbw⟩
                    case round =>
                      obtain ⟨q, hq0, hq1, rfl, hown', hbw'⟩ := hrel
                      have hB := hbw'.size
                      by_cases hq : q < en
                      · have hqs : q < s.size := by omega
                        have hqI : (q : Int) < (en : Int) := by omega
                        have hqsI : (q : Int) < (s.size : Int) := by omega
                        have hbe := bt_eq s q hqs
                        have HS : Hid (seg s pos (q + 1 - pos) = seg s pos (q - pos) ++ [(bt s q : Int)]) := by
                          rw [Hid, show q + 1 - pos = (q - pos) + 1 by omega, seg_succ, show pos + (q - pos) = q by omega]
                        obtain ⟨c, hcq⟩ : ∃ c, bt s q = c := ⟨_, rfl⟩
                        rw [hcq] at hbe HS
                        have hsb : (s[q]'hqs).toNat = c := hbe.symm
                        clear hbe hcq
                        go_wp2_with (at_builtin; refine wpList_append_own _ rfl _ _ 22 rfl w1.heap.size 5 i0 (.int .u8 0) 1 1 Try.underlying22 hi hz0 hz1 hz2 rfl (by decide) _ _ _ rfl (hown'.alloc _) ⟨_, 0, none⟩ 1 1 _ rfl rfl (World.news_of_block (heap_alloc_new _ _)) (by intro u hu; simp at hu; subst hu; rfl) (by unfold maxLen; omega) (by omega) (by simp; omega) ?_; intro v1 wa owna growa _; have hba := grown_below' hbw' hB hown' growa)
                        go_roundw
                        case rel =>
                          refine ⟨q + 1, by omega, by omega, by go_num, ?_, hba⟩
                          rw [HS.out, ← List.append_assoc, bv_append, show L0.length + (q + 1 - pos) = L0.length + (q - pos) + 1 by omega]
                          exact owna
                        case measure => simp [intOf]; omega
                      · obtain rfl : q = en := by omega
                        go_wp2
                        go_roundw
                        case rel =>
                          obtain ⟨hn1, hn2⟩ := cut_next hlt HP.out hf
                          rw [HEN.out] at hn1 hn2
                          refine ⟨q, f - 1, pre ++ [cutAt s pos hlt], hn1, hn2, by omega, ⟨K + 1, by rw [Hid, List.length_append, HK.out]; rfl, by go_num⟩, ?_, hbw'⟩
                          rw [gsL_snoc, HX.out, HL.out, List.length_append, seg_len]
                          exact hown'
                        case measure => simp [intOf]; omega
                  · by_cases r159 : 159 < r
                    · have hp : prn r = true := by unfold prn; simp; omega
                      have HX : Hid (gsx (cutAt s pos hlt) = seg s pos (en - pos)) := by rw [Hid, gsx_seg s pos hlt (by rw [HR.out]; exact hp), ← HEN.out, Nat.add_sub_cancel_left]
                      clear hp
                      clear r10

                      go_wp2
                      go_loopw [7, 11] (fun v i wr => ∃ q : Nat, pos ≤ q ∧ q ≤ en ∧ i = .int .i64 (q : Int) ∧ wr.ownsRow w1.heap.size 5 1 v (L0.length + (q - pos)) (bv (L0 ++ seg s pos (q - pos))) ∧ Below w1.heap.size w1 wr) (fun _ i _ => en - (intOf i).toNat)
                      case atStart => exact ⟨pos, Nat.le_refl _, by omega, rfl, by simpa [seg] using hown, hbw⟩
                      case round =>
                        obtain ⟨q, hq0, hq1, rfl, hown', hbw'⟩ := hrel
                        have hB := hbw'.size
                        by_cases hq : q < en
                        · have hqs : q < s.size := by omega
                          have hqI : (q : Int) < (en : Int) := by omega
                          have hqsI : (q : Int) < (s.size : Int) := by omega
                          have hbe := bt_eq s q hqs
                          have HS : Hid (seg s pos (q + 1 - pos) = seg s pos (q - pos) ++ [(bt s q : Int)]) := by
                            rw [Hid, show q + 1 - pos = (q - pos) + 1 by omega, seg_succ, show pos + (q - pos) = q by omega]
                          obtain ⟨c, hcq⟩ : ∃ c, bt s q = c := ⟨_, rfl⟩
                          rw [hcq] at hbe HS
                          have hsb : (s[q]'hqs).toNat = c := hbe.symm
                          clear hbe hcq
                          go_wp2_with (at_builtin; refine wpList_append_own _ rfl _ _ 22 rfl w1.heap.size 5 i0 (.int .u8 0) 1 1 Try.underlying22 hi hz0 hz1 hz2 rfl (by decide) _ _ _ rfl (hown'.alloc _) ⟨_, 0, none⟩ 1 1 _ rfl rfl (World.news_of_block (heap_alloc_new _ _)) (by intro u hu; simp at hu; subst hu; rfl) (by unfold maxLen; omega) (by omega) (by simp; omega) ?_; intro v1 wa owna growa _; have hba := grown_below' hbw' hB hown' growa)
                          go_roundw
                          case rel =>
                            refine ⟨q + 1, by omega, by omega, by go_num, ?_, hba⟩
                            rw [HS.out, ← List.append_assoc, bv_append, show L0.length + (q + 1 - pos) = L0.length + (q - pos) + 1 by omega]
                            exact owna
                          case measure => simp [intOf]; omega
                        · obtain rfl : q = en := by omega
                          go_wp2
                          go_roundw
                          case rel =>
                            obtain ⟨hn1, hn2⟩ := cut_next hlt HP.out hf
                            rw [HEN.out] at hn1 hn2
                            refine ⟨q, f - 1, pre ++ [cutAt s pos hlt], hn1, hn2, by omega, ⟨K + 1, by rw [Hid, List.length_append, HK.out]; rfl, by go_num⟩, ?_, hbw'⟩
                            rw [gsL_snoc, HX.out, HL.out, List.length_append, seg_len]
                            exact hown'
                          case measure => simp [intOf]; omega
                    · have hp : prn r = false := by unfold prn; simp; omega
                      have HX : Hid (gsx (cutAt s pos hlt) = [63]) := gsx_mark s pos hlt (by rw [HR.out]; exact hp)
                      clear hp
                      clear r10

                      go_wp2_with (at_builtin; refine wpList_append_own _ rfl _ _ 22 rfl w1.heap.size 5 i0 (.int .u8 0) 1 1 Try.underlying22 hi hz0 hz1 hz2 rfl (by decide) _ _ _ rfl (hown.alloc _) ⟨_, 0, none⟩ 1 1 _ rfl rfl (World.news_of_block (heap_alloc_new _ _)) (by intro u hu; simp at hu; subst hu; rfl) (by unfold maxLen; omega) (by omega) (by simp; omega) ?_; intro v1 wa owna growa _; have hba := grown_below' hbw hB hown growa)
                      go_roundw
                      case rel =>
                        obtain ⟨hn1, hn2⟩ := cut_next hlt HP.out hf
                        rw [HEN.out] at hn1 hn2
                        refine ⟨en, f - 1, pre ++ [cutAt s pos hlt], hn1, hn2, by omega, ⟨K + 1, by rw [Hid, List.length_append, HK.out]; rfl, by go_num⟩, ?_, hba⟩
                        rw [gsL_snoc, HX.out, HL.out, List.length_append, bv_append]
                        exact owna
                      case measure => simp [intOf]; omega
                · have hp : prn r = false := by unfold prn; simp; omega
                  have HX : Hid (gsx (cutAt s pos hlt) = [63]) := gsx_mark s pos hlt (by rw [HR.out]; exact hp)
                  clear hp
                  clear r10

                  go_wp2_with (at_builtin; refine wpList_append_own _ rfl _ _ 22 rfl w1.heap.size 5 i0 (.int .u8 0) 1 1 Try.underlying22 hi hz0 hz1 hz2 rfl (by decide) _ _ _ rfl (hown.alloc _) ⟨_, 0, none⟩ 1 1 _ rfl rfl (World.news_of_block (heap_alloc_new _ _)) (by intro u hu; simp at hu; subst hu; rfl) (by unfold maxLen; omega) (by omega) (by simp; omega) ?_; intro v1 wa owna growa _; have hba := grown_below' hbw hB hown growa)
                  go_roundw
                  case rel =>
                    obtain ⟨hn1, hn2⟩ := cut_next hlt HP.out hf
                    rw [HEN.out] at hn1 hn2
                    refine ⟨en, f - 1, pre ++ [cutAt s pos hlt], hn1, hn2, by omega, ⟨K + 1, by rw [Hid, List.length_append, HK.out]; rfl, by go_num⟩, ?_, hba⟩
                    rw [gsL_snoc, HX.out, HL.out, List.length_append, bv_append]
                    exact owna
                  case measure => simp [intOf]; omega
            · have hkI2 : (cl : Int) ≤ (K : Int) + 1 := by omega
              clear hk2
              have hsz := HSS.out
              obtain rfl : en = k := by omega
              clear hens hsz
              by_cases r10 : r = 10
              · have hp : prn r = true := by unfold prn; simp; omega
                have HX : Hid (gsx (cutAt s pos hlt) = seg s pos (en - pos)) := by rw [Hid, gsx_seg s pos hlt (by rw [HR.out]; exact hp), ← HEN.out, Nat.add_sub_cancel_left]
                clear hp
                have hr10 : (r == 10) = true := by rw [beq_iff_eq]; exact r10
                clear r10

                go_wp2
                go_loopw [7, 11] (fun v i wr => ∃ q : Nat, pos ≤ q ∧ q ≤ en ∧ i = .int .i64 (q : Int) ∧ wr.ownsRow w1.heap.size 5 1 v (L0.length + (q - pos)) (bv (L0 ++ seg s pos (q - pos))) ∧ Below w1.heap.size w1 wr) (fun _ i _ => en - (intOf i).toNat)
                case atStart => exact ⟨pos, Nat.le_refl _, by omega, rfl, by simpa [seg] using hown, hbw⟩
                case round =>
                  obtain ⟨q, hq0, hq1, rfl, hown', hbw'⟩ := hrel
                  have hB := hbw'.size
                  by_cases hq : q < en
                  · have hqs : q < s.size := by omega
                    have hqI : (q : Int) < (en : Int) := by omega
                    have hqsI : (q : Int) < (s.size : Int) := by omega
                    have hbe := bt_eq s q hqs
                    have HS : Hid (seg s pos (q + 1 - pos) = seg s pos (q - pos) ++ [(bt s q : Int)]) := by
                      rw [Hid, show q + 1 - pos = (q - pos) + 1 by omega, seg_succ, show pos + (q - pos) = q by omega]
                    obtain ⟨c, hcq⟩ : ∃ c, bt s q = c := ⟨_, rfl⟩
                    rw [hcq] at hbe HS
                    have hsb : (s[q]'hqs).toNat = c := hbe.symm
                    clear hbe hcq
                    go_wp2_with (at_builtin; refine wpList_append_own _ rfl _ _ 22 rfl w1.heap.size 5 i0 (.int .u8 0) 1 1 Try.underlying22 hi hz0 hz1 hz2 rfl (by decide) _ _ _ rfl (hown'.alloc _) ⟨_, 0, none⟩ 1 1 _ rfl rfl (World.news_of_block (heap_alloc_new _ _)) (by intro u hu; simp at hu; subst hu; rfl) (by unfold maxLen; omega) (by omega) (by simp; omega) ?_; intro v1 wa owna growa _; have hba := grown_below' hbw' hB hown' growa)
                    go_roundw
                    case rel =>
                      refine ⟨q + 1, by omega, by omega, by go_num, ?_, hba⟩
                      rw [HS.out, ← List.append_assoc, bv_append, show L0.length + (q + 1 - pos) = L0.length + (q - pos) + 1 by omega]
                      exact owna
                    case measure => simp [intOf]; omega
                  · obtain rfl : q = en := by omega
                    go_wp2
                    go_roundw
                    case rel =>
                      obtain ⟨hn1, hn2⟩ := cut_next hlt HP.out hf
                      rw [HEN.out] at hn1 hn2
                      refine ⟨q, f - 1, pre ++ [cutAt s pos hlt], hn1, hn2, by omega, ⟨K + 1, by rw [Hid, List.length_append, HK.out]; rfl, by go_num⟩, ?_, hbw'⟩
                      rw [gsL_snoc, HX.out, HL.out, List.length_append, seg_len]
                      exact hown'
                    case measure => simp [intOf]; omega
              · have hr10 : (r == 10) = false := by rw [beq_eq_false_iff_ne]; exact r10
                by_cases r32 : 32 ≤ r
                · by_cases r127 : r < 127
                  · have hp : prn r = true := by unfold prn; simp; omega
                    have HX : Hid (gsx (cutAt s pos hlt) = seg s pos (en - pos)) := by rw [Hid, gsx_seg s pos hlt (by rw [HR.out]; exact hp), ← HEN.out, Nat.add_sub_cancel_left]
                    clear hp
                    clear r10

                    go_wp2
                    go_loopw [7, 11] (fun v i wr => ∃ q : Nat, pos ≤ q ∧ q ≤ en ∧ i = .int .i64 (q : Int) ∧ wr.ownsRow w1.heap.size 5 1 v (L0.length + (q - pos)) (bv (L0 ++ seg s pos (q - pos))) ∧ Below w1.heap.size w1 wr) (fun _ i _ => en - (intOf i).toNat)
                    case atStart => exact ⟨pos, Nat.le_refl _, by omega, rfl, by simpa [seg] using hown, hbw⟩
                    case round =>
                      obtain ⟨q, hq0, hq1, rfl, hown', hbw'⟩ := hrel
                      have hB := hbw'.size
                      by_cases hq : q < en
                      · have hqs : q < s.size := by omega
                        have hqI : (q : Int) < (en : Int) := by omega
                        have hqsI : (q : Int) < (s.size : Int) := by omega
                        have hbe := bt_eq s q hqs
                        have HS : Hid (seg s pos (q + 1 - pos) = seg s pos (q - pos) ++ [(bt s q : Int)]) := by
                          rw [Hid, show q + 1 - pos = (q - pos) + 1 by omega, seg_succ, show pos + (q - pos) = q by omega]
                        obtain ⟨c, hcq⟩ : ∃ c, bt s q = c := ⟨_, rfl⟩
                        rw [hcq] at hbe HS
                        have hsb : (s[q]'hqs).toNat = c := hbe.symm
                        clear hbe hcq
                        go_wp2_with (at_builtin; refine wpList_append_own _ rfl _ _ 22 rfl w1.heap.size 5 i0 (.int .u8 0) 1 1 Try.underlying22 hi hz0 hz1 hz2 rfl (by decide) _ _ _ rfl (hown'.alloc _) ⟨_, 0, none⟩ 1 1 _ rfl rfl (World.news_of_block (heap_alloc_new _ _)) (by intro u hu; simp at hu; subst hu; rfl) (by unfold maxLen; omega) (by omega) (by simp; omega) ?_; intro v1 wa owna growa _; have hba := grown_below' hbw' hB hown' growa)
                        go_roundw
                        case rel =>
                          refine ⟨q + 1, by omega, by omega, by go_num, ?_, hba⟩
                          rw [HS.out, ← List.append_assoc, bv_append, show L0.length + (q + 1 - pos) = L0.length + (q - pos) + 1 by omega]
                          exact owna
                        case measure => simp [intOf]; omega
                      · obtain rfl : q = en := by omega
                        go_wp2
                        go_roundw
                        case rel =>
                          obtain ⟨hn1, hn2⟩ := cut_next hlt HP.out hf
                          rw [HEN.out] at hn1 hn2
                          refine ⟨q, f - 1, pre ++ [cutAt s pos hlt], hn1, hn2, by omega, ⟨K + 1, by rw [Hid, List.length_append, HK.out]; rfl, by go_num⟩, ?_, hbw'⟩
                          rw [gsL_snoc, HX.out, HL.out, List.length_append, seg_len]
                          exact hown'
                        case measure => simp [intOf]; omega
                  · by_cases r159 : 159 < r
                    · have hp : prn r = true := by unfold prn; simp; omega
                      have HX : Hid (gsx (cutAt s pos hlt) = seg s pos (en - pos)) := by rw [Hid, gsx_seg s pos hlt (by rw [HR.out]; exact hp), ← HEN.out, Nat.add_sub_cancel_left]
                      clear hp
                      clear r10

                      go_wp2
                      go_loopw [7, 11] (fun v i wr => ∃ q : Nat, pos ≤ q ∧ q ≤ en ∧ i = .int .i64 (q : Int) ∧ wr.ownsRow w1.heap.size 5 1 v (L0.length + (q - pos)) (bv (L0 ++ seg s pos (q - pos))) ∧ Below w1.heap.size w1 wr) (fun _ i _ => en - (intOf i).toNat)
                      case atStart => exact ⟨pos, Nat.le_refl _, by omega, rfl, by simpa [seg] using hown, hbw⟩
                      case round =>
                        obtain ⟨q, hq0, hq1, rfl, hown', hbw'⟩ := hrel
                        have hB := hbw'.size
                        by_cases hq : q < en
                        · have hqs : q < s.size := by omega
                          have hqI : (q : Int) < (en : Int) := by omega
                          have hqsI : (q : Int) < (s.size : Int) := by omega
                          have hbe := bt_eq s q hqs
                          have HS : Hid (seg s pos (q + 1 - pos) = seg s pos (q - pos) ++ [(bt s q : Int)]) := by
                            rw [Hid, show q + 1 - pos = (q - pos) + 1 by omega, seg_succ, show pos + (q - pos) = q by omega]
                          obtain ⟨c, hcq⟩ : ∃ c, bt s q = c := ⟨_, rfl⟩
                          rw [hcq] at hbe HS
                          have hsb : (s[q]'hqs).toNat = c := hbe.symm
                          clear hbe hcq
                          go_wp2_with (at_builtin; refine wpList_append_own _ rfl _ _ 22 rfl w1.heap.size 5 i0 (.int .u8 0) 1 1 Try.underlying22 hi hz0 hz1 hz2 rfl (by decide) _ _ _ rfl (hown'.alloc _) ⟨_, 0, none⟩ 1 1 _ rfl rfl (World.news_of_block (heap_alloc_new _ _)) (by intro u hu; simp at hu; subst hu; rfl) (by unfold maxLen; omega) (by omega) (by simp; omega) ?_; intro v1 wa owna growa _; have hba := grown_below' hbw' hB hown' growa)
                          go_roundw
                          case rel =>
                            refine ⟨q + 1, by omega, by omega, by go_num, ?_, hba⟩
                            rw [HS.out, ← List.append_assoc, bv_append, show L0.length + (q + 1 - pos) = L0.length + (q - pos) + 1 by omega]
                            exact owna
                          case measure => simp [intOf]; omega
                        · obtain rfl : q = en := by omega
                          go_wp2
                          go_roundw
                          case rel =>
                            obtain ⟨hn1, hn2⟩ := cut_next hlt HP.out hf
                            rw [HEN.out] at hn1 hn2
                            refine ⟨q, f - 1, pre ++ [cutAt s pos hlt], hn1, hn2, by omega, ⟨K + 1, by rw [Hid, List.length_append, HK.out]; rfl, by go_num⟩, ?_, hbw'⟩
                            rw [gsL_snoc, HX.out, HL.out, List.length_append, seg_len]
                            exact hown'
                          case measure => simp [intOf]; omega
                    · have hp : prn r = false := by unfold prn; simp; omega
                      have HX : Hid (gsx (cutAt s pos hlt) = [63]) := gsx_mark s pos hlt (by rw [HR.out]; exact hp)
                      clear hp
                      clear r10

                      go_wp2_with (at_builtin; refine wpList_append_own _ rfl _ _ 22 rfl w1.heap.size 5 i0 (.int .u8 0) 1 1 Try.underlying22 hi hz0 hz1 hz2 rfl (by decide) _ _ _ rfl (hown.alloc _) ⟨_, 0, none⟩ 1 1 _ rfl rfl (World.news_of_block (heap_alloc_new _ _)) (by intro u hu; simp at hu; subst hu; rfl) (by unfold maxLen; omega) (by omega) (by simp; omega) ?_; intro v1 wa owna growa _; have hba := grown_below' hbw hB hown growa)
                      go_roundw
                      case rel =>
                        obtain ⟨hn1, hn2⟩ := cut_next hlt HP.out hf
                        rw [HEN.out] at hn1 hn2
                        refine ⟨en, f - 1, pre ++ [cutAt s pos hlt], hn1, hn2, by omega, ⟨K + 1, by rw [Hid, List.length_append, HK.out]; rfl, by go_num⟩, ?_, hba⟩
                        rw [gsL_snoc, HX.out, HL.out, List.length_append, bv_append]
                        exact owna
                      case measure => simp [intOf]; omega
                · have hp : prn r = false := by unfold prn; simp; omega
                  have HX : Hid (gsx (cutAt s pos hlt) = [63]) := gsx_mark s pos hlt (by rw [HR.out]; exact hp)
                  clear hp
                  clear r10

                  go_wp2_with (at_builtin; refine wpList_append_own _ rfl _ _ 22 rfl w1.heap.size 5 i0 (.int .u8 0) 1 1 Try.underlying22 hi hz0 hz1 hz2 rfl (by decide) _ _ _ rfl (hown.alloc _) ⟨_, 0, none⟩ 1 1 _ rfl rfl (World.news_of_block (heap_alloc_new _ _)) (by intro u hu; simp at hu; subst hu; rfl) (by unfold maxLen; omega) (by omega) (by simp; omega) ?_; intro v1 wa owna growa _; have hba := grown_below' hbw hB hown growa)
                  go_roundw
                  case rel =>
                    obtain ⟨hn1, hn2⟩ := cut_next hlt HP.out hf
                    rw [HEN.out] at hn1 hn2
                    refine ⟨en, f - 1, pre ++ [cutAt s pos hlt], hn1, hn2, by omega, ⟨K + 1, by rw [Hid, List.length_append, HK.out]; rfl, by go_num⟩, ?_, hba⟩
                    rw [gsL_snoc, HX.out, HL.out, List.length_append, bv_append]
                    exact owna
                  case measure => simp [intOf]; omega
          · rw [cutsFrom_end s f pos hlt, List.append_nil] at hpre
            subst hpre
            have hkI : (cl : Int) ≤ (K : Int) := by have := HCL.out; have := HK.out; omega
            have hcv2 := fun W' (h : W'.heap = wr.heap) => conv_own (w := W') (own_heap h hown) 9 Try.underlying9
            have hcv3 := hcv2 wr rfl
            clear hcv2
            go_wp2
            go_ret
            exact ⟨rfl, hb.trans (hbw.mono HBW)⟩
end Go.Proofs.Ytcaobkhifiicnaa
