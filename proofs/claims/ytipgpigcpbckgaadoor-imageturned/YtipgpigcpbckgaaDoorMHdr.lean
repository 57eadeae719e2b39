import Derived.Test.YtipgpigcpbckgaaDoorMAptG
import Derived.Test.YtipgpigcpbckgaaDoorLWd32
import Derived.Test.YtipgpigcpbckgaaDoorLSum
namespace Go.Proofs.YtipgpigcpbckgaaDoor
open Go.RowKit Go.WideShapes Go.Sort Go.Lib
set_option maxRecDepth 100000

theorem wth_len (w : Nat) (zs : List Int) (p : Nat) (x : Int) (h : p + w ≤ zs.length) : (wth w zs p x).length = zs.length := by
  simp [wth, nb_len]; omega
theorem wth_wf (w : Nat) (zs : List Int) (p : Nat) (x : Int) (h : ∀ z ∈ zs, 0 ≤ z ∧ z ≤ 255) : ∀ z ∈ wth w zs p x, 0 ≤ z ∧ z ≤ 255 := by
  intro z hz
  simp only [wth, List.mem_append] at hz
  rcases hz with hz | hz | hz
  · exact h z (List.mem_of_mem_take hz)
  · exact nb_wf w x z hz
  · exact h z (List.mem_of_mem_drop hz)
theorem own_lenM {w : World} {B e sz n m : Nat} {v : Value} {xs : List Value} (h : w.ownsRow B e sz v n xs) (hm : n = m) : w.ownsRow B e sz v m xs := hm ▸ h
set_option maxHeartbeats 1000000 in
theorem wordAt_any (ao : Option Addr) (cap : Nat) (zs : List Int) (at_ : Int) (W : World) (hn : zs.length ≤ 140737488355328) (hcp : zs.length ≤ cap) (hwf : ∀ z ∈ zs, 0 ≤ z ∧ z ≤ 255) (hr : Reads W ao zs W.heap.size) (t0 : -9223372036854775808 ≤ at_) (t1 : at_ ≤ 9223372036854775807) :
    Calls Tryd.prog 22 #[.slice ao zs.length cap, .int .i64 at_] W fun e w' => e = .returned (.int .u32 (atv 4 zs at_)) ∧ w' = W := by
  have hA := at_u32 ao cap zs at_ W hn hcp hwf hr t0 t1
  generalize atv 4 zs at_ = v at *
  generalize ate 4 zs.length at_ = er at *
  clear hwf hr
  go_enter Tryd.func22, Tryd.ntmps22
  go_wp2_with (first | (go_at_call 36; with_reducible refine hA.mono ?_; rintro e wq ⟨rfl, hq⟩; subst wq))
  go_ret
  exact ⟨rfl, rfl⟩
/-- the sum that bytes must have -/
def sumV (zs : List Int) : Int := adl (wth 4 zs 8 0)
set_option maxHeartbeats 1000000 in
theorem sumOf_any (ao : Option Addr) (cap : Nat) (zs : List Int) (w : World) (hn : zs.length ≤ 140737488355328) (h64 : 64 ≤ zs.length) (hwf : ∀ z ∈ zs, 0 ≤ z ∧ z ≤ 255) (hr : Reads w ao zs w.heap.size) :
    Calls Tryd.prog 19 #[.slice ao zs.length cap] w fun e w' => e = .returned (.int .u32 (sumV zs)) ∧ Below w.heap.size w w' := by
  have hW := with_u32 ao cap zs 8 0 w hn hr (by decide) (by decide) (by decide) (by decide) ⟨by decide, by omega⟩
  have hl : (wth 4 zs 8 0).length = zs.length := wth_len 4 zs 8 0 (by omega)
  have hwf2 : ∀ z ∈ wth 4 zs 8 0, 0 ≤ z ∧ z ≤ 255 := wth_wf 4 zs 8 0 hwf
  have HW2 := hidS hwf2
  clear hr hwf hwf2
  go_enter Tryd.func19, Tryd.ntmps19
  go_wp2_with fail
  with_reducible refine hW.mono ?_
  rintro e w1 ⟨v, rfl, own1, b1⟩
  obtain ⟨ao1, cap1, he, hr1⟩ := own_reads (own_lenM own1 hl.symm)
  subst he
  have hS := sum_any ao1 cap1 (wth 4 zs 8 0) w1 (by omega) HW2.out hr1
  rw [hl] at hS
  clear hW hr1 own1
  go_wp2_with fail
  with_reducible refine hS.mono ?_
  rintro e w2 ⟨rfl, hq⟩
  subst w2
  go_wp2_with fail
  go_ret
  exact ⟨rfl, b1⟩
set_option maxHeartbeats 1000000 in
theorem lenF_lo (ao : Option Addr) (n cap : Nat) (w : World) (h : n < 64) :
    Calls Tryd.prog 17 #[.slice ao n cap] w fun e w' => e = .returned (.tuple #[.int .i64 n, .int .i64 80]) ∧ w' = w := by
  have hI : (n : Int) < 64 := by omega
  go_enter Tryd.func17, Tryd.ntmps17
  go_wp2_with fail
  refine bodyPost_ret (results_tmp2 rfl _ _ _) rfl ?_
  exact ⟨rfl, rfl⟩
set_option maxHeartbeats 1000000 in
theorem lenF_hi (ao : Option Addr) (n cap : Nat) (w : World) (h : 1048576 < n) :
    Calls Tryd.prog 17 #[.slice ao n cap] w fun e w' => e = .returned (.tuple #[.int .i64 1048576, .int .i64 80]) ∧ w' = w := by
  have hI : ¬ (n : Int) < 64 := by omega
  have hI2 : (1048576 : Int) < (n : Int) := by omega
  clear h
  go_enter Tryd.func17, Tryd.ntmps17
  go_wp2_with fail
  refine bodyPost_ret (results_tmp2 rfl _ _ _) rfl ?_
  exact ⟨rfl, rfl⟩
set_option maxHeartbeats 1000000 in
theorem lenF_ok (ao : Option Addr) (n cap : Nat) (w : World) (h : 64 ≤ n) (h2 : n ≤ 1048576) :
    Calls Tryd.prog 17 #[.slice ao n cap] w fun e w' => e = .returned (.tuple #[.int .i64 0, .int .i64 0]) ∧ w' = w := by
  have hI : ¬ (n : Int) < 64 := by omega
  have hI2 : ¬ (1048576 : Int) < (n : Int) := by omega
  clear h h2
  go_enter Tryd.func17, Tryd.ntmps17
  go_wp2_with fail
  refine bodyPost_ret (results_tmp2 rfl _ _ _) rfl ?_
  exact ⟨rfl, rfl⟩
def HdrPost (zs : List Int) (e : Ending) : Prop := ∃ at_ er : Int, e = .returned (.tuple #[.int .i64 at_, .int .i64 er]) ∧ (er = 0 → atv 4 zs 8 = sumV zs)
set_option maxHeartbeats 2000000 in
theorem header_any (b off cap : Nat) (zs : List Int) (w : World) (hn : zs.length ≤ 1048576) (h64 : 64 ≤ zs.length) (hcp : zs.length ≤ cap) (hwf : ∀ z ∈ zs, 0 ≤ z ∧ z ≤ 255) (hr : Reads w (some ⟨b, off, none⟩) zs w.heap.size) :
    Calls Tryd.prog 13 #[.slice (some ⟨b, off, none⟩) zs.length cap] w fun e w' => HdrPost zs e ∧ Below w.heap.size w w' := by
  have hA := fun (W : World) (hW : Below w.heap.size w W) (at_ : Int) (t0 : -9223372036854775808 ≤ at_) (t1 : at_ ≤ 9223372036854775807) => wordAt_any (some ⟨b, off, none⟩) cap zs at_ W (by omega) hcp hwf ((hr.below hW).mono hW.size) t0 t1
  have hS := fun (W : World) (hW : Below w.heap.size w W) => sumOf_any (some ⟨b, off, none⟩) cap zs W (by omega) h64 hwf ((hr.below hW).mono hW.size)
  have hL := lenF_ok (some ⟨b, off, none⟩) zs.length cap w h64 hn
  obtain ⟨b', off', e', hbl, hc⟩ := hr (by omega)
  cases e'
  have hcv := run_convert_bytes_arg (P := Tryd.prog) w 22 5 Tryd.underlying22 Tryd.underlying5 b off 4 cap (zs.take 4) (by rw [List.length_take]; omega) (fun i hi => by
    rw [hc i (by omega)]; simp [List.getD_eq_getElem?_getD, hi]) 9 Tryd.underlying9
  have HA := hidS hA
  have HS := hidS hS
  have h4 : (4 : Int) ≤ (zs.length : Int) := by omega
  have h4c : (4 : Int) ≤ (cap : Int) := by omega
  clear hr hwf hc hA hS
  generalize strOfNums (zs.take 4) = st at hcv
  go_enter Tryd.func13, Tryd.ntmps13
  go_wp2_with fail
  with_reducible refine hL.mono ?_
  rintro e wq ⟨rfl, hq⟩
  subst wq
  have hb0 : Below w.heap.size w w := Below.refl _ _
  have h1 := HA.out w hb0 4 (by decide) (by decide)
  have h2 := HA.out w hb0 8 (by decide) (by decide)
  have h3 := HS.out w hb0
  cases hst : (st.toList == [80, 69, 78, 33])
  · go_wp2_with fail
    refine bodyPost_ret (results_tmp2 rfl _ _ _) rfl ?_
    exact ⟨⟨_, _, rfl, fun h => by cases h⟩, Below.refl _ _⟩
  · by_cases hv1 : atv 4 zs 4 = 1
    · rw [hv1] at h1
      go_wp2_with fail
      with_reducible refine h1.mono ?_
      rintro e wq ⟨rfl, hq⟩
      subst wq
      go_wp2_with fail
      with_reducible refine h2.mono ?_
      rintro e wq ⟨rfl, hq⟩
      subst wq
      go_wp2_with fail
      with_reducible refine h3.mono ?_
      rintro e w1 ⟨rfl, b1⟩
      by_cases hv2 : atv 4 zs 8 = sumV zs
      · have HV := hidS hv2
        rw [hv2]
        clear hv2 h1 h2 h3
        obtain ⟨sv8, hsv⟩ : ∃ sv8, sumV zs = sv8 := ⟨_, rfl⟩
        rw [hsv]
        have HSV := hidS hsv
        clear hsv
        go_wp2_with fail
        go_loopw [6] (fun i wr => ∃ k : Nat, k ≤ 2 ∧ i = .int .i64 (56 + 4 * (k : Int)) ∧ Below w.heap.size w wr) (fun i _ => 64 - (intOf i).toNat)
        case atStart => exact ⟨0, by omega, rfl, b1⟩
        case round =>
          obtain ⟨k, hk, rfl, hb⟩ := hrel
          by_cases hlt : k < 2
          · have hltI : 56 + 4 * (k : Int) < 64 := by omega
            have h1 := HA.out wr hb (56 + 4 * (k : Int)) (by omega) (by omega)
            by_cases hz : atv 4 zs (56 + 4 * (k : Int)) = 0
            · rw [hz] at h1
              go_wp2_with fail
              with_reducible refine h1.mono ?_
              rintro e wq ⟨rfl, hq⟩
              subst wq
              go_wp2_with fail
              go_roundw
              case rel => exact ⟨k + 1, by omega, by go_num, hb⟩
              case measure => simp [intOf]; omega
            · have hz' : (atv 4 zs (56 + 4 * (k : Int)) == 0) = false := by simpa using hz
              generalize atv 4 zs (56 + 4 * (k : Int)) = xk at *
              go_wp2_with fail
              with_reducible refine h1.mono ?_
              rintro e wq ⟨rfl, hq⟩
              subst wq
              go_wp2_with fail
              refine bodyPost_ret (results_tmp2 rfl _ _ _) rfl ?_
              exact ⟨⟨_, _, rfl, fun h => by cases h⟩, hb⟩
          · have hltI : ¬ 56 + 4 * (k : Int) < 64 := by omega
            go_wp2_with fail
            refine bodyPost_ret (results_tmp2 rfl _ _ _) rfl ?_
            exact ⟨⟨_, _, rfl, fun _ => HV.out⟩, hb⟩
      · have hv2' : (atv 4 zs 8 == sumV zs) = false := by simpa using hv2
        clear hv2
        generalize atv 4 zs 8 = x8 at *
        generalize sumV zs = sv8 at *
        go_wp2_with fail
        refine bodyPost_ret (results_tmp2 rfl _ _ _) rfl ?_
        exact ⟨⟨_, _, rfl, fun h => by cases h⟩, b1⟩
    · have hv1' : (atv 4 zs 4 == 1) = false := by simpa using hv1
      generalize atv 4 zs 4 = x4 at *
      go_wp2_with fail
      with_reducible refine h1.mono ?_
      rintro e wq ⟨rfl, hq⟩
      subst wq
      go_wp2_with fail
      refine bodyPost_ret (results_tmp2 rfl _ _ _) rfl ?_
      exact ⟨⟨_, _, rfl, fun h => by cases h⟩, Below.refl _ _⟩
end Go.Proofs.YtipgpigcpbckgaaDoor
