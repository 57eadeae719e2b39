import Derived.Test.YtacfiecobdbjaaaLCut
namespace Go.Proofs.Ytacfiecobdbjaaa
open Go.RowKit

theorem wth_len (w : Nat) (zs : List Int) (p : Nat) (x : Int) (h : p + w ≤ zs.length) : (wth w zs p x).length = zs.length := by
  simp [wth, nb_len]; omega
theorem wth_wf (w : Nat) (zs : List Int) (p : Nat) (x : Int) (h : ∀ z ∈ zs, 0 ≤ z ∧ z ≤ 255) : ∀ z ∈ wth w zs p x, 0 ≤ z ∧ z ≤ 255 := by
  intro z hz
  simp only [wth, List.mem_append] at hz
  rcases hz with hz | hz | hz
  · exact h z (List.mem_of_mem_take hz)
  · exact nb_wf w x z hz
  · exact h z (List.mem_of_mem_drop hz)
theorem wth_at (w : Nat) (zs : List Int) (p : Nat) (x : Int) (h : p + w ≤ zs.length) : ((wth w zs p x).drop p).take w = nb w x := by
  have hl : (zs.take p).length = p := by simp; omega
  rw [wth, List.drop_append, List.drop_of_length_le (by omega), hl, Nat.sub_self, List.drop_zero, List.nil_append]
  rw [List.take_append, List.take_of_length_le (by rw [nb_len]; omega), nb_len, Nat.sub_self, List.take_zero, List.append_nil]
theorem wth_back (w : Nat) (zs : List Int) (p : Nat) (x : Int) (h : p + w ≤ zs.length) (hwf : ∀ z ∈ zs, 0 ≤ z ∧ z ≤ 255) : wth w (wth w zs p x) p (num ((zs.drop p).take w)) = zs := by
  have hl : (zs.take p).length = p := by simp; omega
  have hl2 : ((zs.drop p).take w).length = w := by simp; omega
  have e1 := nb_num ((zs.drop p).take w) (fun z hz => hwf z (List.mem_of_mem_drop (List.mem_of_mem_take hz)))
  rw [hl2] at e1
  have e2 : (wth w zs p x).take p = zs.take p := by
    rw [wth, List.take_append, hl, Nat.sub_self, List.take_zero, List.append_nil, List.take_of_length_le (by omega)]
  have e3 : (wth w zs p x).drop (p + w) = zs.drop (p + w) := by
    rw [wth, ← List.append_assoc, List.drop_append, List.drop_of_length_le (by simp [nb_len]; omega), List.nil_append]
    simp [nb_len, hl]
  rw [show wth w (wth w zs p x) p (num ((zs.drop p).take w)) = (wth w zs p x).take p ++ (nb w (num ((zs.drop p).take w)) ++ (wth w zs p x).drop (p + w)) from rfl, e1, e2, e3]
  rw [← List.drop_drop, List.take_append_drop, List.take_append_drop]
theorem wth_num (w : Nat) (zs : List Int) (p : Nat) (x : Int) (h : p + w ≤ zs.length) : atv w (wth w zs p x) p = x % 256 ^ w := by
  unfold atv
  rw [if_pos (by rw [wth_len w zs p x h]; omega), Int.toNat_natCast, wth_at w zs p x h, num_nb]

set_option maxRecDepth 100000 in
set_option maxHeartbeats 2000000 in
theorem over_law (ao : Option Addr) (cap : Nat) (zs : List Int) (at_ x ww : Int) (W : World) (hn : zs.length ≤ 140737488351232) (hcp : zs.length ≤ cap) (hwf : ∀ z ∈ zs, 0 ≤ z ∧ z ≤ 255) (hr : Reads W ao zs W.heap.size) (t0 : -9223372036854775808 ≤ at_) (t1 : at_ ≤ 9223372036854775807) (x0 : 0 ≤ x) (x1 : x < 18446744073709551616) :
    Calls Try.prog 5 #[.slice ao zs.length cap, .int .i64 at_, .int .u64 x, .int .i64 ww] W fun e w' => e = .returned (.bool true) ∧ Below W.heap.size W w' := by
  have hwc := wd_cases ww
  have hwd := width_any ww
  generalize wd ww = w at hwc hwd
  have hw8 : w ≤ 8 := by omega
  have hw1 : 1 ≤ w := by omega
  have hpw : (256 : Int) ^ w ≤ 18446744073709551616 := by rcases hwc with rfl | rfl | rfl | rfl <;> decide
  have hpp := pow256_pos w
  go_enter Try.func5, Try.ntmps5
  go_wp2_with fail
  refine (lives_any W).mono ?_
  rintro e w1 ⟨rfl, hb1⟩
  have hz1 := hb1.size
  have hr1 := (hr.below hb1).mono hz1
  by_cases hin : 0 ≤ at_ ∧ at_ + w ≤ (zs.length : Int)
  · have ha := at1_any w hwc ao cap zs at_ w1 (by omega) hcp hwf hr1 t0 t1
    have hv := wi_any w hwc ao cap zs at_ x w1 (by omega) hr1 t0 t1 x0 x1 hin
    have he : ate w zs.length at_ = 0 := by unfold ate; rw [if_pos hin]
    have hav := atv_range w zs at_ hwf
    rw [he] at ha
    have HV : Hid (atv w zs at_ = num ((zs.drop at_.toNat).take w)) := by unfold atv; rw [if_pos hin]; exact rfl
    generalize atv w zs at_ = old at ha hav HV
    obtain ⟨h0, h1⟩ := hin
    obtain ⟨p, rfl⟩ := Int.eq_ofNat_of_zero_le h0
    rw [Int.toNat_natCast] at hv HV
    have hpl : p + w ≤ zs.length := by omega
    have d1 : decide ((p : Int) ≤ (zs.length : Int) - (w : Int)) = true := by simp; omega
    obtain ⟨y, hy⟩ : ∃ y, y = x % 256 ^ w := ⟨_, rfl⟩
    have hy0 : 0 ≤ y := by rw [hy]; exact Int.emod_nonneg _ (by omega)
    have hy1 : y < 256 ^ w := by rw [hy]; exact Int.emod_lt_of_pos _ hpp
    rw [← hy] at hv
    have HY : Hid (y = x % 256 ^ w) := hy
    clear hy
    go_wp2_with (first | (go_at_call 7; with_reducible refine (hwd _).mono ?_; rintro e wq ⟨rfl, hq⟩; subst wq) | (go_at_call 22; with_reducible refine ha.mono ?_; rintro e wq ⟨rfl, hq⟩; subst wq))
    refine hv.mono ?_
    rintro e w2 ⟨v, rfl, own2, hb2⟩
    obtain ⟨g, cf, rfl, hcf⟩ := own_form own2 (by omega)
    have hz2 := hb2.size
    have hll := wth_len w zs p y hpl
    have hr2 : Reads w2 (some ⟨g, 0, none⟩) (wth w zs p y) w2.heap.size := reads_own own2 (by rw [hll, ← hll, List.take_length])
    have hwf2 := wth_wf w zs p y hwf
    have ha2 := at1_any w hwc (some ⟨g, 0, none⟩) cf (wth w zs p y) p w2 (by omega) (by omega) hwf2 hr2 t0 t1
    have he2 : ate w (wth w zs p y).length p = 0 := by unfold ate; rw [if_pos (by rw [hll]; omega)]
    rw [he2, wth_num w zs p y hpl, Int.emod_eq_of_lt hy0 hy1, hll] at ha2
    have hv2 := wi_any w hwc (some ⟨g, 0, none⟩) cf (wth w zs p y) p old w2 (by omega) hr2 t0 t1 hav.1 (by omega) (by rw [hll]; omega)
    rw [hll, Int.toNat_natCast, Int.emod_eq_of_lt hav.1 hav.2, HV.out, wth_back w zs p y hpl hwf] at hv2
    have hb3 := hb1.trans (hb2.mono hz1)
    have hz3 := hb3.size
    have hr3 := (hr.below hb3).mono hz3
    clear hr2 hwf2 own2 hb1 hb2 hr hr1 hv ha he2
    rw [← HV.out] at hv2
    go_wp2_with (go_at_call 22; with_reducible refine ha2.mono ?_; rintro e wq ⟨rfl, hq⟩; subst wq)
    refine hv2.mono ?_
    rintro e w3 ⟨v, rfl, own3, hb4⟩
    obtain ⟨g3, c3, rfl, hc3⟩ := own_form own3 (by omega)
    have hz4 := hb4.size
    have hb5 := hb3.trans (hb4.mono hz3)
    have hr5 : Reads w3 ao zs w3.heap.size := (hr3.below hb4).mono hz4
    have hr6 : Reads w3 (some ⟨g3, 0, none⟩) zs w3.heap.size := reads_own own3 (by rw [List.take_length])
    have hz5 := hb5.size
    clear hv2 ha2 own3 hb3 hb4 hr3
    have hb6 := hb5.alloc hz5 (.cells #[.int .u64 x] 27)
    have hcu := cut_any w hwc (some ⟨w3.heap.size, 0, none⟩) 1 [x] (w3.alloc (.cells #[.int .u64 x] 27)) (by simp) (by simp; omega) (lit_readsK w3 _ 27 x)
    rw [show cuts w [x] = [y] by rw [HY.out]; rfl] at hcu
    have hba := (Below.refl w3.heap.size w3).alloc (Nat.le_refl _) (.cells #[.int .u64 x] 27)
    go_wp2_with fail
    refine hcu.mono ?_
    rintro e w4 ⟨v, rfl, own4, hb7⟩
    obtain ⟨g4, c4, rfl, hc4⟩ := own_form own4 (by simp)
    have hz7 := hb7.size
    have hb8 := hb6.trans (hb7.mono hb6.size)
    have hcell : w4.cell? ⟨g4, 0, none⟩ = some (.int .u64 y) := by
      have := own4.cells (g := g4) rfl 0 (.int .u64 y) rfl
      simpa [Addr.add] using this
    have hbs : Below w3.heap.size w3 w4 := hba.trans (hb7.mono hba.size)
    have hs := same_n zs.length zs.length (some ⟨g3, 0, none⟩) ao c3 cap zs zs w4 rfl rfl (by omega) ((hr6.below hbs).mono hbs.size) ((hr5.below hbs).mono hbs.size)
    rw [decide_eq_true rfl] at hs
    clear hcu own4 hb7 hb6 hb5 hr5 hr6 hba hbs
    go_wp2_with fail
    refine hs.mono ?_
    rintro e w5 ⟨rfl, m, hq⟩
    have hb9 := below_drewN hb8 m
    rw [← hq] at hb9
    clear hs hq
    go_wp2_with fail
    go_ret
    exact ⟨rfl, hb9⟩
  · have ha := at1_any w hwc ao cap zs at_ w1 (by omega) hcp hwf hr1 t0 t1
    have hv := wiE_any w hwc ao zs.length cap at_ x w1 (by omega) t0 t1 x0 x1 hin
    have he : ate w zs.length at_ = 20 := by unfold ate; rw [if_neg hin]
    rw [he] at ha
    generalize atv w zs at_ = old at ha
    clear hr1 hr
    by_cases h0 : 0 ≤ at_
    · have d1 : decide (at_ ≤ (zs.length : Int) - (w : Int)) = false := by simp; omega
      clear hin
      go_wp2_with (first | (go_at_call 7; with_reducible refine (hwd _).mono ?_; rintro e wq ⟨rfl, hq⟩; subst wq) | (go_at_call 22; with_reducible refine ha.mono ?_; rintro e wq ⟨rfl, hq⟩; subst wq) | (go_at_call 15; with_reducible refine hv.mono ?_; rintro e wq ⟨rfl, hq⟩; subst wq))
      go_ret
      exact ⟨rfl, hb1⟩
    · have d0 : decide (0 ≤ at_) = false := by simp; omega
      clear hin
      go_wp2_with (first | (go_at_call 7; with_reducible refine (hwd _).mono ?_; rintro e wq ⟨rfl, hq⟩; subst wq) | (go_at_call 22; with_reducible refine ha.mono ?_; rintro e wq ⟨rfl, hq⟩; subst wq) | (go_at_call 15; with_reducible refine hv.mono ?_; rintro e wq ⟨rfl, hq⟩; subst wq))
      go_ret
      exact ⟨rfl, hb1⟩
end Go.Proofs.Ytacfiecobdbjaaa
