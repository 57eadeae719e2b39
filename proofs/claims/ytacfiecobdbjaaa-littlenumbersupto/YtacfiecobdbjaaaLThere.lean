import Derived.Test.YtacfiecobdbjaaaLThM
namespace Go.Proofs.Ytacfiecobdbjaaa
open Go.RowKit

theorem cuts_range (w : Nat) (xs : List Int) : ∀ x ∈ cuts w xs, 0 ≤ x ∧ x < 256 ^ w := by
  intro x hx
  simp only [cuts, List.mem_map] at hx
  obtain ⟨y, _, rfl⟩ := hx
  exact ⟨Int.emod_nonneg _ (by have := pow256_pos w; omega), Int.emod_lt_of_pos _ (pow256_pos w)⟩
theorem own_readsB {w : World} {B n : Nat} {v : Value} {zs : List Int} (h : w.ownsRow B 5 1 v n (bv zs)) (hz : zs.length = n) : ∃ ao cap, v = .slice ao n cap ∧ n ≤ cap ∧ Reads w ao zs w.heap.size := by
  subst hz
  have hlt := h.lt
  rcases h.2 with ⟨rfl, hz⟩ | ⟨g, cap, cur, rfl, _, _, hc, _⟩
  · exact ⟨none, 0, by rw [hz], by omega, fun hp => by omega⟩
  · exact ⟨_, cap, rfl, hc, reads_own h (by rw [List.take_length])⟩
theorem own_readsQ {w : World} {B e n : Nat} {k : IntKind} {v : Value} {zs : List Int} (h : w.ownsRow B e 1 v n (bk k zs)) (hz : zs.length = n) : ∃ ao cap, v = .slice ao n cap ∧ ReadsK w k ao zs w.heap.size := by
  subst hz
  obtain ⟨a, c, h1, _, h3⟩ := own_readsK h
  exact ⟨a, c, h1, h3⟩

set_option maxRecDepth 100000 in
set_option maxHeartbeats 4000000 in
theorem there_law (ao bo : Option Addr) (ca cb : Nat) (ns zs : List Int) (ww : Int) (W : World) (hn : ns.length ≤ 1048576) (hz : zs.length ≤ 1048576) (hcb : zs.length ≤ cb) (hnw : ∀ z ∈ ns, 0 ≤ z ∧ z < 18446744073709551616) (hwf : ∀ z ∈ zs, 0 ≤ z ∧ z ≤ 255)
    (hr : ReadsK W .u64 ao ns W.heap.size) (hrz : Reads W bo zs W.heap.size) :
    Calls Try.prog 4 #[.slice ao ns.length ca, .slice bo zs.length cb, .int .i64 ww] W fun e w' => e = .returned (.bool true) ∧ Below W.heap.size W w' := by
  have hwc := wd_cases ww
  have hwd := width_any ww
  generalize wd ww = w at hwc hwd
  have hw8 : w ≤ 8 := by omega
  have hw1 : 1 ≤ w := by omega
  have hnw8 : ns.length * w ≤ 8388608 := by rcases hwc with rfl | rfl | rfl | rfl <;> omega
  have hcu := cut_any w hwc ao ca ns W (by omega) hnw hr
  have hcr := cuts_range w ns
  have hcl : (cuts w ns).length = ns.length := by simp [cuts]
  generalize cuts w ns = xs at hcu hcr hcl
  go_enter Try.func4, Try.ntmps4
  go_wp2_with (go_at_call 7; with_reducible refine (hwd _).mono ?_; rintro e wq ⟨rfl, hq⟩; subst wq)
  with_reducible refine hcu.mono ?_
  rintro e w1 ⟨v, rfl, own1, hb1⟩
  obtain ⟨a1, c1, rfl, hr1⟩ := own_readsQ own1 hcl
  have hz1 := hb1.size
  have HCL : Hid (xs.length = ns.length) := hcl
  have hpu := putv_any w hwc a1 ns.length c1 xs w1 hcl (by omega) hcr hr1
  clear hcu hcl
  go_wp2_with fail
  with_reducible refine hpu.mono ?_
  rintro e w2 ⟨v, rfl, own2, hb2⟩
  have hpl : (puts w xs ns.length).length = ns.length * w := puts_len w xs ns.length (by rw [HCL.out]; omega)
  obtain ⟨a2, c2, rfl, hcp2, hr2⟩ := own_readsB own2 hpl
  have hz2 := hb2.size
  have hb12 := hb1.trans (hb2.mono hz1)
  have hz12 := hb12.size
  have hal := allv_any w hwc a2 (ns.length * w) c2 (puts w xs ns.length) ns.length w2 hpl hpl (by omega) hcp2 (puts_wf w xs ns.length) hr2
  have hnp := nums_puts w xs hcr
  rw [HCL.out] at hnp
  rw [hnp] at hal
  have hr1' := (hr1.below hb2).mono hz2
  clear hpu hpl hr2 hnp own2
  go_wp2_with fail
  with_reducible refine hal.mono ?_
  rintro e w3 ⟨v, rfl, own3, hb3⟩
  obtain ⟨a3, c3, rfl, hr3⟩ := own_readsQ own3 HCL.out
  have hz3 := hb3.size
  have hb13 := hb12.trans (hb3.mono hz12)
  have hz13 := hb13.size
  have hsa := sameN_any a3 a1 c3 c1 ns.length xs w3 HCL.out (by omega) hr3 ((hr1'.below hb3).mono hz3)
  have hmul : ((ns.length * w : Nat) : Int) = (w : Int) * (ns.length : Int) := by push_cast; exact Int.mul_comm _ _
  have hmb : (w : Int) * (ns.length : Int) ≤ 8388608 := by rw [← hmul]; omega
  have hm0 : 0 ≤ (w : Int) * (ns.length : Int) := by rw [← hmul]; omega
  clear hal own3 hr3 hr1' own1
  go_wp2_with fail
  with_reducible refine hsa.mono ?_
  rintro e w4 ⟨rfl, m4, hq4⟩
  have hb14 : Below W.heap.size W w4 := by rw [hq4]; exact below_drewN hb13 _
  have hz14 := hb14.size
  have hrz4 := (hrz.below hb14).mono hz14
  clear hsa hq4 hmul hmb hm0
  have hwI : ¬ (w : Int) = 0 := by omega
  have hwI2 : ¬ (w : Int) = -1 := by omega
  by_cases hmod : zs.length % w = 0
  · have hdm := Nat.div_add_mod zs.length w
    rw [hmod, Nat.add_zero, Nat.mul_comm] at hdm
    obtain ⟨m, hm⟩ : ∃ m, m = zs.length / w := ⟨_, rfl⟩
    rw [← hm] at hdm
    have hmz : m ≤ 1048576 := by
      have : m * 1 ≤ m * w := Nat.mul_le_mul_left m hw1
      omega
    have hal2 := allv_any w hwc bo zs.length cb zs m w4 rfl hdm.symm (by omega) hcb hwf hrz4
    have d0 : (((zs.length : Int).tmod (w : Int)) != 0) = false := by
      rw [Int.tmod_eq_emod_of_nonneg (by omega)]
      have : ((zs.length % w : Nat) : Int) = 0 := by rw [hmod]; rfl
      simpa using this
    have HDM : Hid (m * w = zs.length) := hdm
    have HMW : Hid (zs.length % w = 0) := hmod
    have d1 : (((zs.length : Int) % (w : Int)) != 0) = false := by
      have : ((zs.length % w : Nat) : Int) = 0 := by rw [hmod]; rfl
      simpa using this
    clear hdm hm hmod
    go_wp2_with fail
    with_reducible refine hal2.mono ?_
    rintro e w5 ⟨v, rfl, own5, hb5⟩
    obtain ⟨a5, c5, rfl, hr5⟩ := own_readsQ own5 (nums_len w zs m)
    have hz5 := hb5.size
    have hb15 := hb14.trans (hb5.mono hz14)
    have hz15 := hb15.size
    have hpu2 := putv_any w hwc a5 m c5 (nums w zs m) w5 (nums_len w zs m) hmz (nums_range w zs m HDM.out.symm hwf) hr5
    rw [puts_nums w zs m HDM.out.symm hwf, HDM.out] at hpu2
    clear hal2 own5 hr5
    go_wp2_with fail
    with_reducible refine hpu2.mono ?_
    rintro e w6 ⟨v, rfl, own6, hb6⟩
    obtain ⟨a6, c6, rfl, hcp6, hr6⟩ := own_readsB own6 rfl
    have hz6 := hb6.size
    have hb16 := hb15.trans (hb6.mono hz15)
    have hz16 := hb16.size
    have hsm := same_n zs.length zs.length a6 bo c6 cb zs zs w6 rfl rfl (by omega) hr6 ((hrz.below hb16).mono hz16)
    rw [decide_eq_true rfl] at hsm
    clear hpu2 own6 hr6
    go_wp2_with fail
    with_reducible refine hsm.mono ?_
    rintro e w7 ⟨rfl, m7, hq7⟩
    have hb17 : Below W.heap.size W w7 := by rw [hq7]; exact below_drewN hb16 _
    clear hsm hq7
    go_wp2_with fail
    go_ret
    exact ⟨rfl, hb17⟩
  · have hal2 := allvE_any w hwc bo zs.length cb w4 hmod
    have hne : ¬ ((zs.length % w : Nat) : Int) = 0 := by omega
    have d0 : (((zs.length : Int).tmod (w : Int)) != 0) = true := by
      rw [Int.tmod_eq_emod_of_nonneg (by omega)]
      simpa using hne
    have d1 : (((zs.length : Int) % (w : Int)) != 0) = true := by simpa using hne
    clear hmod hne
    go_wp2_with fail
    with_reducible refine hal2.mono ?_
    rintro e w5 ⟨v, rfl, own5, hb5⟩
    have hb15 := hb14.trans (hb5.mono hz14)
    clear hal2 own5
    go_wp2_with fail
    go_ret
    exact ⟨rfl, hb15⟩
end Go.Proofs.Ytacfiecobdbjaaa
