import Derived.Test.YtkmefmgicbohnaaCA3
namespace Go.Proofs.Ytkmefmgicbohnaa
open Go.RowKit

theorem hid_of {p : Prop} (h : p) : Hid p := h
set_option maxRecDepth 100000 in
set_option maxHeartbeats 4000000 in
theorem over_nv (v u : Value) (V b k nb : Nat) (w : World) (h : NatV w v V) (h' : NatV w u b) (hV : V < 2 ^ (32 * k)) (hbk : b < 2 ^ (32 * k)) (hk : k ≤ 100) (hb : 0 < b) (hnb : nbits V = nb) (hnl : nb ≤ 3200) :
    Calls Try.prog 43 #[v, u] w fun e w' => (∃ v', e = .returned (.tuple #[v', .bool (decide (0 < V % b))]) ∧ NatV w' v' (V / b)) ∧ Below w.heap.size w w' := by
  have HS := fun w (h : NatV w v V) => size_nv v V k w h hV (by omega)
  rw [hnb] at HS
  have HST : Hid (V < 2 ^ nb) := by
    rw [Hid, ← hnb]
    by_cases h0 : V = 0
    · subst h0; decide
    · exact (nb_bounds V h0).2.1
  clear hnb
  have hwr : wrap64 ((nb : Int) - 1) = (nb : Int) - 1 := by unfold wrap64; omega
  have HVL : Hid (V < 2 ^ (32 * k)) := hV
  have HBL0 : Hid (b < 2 ^ (32 * k)) := hbk
  have HBL : Hid (b < 2 ^ (32 * (k + 1))) := Nat.lt_of_lt_of_le hbk (Nat.pow_le_pow_right (by decide) (by omega))
  have HP : Hid (2 ^ (32 * k) * 4294967296 = 2 ^ (32 * (k + 1))) := by rw [Hid, Nat.mul_add, Nat.pow_add]
  have HK0 : Hid (0 < 2 ^ (32 * k)) := Nat.two_pow_pos _
  clear hV hbk
  go_enter Try.func43, Try.ntmps43
  go_wp2_with (go_at_call 31; with_reducible refine (HS _ h).mono ?_; rintro e wq ⟨rfl, hq⟩; subst wq)
  go_loopw [6, 7, 8] (fun rv ov iv wr => ∃ n : Nat, iv = .int .i64 ((n : Int) - 1) ∧ n ≤ nb ∧ NatV wr rv (V / 2 ^ n % b) ∧ NatV wr ov (V / 2 ^ n / b) ∧ Below w.heap.size w wr)
    (fun _ _ iv _ => (intOf iv + 1).toNat)
  case atStart =>
    have e0 : V / 2 ^ nb = 0 := Nat.div_eq_of_lt HST.out
    refine ⟨nb, by (first | rfl | rw [hwr]), Nat.le_refl _, ?_, ?_, Below.refl _ _⟩
    · rw [e0, Nat.zero_mod]; exact nv_nil _
    · rw [e0, Nat.zero_div]; exact nv_nil _
  case round =>
    obtain ⟨n, rfl, hn, HR, HO, HB⟩ := hrel
    rename World => wr
    have HV : NatV wr v V := h.on HB
    have HU : NatV wr u b := h'.on HB
    cases n with
    | zero =>
      obtain ⟨ao, l, cap, rfl, hl⟩ := HR.len0
      rw [Nat.pow_zero, Nat.div_one] at hl HO
      clear HR HS
      go_wp2
      go_ret2
      exact ⟨⟨_, by rw [← hl]; rfl, HO⟩, HB⟩
    | succ n =>
      have hst := ov_step V b n hb
      obtain ⟨r, hr⟩ : ∃ r, V / 2 ^ (n + 1) % b = r := ⟨_, rfl⟩
      obtain ⟨o, ho⟩ : ∃ o, V / 2 ^ (n + 1) / b = o := ⟨_, rfl⟩
      have HRB : Hid (r < b) := by rw [Hid, ← hr]; exact Nat.mod_lt _ hb
      have HRL : Hid (r < 2 ^ (32 * k)) := Nat.lt_trans HRB.out HBL0.out
      have HOL : Hid (o < 2 ^ (32 * k)) := by rw [Hid, ← ho]; exact Nat.lt_of_le_of_lt (Nat.le_trans (Nat.div_le_self _ _) (Nat.div_le_self _ _)) HVL.out
      have HR2 : Hid (r * 2 < 2 ^ (32 * (k + 1))) := by rw [Hid, ← HP.out]; have := HRL.out; omega
      have HO2 : Hid (o * 2 < 2 ^ (32 * (k + 1))) := by rw [Hid, ← HP.out]; have := HOL.out; omega
      have HR3 : Hid (r * 2 + 1 < 2 ^ (32 * (k + 1))) := by rw [Hid, ← HP.out]; have := HRL.out; have := HK0.out; omega
      rw [hr] at HR
      rw [ho] at HO
      rw [hr, ho] at hst
      have HST2 := hst
      clear hst hr ho HST
      replace HST2 := hid_of HST2
      have hin : ((n + 1 : Nat) : Int) - 1 = (n : Int) := by omega
      rw [hin]
      clear hin HS
      have hn0 : (0 : Int) ≤ (n : Int) := by omega
      cases hbit : (V / 2 ^ n % 2 == 1) with
      | false =>
        have HBI : Hid (V / 2 ^ n % 2 = 0) := by rw [Hid]; exact (Nat.mod_two_eq_zero_or_one _).resolve_right (by simpa using hbit)
        have HT : Hid (r * 2 < 2 ^ (32 * (k + 1))) := HR2
        by_cases hge : b ≤ r * 2
        · have HF := HST2.out
          rw [HBI.out] at HF
          have HF2 := HF.1 hge
          have HFq : Hid (V / 2 ^ n / b = o * 2 + 1) := HF2.1
          have HFr : Hid (V / 2 ^ n % b = r * 2 - b) := HF2.2
          have HGE : Hid (b ≤ r * 2) := by rw [Hid]; omega
          clear HF HF2 hge
          have hag : 0 ≤ ag (r * 2) b := by have := HGE.out; unfold ag; split <;> (try split) <;> omega
          
          go_wp2_with (first
            | (go_at_call 29; with_reducible refine (up_1 u6 r k _ (HR.on (by (repeat (first | exact Below.refl _ _ | with_reducible refine bel ?_ | with_reducible refine Below.drew ?_ | with_reducible refine bt3 ?_)))) HRL.out (by omega)).mono ?_; rintro e w1 ⟨⟨r1, rfl, hr1⟩, hb1⟩; replace HV := HV.step (by (repeat (first | exact Below.refl _ _ | with_reducible refine bel ?_ | with_reducible refine Below.drew ?_ | with_reducible refine bt3 ?_))) hb1; replace HU := HU.step (by (repeat (first | exact Below.refl _ _ | with_reducible refine bel ?_ | with_reducible refine Below.drew ?_ | with_reducible refine bt3 ?_))) hb1; replace HB : Below w.heap.size w w1 := bt2 hb1 (by (repeat (first | exact HB | exact Below.refl _ _ | with_reducible refine bel ?_ | with_reducible refine Below.drew ?_ | with_reducible refine bt3 ?_))); replace HO := HO.step (by (repeat (first | exact Below.refl _ _ | with_reducible refine bel ?_ | with_reducible refine Below.drew ?_ | with_reducible refine bt3 ?_))) hb1; clear HR; clear hb1)
            | (go_at_call 50; with_reducible refine (bit_nv v V k n _ (HV.on (by (repeat (first | exact Below.refl _ _ | with_reducible refine bel ?_ | with_reducible refine Below.drew ?_ | with_reducible refine bt3 ?_)))) HVL.out (by omega) (by omega)).mono ?_; rintro e wq ⟨rfl, hq⟩; subst wq)
            | (go_at_call 29; with_reducible refine (up_1 u7 o k _ (HO.on (by (repeat (first | exact Below.refl _ _ | with_reducible refine bel ?_ | with_reducible refine Below.drew ?_ | with_reducible refine bt3 ?_)))) HOL.out (by omega)).mono ?_; rintro e w4 ⟨⟨o4, rfl, ho4⟩, hb4⟩; replace HV := HV.step (by (repeat (first | exact Below.refl _ _ | with_reducible refine bel ?_ | with_reducible refine Below.drew ?_ | with_reducible refine bt3 ?_))) hb4; replace HU := HU.step (by (repeat (first | exact Below.refl _ _ | with_reducible refine bel ?_ | with_reducible refine Below.drew ?_ | with_reducible refine bt3 ?_))) hb4; replace HB : Below w.heap.size w w4 := bt2 hb4 (by (repeat (first | exact HB | exact Below.refl _ _ | with_reducible refine bel ?_ | with_reducible refine Below.drew ?_ | with_reducible refine bt3 ?_))); replace hr1 := hr1.step (by (repeat (first | exact Below.refl _ _ | with_reducible refine bel ?_ | with_reducible refine Below.drew ?_ | with_reducible refine bt3 ?_))) hb4; clear HO; clear hb4)
            | (go_at_call 36; with_reducible refine (against_nv r1 u _ _ (k + 1) _ (hr1.on (by (repeat (first | exact Below.refl _ _ | with_reducible refine bel ?_ | with_reducible refine Below.drew ?_ | with_reducible refine bt3 ?_)))) (HU.on (by (repeat (first | exact Below.refl _ _ | with_reducible refine bel ?_ | with_reducible refine Below.drew ?_ | with_reducible refine bt3 ?_)))) HT.out HBL.out (by omega)).mono ?_; rintro e wq ⟨rfl, mq, hq⟩; subst wq)
            | (go_at_call 35; with_reducible refine (less_nv r1 u _ _ (k + 1) _ (hr1.on (by (repeat (first | exact Below.refl _ _ | with_reducible refine bel ?_ | with_reducible refine Below.drew ?_ | with_reducible refine bt3 ?_)))) (HU.on (by (repeat (first | exact Below.refl _ _ | with_reducible refine bel ?_ | with_reducible refine Below.drew ?_ | with_reducible refine bt3 ?_)))) HT.out (by omega) HGE.out).mono ?_; rintro e w5 ⟨⟨r5, rfl, hr5⟩, hb5⟩; replace HV := HV.step (by (repeat (first | exact Below.refl _ _ | with_reducible refine bel ?_ | with_reducible refine Below.drew ?_ | with_reducible refine bt3 ?_))) hb5; replace HU := HU.step (by (repeat (first | exact Below.refl _ _ | with_reducible refine bel ?_ | with_reducible refine Below.drew ?_ | with_reducible refine bt3 ?_))) hb5; replace HB : Below w.heap.size w w5 := bt2 hb5 (by (repeat (first | exact HB | exact Below.refl _ _ | with_reducible refine bel ?_ | with_reducible refine Below.drew ?_ | with_reducible refine bt3 ?_))); replace ho4 := ho4.step (by (repeat (first | exact Below.refl _ _ | with_reducible refine bel ?_ | with_reducible refine Below.drew ?_ | with_reducible refine bt3 ?_))) hb5; clear hr1; clear hb5)
            | (go_at_call 18; with_reducible refine (nat_1 _).mono ?_; rintro e w6 ⟨⟨n6, rfl, hn6⟩, hb6⟩; replace HV := HV.step (by (repeat (first | exact Below.refl _ _ | with_reducible refine bel ?_ | with_reducible refine Below.drew ?_ | with_reducible refine bt3 ?_))) hb6; replace HU := HU.step (by (repeat (first | exact Below.refl _ _ | with_reducible refine bel ?_ | with_reducible refine Below.drew ?_ | with_reducible refine bt3 ?_))) hb6; replace HB : Below w.heap.size w w6 := bt2 hb6 (by (repeat (first | exact HB | exact Below.refl _ _ | with_reducible refine bel ?_ | with_reducible refine Below.drew ?_ | with_reducible refine bt3 ?_))); replace ho4 := ho4.step (by (repeat (first | exact Below.refl _ _ | with_reducible refine bel ?_ | with_reducible refine Below.drew ?_ | with_reducible refine bt3 ?_))) hb6; replace hr5 := hr5.step (by (repeat (first | exact Below.refl _ _ | with_reducible refine bel ?_ | with_reducible refine Below.drew ?_ | with_reducible refine bt3 ?_))) hb6; clear hb6)
            | (go_at_call 28; with_reducible refine (plus_nv o4 n6 _ _ (k + 1) _ (ho4.on (by (repeat (first | exact Below.refl _ _ | with_reducible refine bel ?_ | with_reducible refine Below.drew ?_ | with_reducible refine bt3 ?_)))) (hn6.on (by (repeat (first | exact Below.refl _ _ | with_reducible refine bel ?_ | with_reducible refine Below.drew ?_ | with_reducible refine bt3 ?_)))) HO2.out (one_lt (k + 1) (by omega)) (by omega)).mono ?_; rintro e w7 ⟨⟨o7, rfl, ho7⟩, hb7⟩; replace HV := HV.step (by (repeat (first | exact Below.refl _ _ | with_reducible refine bel ?_ | with_reducible refine Below.drew ?_ | with_reducible refine bt3 ?_))) hb7; replace HU := HU.step (by (repeat (first | exact Below.refl _ _ | with_reducible refine bel ?_ | with_reducible refine Below.drew ?_ | with_reducible refine bt3 ?_))) hb7; replace HB : Below w.heap.size w w7 := bt2 hb7 (by (repeat (first | exact HB | exact Below.refl _ _ | with_reducible refine bel ?_ | with_reducible refine Below.drew ?_ | with_reducible refine bt3 ?_))); replace hr5 := hr5.step (by (repeat (first | exact Below.refl _ _ | with_reducible refine bel ?_ | with_reducible refine Below.drew ?_ | with_reducible refine bt3 ?_))) hb7; clear ho4 hn6; clear hb7))
          go_roundw
          case rel => exact ⟨n, rfl, by omega, by rw [HFr.out]; exact hr5.on (by (repeat (first | exact Below.refl _ _ | with_reducible refine bel ?_ | with_reducible refine Below.drew ?_ | with_reducible refine bt3 ?_))), by rw [HFq.out]; exact ho7.on (by (repeat (first | exact Below.refl _ _ | with_reducible refine bel ?_ | with_reducible refine Below.drew ?_ | with_reducible refine bt3 ?_))), by (repeat (first | exact HB | exact Below.refl _ _ | with_reducible refine bel ?_ | with_reducible refine Below.drew ?_ | with_reducible refine bt3 ?_))⟩
          case measure => simp [intOf]
        · have HF := HST2.out
          rw [HBI.out] at HF
          have HF2 := HF.2 (by omega)
          have HFq : Hid (V / 2 ^ n / b = o * 2) := HF2.1
          have HFr : Hid (V / 2 ^ n % b = r * 2) := HF2.2
          have HGE : Hid (r * 2 < b) := by rw [Hid]; omega
          clear HF HF2 hge
          have hag : ag (r * 2) b < 0 := by have := HGE.out; unfold ag; split <;> (try split) <;> omega
          have hag2 : decide (0 ≤ ag (r * 2) b) = false := decide_eq_false (by omega)
          go_wp2_with (first
            | (go_at_call 29; with_reducible refine (up_1 u6 r k _ (HR.on (by (repeat (first | exact Below.refl _ _ | with_reducible refine bel ?_ | with_reducible refine Below.drew ?_ | with_reducible refine bt3 ?_)))) HRL.out (by omega)).mono ?_; rintro e w1 ⟨⟨r1, rfl, hr1⟩, hb1⟩; replace HV := HV.step (by (repeat (first | exact Below.refl _ _ | with_reducible refine bel ?_ | with_reducible refine Below.drew ?_ | with_reducible refine bt3 ?_))) hb1; replace HU := HU.step (by (repeat (first | exact Below.refl _ _ | with_reducible refine bel ?_ | with_reducible refine Below.drew ?_ | with_reducible refine bt3 ?_))) hb1; replace HB : Below w.heap.size w w1 := bt2 hb1 (by (repeat (first | exact HB | exact Below.refl _ _ | with_reducible refine bel ?_ | with_reducible refine Below.drew ?_ | with_reducible refine bt3 ?_))); replace HO := HO.step (by (repeat (first | exact Below.refl _ _ | with_reducible refine bel ?_ | with_reducible refine Below.drew ?_ | with_reducible refine bt3 ?_))) hb1; clear HR; clear hb1)
            | (go_at_call 50; with_reducible refine (bit_nv v V k n _ (HV.on (by (repeat (first | exact Below.refl _ _ | with_reducible refine bel ?_ | with_reducible refine Below.drew ?_ | with_reducible refine bt3 ?_)))) HVL.out (by omega) (by omega)).mono ?_; rintro e wq ⟨rfl, hq⟩; subst wq)
            | (go_at_call 29; with_reducible refine (up_1 u7 o k _ (HO.on (by (repeat (first | exact Below.refl _ _ | with_reducible refine bel ?_ | with_reducible refine Below.drew ?_ | with_reducible refine bt3 ?_)))) HOL.out (by omega)).mono ?_; rintro e w4 ⟨⟨o4, rfl, ho4⟩, hb4⟩; replace HV := HV.step (by (repeat (first | exact Below.refl _ _ | with_reducible refine bel ?_ | with_reducible refine Below.drew ?_ | with_reducible refine bt3 ?_))) hb4; replace HU := HU.step (by (repeat (first | exact Below.refl _ _ | with_reducible refine bel ?_ | with_reducible refine Below.drew ?_ | with_reducible refine bt3 ?_))) hb4; replace HB : Below w.heap.size w w4 := bt2 hb4 (by (repeat (first | exact HB | exact Below.refl _ _ | with_reducible refine bel ?_ | with_reducible refine Below.drew ?_ | with_reducible refine bt3 ?_))); replace hr1 := hr1.step (by (repeat (first | exact Below.refl _ _ | with_reducible refine bel ?_ | with_reducible refine Below.drew ?_ | with_reducible refine bt3 ?_))) hb4; clear HO; clear hb4)
            | (go_at_call 36; with_reducible refine (against_nv r1 u _ _ (k + 1) _ (hr1.on (by (repeat (first | exact Below.refl _ _ | with_reducible refine bel ?_ | with_reducible refine Below.drew ?_ | with_reducible refine bt3 ?_)))) (HU.on (by (repeat (first | exact Below.refl _ _ | with_reducible refine bel ?_ | with_reducible refine Below.drew ?_ | with_reducible refine bt3 ?_)))) HT.out HBL.out (by omega)).mono ?_; rintro e wq ⟨rfl, mq, hq⟩; subst wq))
          go_roundw
          case rel => exact ⟨n, rfl, by omega, by rw [HFr.out]; exact hr1.on (by (repeat (first | exact Below.refl _ _ | with_reducible refine bel ?_ | with_reducible refine Below.drew ?_ | with_reducible refine bt3 ?_))), by rw [HFq.out]; exact ho4.on (by (repeat (first | exact Below.refl _ _ | with_reducible refine bel ?_ | with_reducible refine Below.drew ?_ | with_reducible refine bt3 ?_))), by (repeat (first | exact HB | exact Below.refl _ _ | with_reducible refine bel ?_ | with_reducible refine Below.drew ?_ | with_reducible refine bt3 ?_))⟩
          case measure => simp [intOf]
      | true =>
        have HBI : Hid (V / 2 ^ n % 2 = 1) := by rw [Hid]; simpa using hbit
        have HT : Hid (r * 2 + 1 < 2 ^ (32 * (k + 1))) := HR3
        by_cases hge : b ≤ r * 2 + 1
        · have HF := HST2.out
          rw [HBI.out] at HF
          have HF2 := HF.1 hge
          have HFq : Hid (V / 2 ^ n / b = o * 2 + 1) := HF2.1
          have HFr : Hid (V / 2 ^ n % b = r * 2 + 1 - b) := HF2.2
          have HGE : Hid (b ≤ r * 2 + 1) := by rw [Hid]; omega
          clear HF HF2 hge
          have hag : 0 ≤ ag (r * 2 + 1) b := by have := HGE.out; unfold ag; split <;> (try split) <;> omega
          
          go_wp2_with (first
            | (go_at_call 29; with_reducible refine (up_1 u6 r k _ (HR.on (by (repeat (first | exact Below.refl _ _ | with_reducible refine bel ?_ | with_reducible refine Below.drew ?_ | with_reducible refine bt3 ?_)))) HRL.out (by omega)).mono ?_; rintro e w1 ⟨⟨r1, rfl, hr1⟩, hb1⟩; replace HV := HV.step (by (repeat (first | exact Below.refl _ _ | with_reducible refine bel ?_ | with_reducible refine Below.drew ?_ | with_reducible refine bt3 ?_))) hb1; replace HU := HU.step (by (repeat (first | exact Below.refl _ _ | with_reducible refine bel ?_ | with_reducible refine Below.drew ?_ | with_reducible refine bt3 ?_))) hb1; replace HB : Below w.heap.size w w1 := bt2 hb1 (by (repeat (first | exact HB | exact Below.refl _ _ | with_reducible refine bel ?_ | with_reducible refine Below.drew ?_ | with_reducible refine bt3 ?_))); replace HO := HO.step (by (repeat (first | exact Below.refl _ _ | with_reducible refine bel ?_ | with_reducible refine Below.drew ?_ | with_reducible refine bt3 ?_))) hb1; clear HR; clear hb1)
            | (go_at_call 50; with_reducible refine (bit_nv v V k n _ (HV.on (by (repeat (first | exact Below.refl _ _ | with_reducible refine bel ?_ | with_reducible refine Below.drew ?_ | with_reducible refine bt3 ?_)))) HVL.out (by omega) (by omega)).mono ?_; rintro e wq ⟨rfl, hq⟩; subst wq)
            | (go_at_call 18; with_reducible refine (nat_1 _).mono ?_; rintro e w6 ⟨⟨n6, rfl, hn6⟩, hb6⟩; replace HV := HV.step (by (repeat (first | exact Below.refl _ _ | with_reducible refine bel ?_ | with_reducible refine Below.drew ?_ | with_reducible refine bt3 ?_))) hb6; replace HU := HU.step (by (repeat (first | exact Below.refl _ _ | with_reducible refine bel ?_ | with_reducible refine Below.drew ?_ | with_reducible refine bt3 ?_))) hb6; replace HB : Below w.heap.size w w6 := bt2 hb6 (by (repeat (first | exact HB | exact Below.refl _ _ | with_reducible refine bel ?_ | with_reducible refine Below.drew ?_ | with_reducible refine bt3 ?_))); replace ho4 := ho4.step (by (repeat (first | exact Below.refl _ _ | with_reducible refine bel ?_ | with_reducible refine Below.drew ?_ | with_reducible refine bt3 ?_))) hb6; replace hr5 := hr5.step (by (repeat (first | exact Below.refl _ _ | with_reducible refine bel ?_ | with_reducible refine Below.drew ?_ | with_reducible refine bt3 ?_))) hb6; clear hb6)
            | (go_at_call 18; with_reducible refine (nat_1 _).mono ?_; rintro e w2 ⟨⟨n2, rfl, hn2⟩, hb2⟩; replace HV := HV.step (by (repeat (first | exact Below.refl _ _ | with_reducible refine bel ?_ | with_reducible refine Below.drew ?_ | with_reducible refine bt3 ?_))) hb2; replace HU := HU.step (by (repeat (first | exact Below.refl _ _ | with_reducible refine bel ?_ | with_reducible refine Below.drew ?_ | with_reducible refine bt3 ?_))) hb2; replace HB : Below w.heap.size w w2 := bt2 hb2 (by (repeat (first | exact HB | exact Below.refl _ _ | with_reducible refine bel ?_ | with_reducible refine Below.drew ?_ | with_reducible refine bt3 ?_))); replace HO := HO.step (by (repeat (first | exact Below.refl _ _ | with_reducible refine bel ?_ | with_reducible refine Below.drew ?_ | with_reducible refine bt3 ?_))) hb2; replace hr1 := hr1.step (by (repeat (first | exact Below.refl _ _ | with_reducible refine bel ?_ | with_reducible refine Below.drew ?_ | with_reducible refine bt3 ?_))) hb2; clear hb2)
            | (go_at_call 28; with_reducible refine (plus_nv r1 n2 _ _ (k + 1) _ (hr1.on (by (repeat (first | exact Below.refl _ _ | with_reducible refine bel ?_ | with_reducible refine Below.drew ?_ | with_reducible refine bt3 ?_)))) (hn2.on (by (repeat (first | exact Below.refl _ _ | with_reducible refine bel ?_ | with_reducible refine Below.drew ?_ | with_reducible refine bt3 ?_)))) HR2.out (one_lt (k + 1) (by omega)) (by omega)).mono ?_; rintro e w3 ⟨⟨r3, rfl, hr3⟩, hb3⟩; replace HV := HV.step (by (repeat (first | exact Below.refl _ _ | with_reducible refine bel ?_ | with_reducible refine Below.drew ?_ | with_reducible refine bt3 ?_))) hb3; replace HU := HU.step (by (repeat (first | exact Below.refl _ _ | with_reducible refine bel ?_ | with_reducible refine Below.drew ?_ | with_reducible refine bt3 ?_))) hb3; replace HB : Below w.heap.size w w3 := bt2 hb3 (by (repeat (first | exact HB | exact Below.refl _ _ | with_reducible refine bel ?_ | with_reducible refine Below.drew ?_ | with_reducible refine bt3 ?_))); replace HO := HO.step (by (repeat (first | exact Below.refl _ _ | with_reducible refine bel ?_ | with_reducible refine Below.drew ?_ | with_reducible refine bt3 ?_))) hb3; clear hr1 hn2; clear hb3)
            | (go_at_call 29; with_reducible refine (up_1 u7 o k _ (HO.on (by (repeat (first | exact Below.refl _ _ | with_reducible refine bel ?_ | with_reducible refine Below.drew ?_ | with_reducible refine bt3 ?_)))) HOL.out (by omega)).mono ?_; rintro e w4 ⟨⟨o4, rfl, ho4⟩, hb4⟩; replace HV := HV.step (by (repeat (first | exact Below.refl _ _ | with_reducible refine bel ?_ | with_reducible refine Below.drew ?_ | with_reducible refine bt3 ?_))) hb4; replace HU := HU.step (by (repeat (first | exact Below.refl _ _ | with_reducible refine bel ?_ | with_reducible refine Below.drew ?_ | with_reducible refine bt3 ?_))) hb4; replace HB : Below w.heap.size w w4 := bt2 hb4 (by (repeat (first | exact HB | exact Below.refl _ _ | with_reducible refine bel ?_ | with_reducible refine Below.drew ?_ | with_reducible refine bt3 ?_))); replace hr3 := hr3.step (by (repeat (first | exact Below.refl _ _ | with_reducible refine bel ?_ | with_reducible refine Below.drew ?_ | with_reducible refine bt3 ?_))) hb4; clear HO; clear hb4)
            | (go_at_call 36; with_reducible refine (against_nv r3 u _ _ (k + 1) _ (hr3.on (by (repeat (first | exact Below.refl _ _ | with_reducible refine bel ?_ | with_reducible refine Below.drew ?_ | with_reducible refine bt3 ?_)))) (HU.on (by (repeat (first | exact Below.refl _ _ | with_reducible refine bel ?_ | with_reducible refine Below.drew ?_ | with_reducible refine bt3 ?_)))) HT.out HBL.out (by omega)).mono ?_; rintro e wq ⟨rfl, mq, hq⟩; subst wq)
            | (go_at_call 35; with_reducible refine (less_nv r3 u _ _ (k + 1) _ (hr3.on (by (repeat (first | exact Below.refl _ _ | with_reducible refine bel ?_ | with_reducible refine Below.drew ?_ | with_reducible refine bt3 ?_)))) (HU.on (by (repeat (first | exact Below.refl _ _ | with_reducible refine bel ?_ | with_reducible refine Below.drew ?_ | with_reducible refine bt3 ?_)))) HT.out (by omega) HGE.out).mono ?_; rintro e w5 ⟨⟨r5, rfl, hr5⟩, hb5⟩; replace HV := HV.step (by (repeat (first | exact Below.refl _ _ | with_reducible refine bel ?_ | with_reducible refine Below.drew ?_ | with_reducible refine bt3 ?_))) hb5; replace HU := HU.step (by (repeat (first | exact Below.refl _ _ | with_reducible refine bel ?_ | with_reducible refine Below.drew ?_ | with_reducible refine bt3 ?_))) hb5; replace HB : Below w.heap.size w w5 := bt2 hb5 (by (repeat (first | exact HB | exact Below.refl _ _ | with_reducible refine bel ?_ | with_reducible refine Below.drew ?_ | with_reducible refine bt3 ?_))); replace ho4 := ho4.step (by (repeat (first | exact Below.refl _ _ | with_reducible refine bel ?_ | with_reducible refine Below.drew ?_ | with_reducible refine bt3 ?_))) hb5; clear hr3; clear hb5)
            | (go_at_call 28; with_reducible refine (plus_nv o4 n6 _ _ (k + 1) _ (ho4.on (by (repeat (first | exact Below.refl _ _ | with_reducible refine bel ?_ | with_reducible refine Below.drew ?_ | with_reducible refine bt3 ?_)))) (hn6.on (by (repeat (first | exact Below.refl _ _ | with_reducible refine bel ?_ | with_reducible refine Below.drew ?_ | with_reducible refine bt3 ?_)))) HO2.out (one_lt (k + 1) (by omega)) (by omega)).mono ?_; rintro e w7 ⟨⟨o7, rfl, ho7⟩, hb7⟩; replace HV := HV.step (by (repeat (first | exact Below.refl _ _ | with_reducible refine bel ?_ | with_reducible refine Below.drew ?_ | with_reducible refine bt3 ?_))) hb7; replace HU := HU.step (by (repeat (first | exact Below.refl _ _ | with_reducible refine bel ?_ | with_reducible refine Below.drew ?_ | with_reducible refine bt3 ?_))) hb7; replace HB : Below w.heap.size w w7 := bt2 hb7 (by (repeat (first | exact HB | exact Below.refl _ _ | with_reducible refine bel ?_ | with_reducible refine Below.drew ?_ | with_reducible refine bt3 ?_))); replace hr5 := hr5.step (by (repeat (first | exact Below.refl _ _ | with_reducible refine bel ?_ | with_reducible refine Below.drew ?_ | with_reducible refine bt3 ?_))) hb7; clear ho4 hn6; clear hb7))
          go_roundw
          case rel => exact ⟨n, rfl, by omega, by rw [HFr.out]; exact hr5.on (by (repeat (first | exact Below.refl _ _ | with_reducible refine bel ?_ | with_reducible refine Below.drew ?_ | with_reducible refine bt3 ?_))), by rw [HFq.out]; exact ho7.on (by (repeat (first | exact Below.refl _ _ | with_reducible refine bel ?_ | with_reducible refine Below.drew ?_ | with_reducible refine bt3 ?_))), by (repeat (first | exact HB | exact Below.refl _ _ | with_reducible refine bel ?_ | with_reducible refine Below.drew ?_ | with_reducible refine bt3 ?_))⟩
          case measure => simp [intOf]
        · have HF := HST2.out
          rw [HBI.out] at HF
          have HF2 := HF.2 (by omega)
          have HFq : Hid (V / 2 ^ n / b = o * 2) := HF2.1
          have HFr : Hid (V / 2 ^ n % b = r * 2 + 1) := HF2.2
          have HGE : Hid (r * 2 + 1 < b) := by rw [Hid]; omega
          clear HF HF2 hge
          have hag : ag (r * 2 + 1) b < 0 := by have := HGE.out; unfold ag; split <;> (try split) <;> omega
          have hag2 : decide (0 ≤ ag (r * 2 + 1) b) = false := decide_eq_false (by omega)
          go_wp2_with (first
            | (go_at_call 29; with_reducible refine (up_1 u6 r k _ (HR.on (by (repeat (first | exact Below.refl _ _ | with_reducible refine bel ?_ | with_reducible refine Below.drew ?_ | with_reducible refine bt3 ?_)))) HRL.out (by omega)).mono ?_; rintro e w1 ⟨⟨r1, rfl, hr1⟩, hb1⟩; replace HV := HV.step (by (repeat (first | exact Below.refl _ _ | with_reducible refine bel ?_ | with_reducible refine Below.drew ?_ | with_reducible refine bt3 ?_))) hb1; replace HU := HU.step (by (repeat (first | exact Below.refl _ _ | with_reducible refine bel ?_ | with_reducible refine Below.drew ?_ | with_reducible refine bt3 ?_))) hb1; replace HB : Below w.heap.size w w1 := bt2 hb1 (by (repeat (first | exact HB | exact Below.refl _ _ | with_reducible refine bel ?_ | with_reducible refine Below.drew ?_ | with_reducible refine bt3 ?_))); replace HO := HO.step (by (repeat (first | exact Below.refl _ _ | with_reducible refine bel ?_ | with_reducible refine Below.drew ?_ | with_reducible refine bt3 ?_))) hb1; clear HR; clear hb1)
            | (go_at_call 50; with_reducible refine (bit_nv v V k n _ (HV.on (by (repeat (first | exact Below.refl _ _ | with_reducible refine bel ?_ | with_reducible refine Below.drew ?_ | with_reducible refine bt3 ?_)))) HVL.out (by omega) (by omega)).mono ?_; rintro e wq ⟨rfl, hq⟩; subst wq)
            | (go_at_call 18; with_reducible refine (nat_1 _).mono ?_; rintro e w2 ⟨⟨n2, rfl, hn2⟩, hb2⟩; replace HV := HV.step (by (repeat (first | exact Below.refl _ _ | with_reducible refine bel ?_ | with_reducible refine Below.drew ?_ | with_reducible refine bt3 ?_))) hb2; replace HU := HU.step (by (repeat (first | exact Below.refl _ _ | with_reducible refine bel ?_ | with_reducible refine Below.drew ?_ | with_reducible refine bt3 ?_))) hb2; replace HB : Below w.heap.size w w2 := bt2 hb2 (by (repeat (first | exact HB | exact Below.refl _ _ | with_reducible refine bel ?_ | with_reducible refine Below.drew ?_ | with_reducible refine bt3 ?_))); replace HO := HO.step (by (repeat (first | exact Below.refl _ _ | with_reducible refine bel ?_ | with_reducible refine Below.drew ?_ | with_reducible refine bt3 ?_))) hb2; replace hr1 := hr1.step (by (repeat (first | exact Below.refl _ _ | with_reducible refine bel ?_ | with_reducible refine Below.drew ?_ | with_reducible refine bt3 ?_))) hb2; clear hb2)
            | (go_at_call 28; with_reducible refine (plus_nv r1 n2 _ _ (k + 1) _ (hr1.on (by (repeat (first | exact Below.refl _ _ | with_reducible refine bel ?_ | with_reducible refine Below.drew ?_ | with_reducible refine bt3 ?_)))) (hn2.on (by (repeat (first | exact Below.refl _ _ | with_reducible refine bel ?_ | with_reducible refine Below.drew ?_ | with_reducible refine bt3 ?_)))) HR2.out (one_lt (k + 1) (by omega)) (by omega)).mono ?_; rintro e w3 ⟨⟨r3, rfl, hr3⟩, hb3⟩; replace HV := HV.step (by (repeat (first | exact Below.refl _ _ | with_reducible refine bel ?_ | with_reducible refine Below.drew ?_ | with_reducible refine bt3 ?_))) hb3; replace HU := HU.step (by (repeat (first | exact Below.refl _ _ | with_reducible refine bel ?_ | with_reducible refine Below.drew ?_ | with_reducible refine bt3 ?_))) hb3; replace HB : Below w.heap.size w w3 := bt2 hb3 (by (repeat (first | exact HB | exact Below.refl _ _ | with_reducible refine bel ?_ | with_reducible refine Below.drew ?_ | with_reducible refine bt3 ?_))); replace HO := HO.step (by (repeat (first | exact Below.refl _ _ | with_reducible refine bel ?_ | with_reducible refine Below.drew ?_ | with_reducible refine bt3 ?_))) hb3; clear hr1 hn2; clear hb3)
            | (go_at_call 29; with_reducible refine (up_1 u7 o k _ (HO.on (by (repeat (first | exact Below.refl _ _ | with_reducible refine bel ?_ | with_reducible refine Below.drew ?_ | with_reducible refine bt3 ?_)))) HOL.out (by omega)).mono ?_; rintro e w4 ⟨⟨o4, rfl, ho4⟩, hb4⟩; replace HV := HV.step (by (repeat (first | exact Below.refl _ _ | with_reducible refine bel ?_ | with_reducible refine Below.drew ?_ | with_reducible refine bt3 ?_))) hb4; replace HU := HU.step (by (repeat (first | exact Below.refl _ _ | with_reducible refine bel ?_ | with_reducible refine Below.drew ?_ | with_reducible refine bt3 ?_))) hb4; replace HB : Below w.heap.size w w4 := bt2 hb4 (by (repeat (first | exact HB | exact Below.refl _ _ | with_reducible refine bel ?_ | with_reducible refine Below.drew ?_ | with_reducible refine bt3 ?_))); replace hr3 := hr3.step (by (repeat (first | exact Below.refl _ _ | with_reducible refine bel ?_ | with_reducible refine Below.drew ?_ | with_reducible refine bt3 ?_))) hb4; clear HO; clear hb4)
            | (go_at_call 36; with_reducible refine (against_nv r3 u _ _ (k + 1) _ (hr3.on (by (repeat (first | exact Below.refl _ _ | with_reducible refine bel ?_ | with_reducible refine Below.drew ?_ | with_reducible refine bt3 ?_)))) (HU.on (by (repeat (first | exact Below.refl _ _ | with_reducible refine bel ?_ | with_reducible refine Below.drew ?_ | with_reducible refine bt3 ?_)))) HT.out HBL.out (by omega)).mono ?_; rintro e wq ⟨rfl, mq, hq⟩; subst wq))
          go_roundw
          case rel => exact ⟨n, rfl, by omega, by rw [HFr.out]; exact hr3.on (by (repeat (first | exact Below.refl _ _ | with_reducible refine bel ?_ | with_reducible refine Below.drew ?_ | with_reducible refine bt3 ?_))), by rw [HFq.out]; exact ho4.on (by (repeat (first | exact Below.refl _ _ | with_reducible refine bel ?_ | with_reducible refine Below.drew ?_ | with_reducible refine bt3 ?_))), by (repeat (first | exact HB | exact Below.refl _ _ | with_reducible refine bel ?_ | with_reducible refine Below.drew ?_ | with_reducible refine bt3 ?_))⟩
          case measure => simp [intOf]
end Go.Proofs.Ytkmefmgicbohnaa
namespace Go.Proofs.Ytkmefmgicbohnaa
open Go.RowKit

/-- a number and its fine part: what is far below the cut counts only as a mark -/
theorem rne_mark (N d D n l m h : Nat) (hn : N / 2 ^ (d + 1) = n) (hl : N % 2 ^ (d + 1) = l) (hm : (l != 0).toNat = m) (hD : 2 ≤ D) (hh : 2 ^ (D - 2) = h) :
    rne (2 * n + m) (2 ^ D) = rne N (2 ^ (D + d)) := by
  have hH : 2 ^ (D - 1) = 2 * h := by rw [← hh, ← Nat.pow_succ', show (D - 2).succ = D - 1 by omega]
  have hHD : 2 ^ D = 2 * 2 ^ (D - 1) := by rw [← Nat.pow_succ', show (D - 1).succ = D by omega]
  have hg : 2 ^ (D + d) = 2 ^ (d + 1) * 2 ^ (D - 1) := by rw [← Nat.pow_add]; congr 1; omega
  have hgp := Nat.two_pow_pos (d + 1)
  have hll : l < 2 ^ (d + 1) := by rw [← hl]; exact Nat.mod_lt _ hgp
  have hm1 : m ≤ 1 := by rw [← hm]; cases (l != 0) <;> decide
  have hml : l = 0 ↔ m = 0 := by
    rw [← hm]
    by_cases e : l = 0
    · simp [e]
    · simp [e]
  have q1 : (2 * n + m) / 2 ^ D = n / 2 ^ (D - 1) := by rw [hHD, ← Nat.div_div_eq_div_mul, show (2 * n + m) / 2 = n by omega]
  have q2 : N / 2 ^ (D + d) = n / 2 ^ (D - 1) := by rw [hg, ← Nat.div_div_eq_div_mul, hn]
  have r1 : (2 * n + m) % 2 ^ D = 2 * (n % 2 ^ (D - 1)) + m := by
    have a1 := Nat.div_add_mod (2 * n + m) (2 ^ D)
    have a2 := Nat.div_add_mod n (2 ^ (D - 1))
    rw [q1, hHD, Nat.mul_assoc] at a1
    rw [hHD]
    omega
  have r2 : N % 2 ^ (D + d) = 2 ^ (d + 1) * (n % 2 ^ (D - 1)) + l := by
    have a1 := Nat.div_add_mod N (2 ^ (D + d))
    have a2 := Nat.div_add_mod n (2 ^ (D - 1))
    have a3 := Nat.div_add_mod N (2 ^ (d + 1))
    rw [hn, hl] at a3
    rw [q2, hg, Nat.mul_assoc] at a1
    rw [hg]
    have a4 : 2 ^ (d + 1) * n = 2 ^ (d + 1) * (2 ^ (D - 1) * (n / 2 ^ (D - 1))) + 2 ^ (d + 1) * (n % 2 ^ (D - 1)) := by rw [← Nat.mul_add, a2]
    omega
  unfold rne
  rw [q1, q2, r1, r2]
  congr 1
  rw [hg, hHD, hH]
  generalize n % (2 * h) = R
  generalize 2 ^ (d + 1) = g at *
  have hc : g * (2 * h) = 2 * (g * h) := Nat.mul_left_comm _ _ _
  have e1 : (2 * (2 * h) < 2 * (2 * R + m)) ↔ (g * (2 * h) < 2 * (g * R + l)) := by
    rcases Nat.lt_trichotomy h R with c | c | c
    · have : g * (h + 1) ≤ g * R := Nat.mul_le_mul_left _ c
      rw [Nat.mul_add, Nat.mul_one] at this
      rw [hc]
      exact ⟨fun _ => by omega, fun _ => by omega⟩
    · subst c
      rw [hc]
      omega
    · have : g * (R + 1) ≤ g * h := Nat.mul_le_mul_left _ c
      rw [Nat.mul_add, Nat.mul_one] at this
      rw [hc]
      exact ⟨fun _ => by omega, fun _ => by omega⟩
  have e2 : (2 * (2 * h) = 2 * (2 * R + m)) ↔ (g * (2 * h) = 2 * (g * R + l)) := by
    rcases Nat.lt_trichotomy h R with c | c | c
    · have : g * (h + 1) ≤ g * R := Nat.mul_le_mul_left _ c
      rw [Nat.mul_add, Nat.mul_one] at this
      rw [hc]
      exact ⟨fun _ => by omega, fun _ => by omega⟩
    · subst c
      rw [hc]
      omega
    · have : g * (R + 1) ≤ g * h := Nat.mul_le_mul_left _ c
      rw [Nat.mul_add, Nat.mul_one] at this
      rw [hc]
      exact ⟨fun _ => by omega, fun _ => by omega⟩
  simp only [e1, e2]
theorem nbits_eq {N k : Nat} (h1 : 2 ^ k ≤ N) (h2 : N < 2 ^ (k + 1)) : nbits N = k + 1 := by
  have h0 : N ≠ 0 := by have := Nat.two_pow_pos k; omega
  obtain ⟨b1, b2, b3⟩ := nb_bounds N h0
  have c1 := (Nat.pow_lt_pow_iff_right (a := 2) (by decide)).1 (Nat.lt_of_le_of_lt b1 h2)
  have c2 := (Nat.pow_lt_pow_iff_right (a := 2) (by decide)).1 (Nat.lt_of_le_of_lt h1 b2)
  omega
theorem rg_mark (N d n l : Nat) (P : Int) (hn : N / 2 ^ (d + 1) = n) (hl : N % 2 ^ (d + 1) = l) (hb : 16777216 ≤ n) :
    rg Ieee.single (2 * n + (l != 0).toNat) (P + d) = rg Ieee.single N P := by
  obtain ⟨m, hm⟩ : ∃ m, (l != 0).toNat = m := ⟨_, rfl⟩
  have hm1 : m ≤ 1 := by rw [← hm]; cases (l != 0) <;> decide
  rw [hm]
  have hn0 : n ≠ 0 := by omega
  obtain ⟨b1, b2, b3⟩ := nb_bounds n hn0
  obtain ⟨k, hk⟩ : ∃ k, nbits n = k + 1 := ⟨nbits n - 1, by omega⟩
  rw [hk, Nat.add_sub_cancel] at b1
  rw [hk] at b2
  have hk24 : 24 ≤ k := by
    have : 2 ^ 24 < 2 ^ (k + 1) := Nat.lt_of_le_of_lt (show 2 ^ 24 ≤ n by omega) b2
    have := (Nat.pow_lt_pow_iff_right (a := 2) (by decide)).1 this
    omega
  have n1 : nbits (2 * n + m) = k + 2 := nbits_eq (by rw [Nat.pow_succ]; omega) (by rw [Nat.pow_succ]; omega)
  have hgp := Nat.two_pow_pos (d + 1)
  have hdm := Nat.div_add_mod N (2 ^ (d + 1))
  rw [hn, hl] at hdm
  have hll : l < 2 ^ (d + 1) := by rw [← hl]; exact Nat.mod_lt _ hgp
  have n2 : nbits N = k + (d + 1) + 1 := nbits_eq
    (by rw [Nat.pow_add, Nat.mul_comm, ← hdm]; exact Nat.le_trans (Nat.mul_le_mul_left _ b1) (Nat.le_add_right _ _))
    (by
      have h1 : 2 ^ (d + 1) * (n + 1) ≤ 2 ^ (d + 1) * 2 ^ (k + 1) := Nat.mul_le_mul_left _ b2
      rw [← Nat.pow_add, show d + 1 + (k + 1) = k + (d + 1) + 1 by omega, Nat.mul_add, Nat.mul_one] at h1
      omega)
  obtain ⟨K, hK⟩ : ∃ K, max (P + nbits N - 24) (-149) = K := ⟨_, rfl⟩
  obtain ⟨D, hD⟩ : ∃ D : Nat, K - (P + d) = D := ⟨(K - (P + d)).toNat, by rw [n2] at hK; omega⟩
  have hD2 : 2 ≤ D := by rw [n2] at hK; omega
  rw [rg_dn (2 * n + m) (by omega) (P + d) K D (by rw [n1]; rw [n2] at hK; omega) hD, rg_dn N (by intro h; subst h; simp at hn; omega) P K (D + d) hK (by omega)]
  rw [rne_mark N d D n l m _ hn hl hm hD2 rfl]
/-- a quotient with its mark, at two fine units -/
theorem rg_quot (A b s d : Nat) (P : Int) (hb : 0 < b) (hq : 16777216 ≤ A * 2 ^ s / b) :
    rg Ieee.single (2 * (A * 2 ^ s / b) + (A * 2 ^ s % b != 0).toNat) (P + d) = rg Ieee.single (2 * (A * 2 ^ (s + d) / b) + (A * 2 ^ (s + d) % b != 0).toNat) P := by
  obtain ⟨X, hX⟩ : ∃ X, A * 2 ^ s = X := ⟨_, rfl⟩
  have hXd : A * 2 ^ (s + d) = X * 2 ^ d := by rw [← hX, Nat.pow_add, Nat.mul_assoc]
  rw [hXd, hX]
  rw [hX] at hq
  have hdp := Nat.two_pow_pos d
  obtain ⟨m, hm⟩ : ∃ m, (X * 2 ^ d % b != 0).toNat = m := ⟨_, rfl⟩
  have hm1 : m ≤ 1 := by rw [← hm]; cases (X * 2 ^ d % b != 0) <;> decide
  have hmz : X * 2 ^ d % b = 0 ↔ m = 0 := by
    rw [← hm]
    by_cases e : X * 2 ^ d % b = 0
    · simp [e]
    · simp [e]
  rw [hm]
  have hn : (2 * (X * 2 ^ d / b) + m) / 2 ^ (d + 1) = X / b := by
    rw [Nat.pow_succ, Nat.mul_comm (2 ^ d), ← Nat.div_div_eq_div_mul, show (2 * (X * 2 ^ d / b) + m) / 2 = X * 2 ^ d / b by omega, Nat.div_div_eq_div_mul, Nat.mul_div_mul_right _ _ hdp]
  have h1 := rg_mark (2 * (X * 2 ^ d / b) + m) d (X / b) _ P hn rfl hq
  rw [← h1]
  congr 3
  have hl : (2 * (X * 2 ^ d / b) + m) % 2 ^ (d + 1) = 2 * (X * 2 ^ d / b % 2 ^ d) + m := by
    have a1 := Nat.div_add_mod (2 * (X * 2 ^ d / b) + m) (2 ^ (d + 1))
    have a2 := Nat.div_add_mod (X * 2 ^ d / b) (2 ^ d)
    rw [hn, Nat.pow_succ, Nat.mul_comm (2 ^ d), Nat.mul_assoc] at a1
    rw [Nat.div_div_eq_div_mul, Nat.mul_div_mul_right _ _ hdp] at a2
    rw [Nat.pow_succ, Nat.mul_comm (2 ^ d)]
    omega
  rw [hl]
  have hx : X * 2 ^ d % (b * 2 ^ d) = X % b * 2 ^ d := Nat.mul_mod_mul_right _ _ _
  rw [Nat.mod_mul] at hx
  have key : X % b = 0 ↔ 2 * (X * 2 ^ d / b % 2 ^ d) + m = 0 := by
    constructor
    · intro h
      rw [h, Nat.zero_mul] at hx
      have h3 : X * 2 ^ d % b = 0 := by omega
      have h4 : b * (X * 2 ^ d / b % 2 ^ d) = 0 := by omega
      rcases Nat.mul_eq_zero.1 h4 with h5 | h5
      · omega
      · rw [h5]; have := hmz.1 h3; omega
    · intro h
      have h3 : X * 2 ^ d / b % 2 ^ d = 0 := by omega
      have h4 := hmz.2 (by omega)
      rw [h3, h4, Nat.mul_zero] at hx
      rcases Nat.mul_eq_zero.1 hx.symm with h5 | h5
      · exact h5
      · omega
  rw [Bool.eq_iff_iff]
  simp only [bne_iff_ne, ne_eq]
  rw [key]
end Go.Proofs.Ytkmefmgicbohnaa
namespace Go.Proofs.Ytkmefmgicbohnaa
open Go.RowKit

set_option maxRecDepth 100000 in
set_option maxHeartbeats 4000000 in
theorem rM1a (m : Bool) (v0 : Value) (x0 NN : Nat) (P0 P : Int) (nb X M : Nat) (w : World) (hv0 : NatV w v0 x0) (hx0 : x0 < 2 ^ (32 * 6)) (hNN : x0 * 2 + 1 = NN) (hP1 : P0 - 1 = P) (hnb : nbits (NN) = nb) (hnl : nb ≤ 4000) (hP : -5000 ≤ P) (hP2 : P ≤ 5000) (hA : P + nb - 24 < -149) (hX : P - -149 = X) (hM : NN * 2 ^ X = M) (hMl : M < 18446744073709551616) :
    Calls Try.prog 16 #[.agg #[.int .i64 24, .int .i64 (-149), .int .i64 104], .bool m, v0, .int .i64 P0, .bool true] w fun e w' => e = .returned (hdV m M (-149)) ∧ Below w.heap.size w w' := by
  have HM : Hid (NN * 2 ^ X = M) := hM
  have hX5 : X ≤ 10000 := by omega
  have hPX : P + 149 = X := by omega
  have hPl : (-149 : Int) ≤ P := by omega
  have HXw : Hid (IntKind.i64.wrap (X : Int) = X) := by rw [Hid, IntKind.wrap_i64]; omega
  have HD : Hid (hdV m M (-149) = .agg #[.int .u8 3, .bool m, .int .u64 M, .int .i64 (-149)]) := by rw [Hid, hdV, if_neg (by omega)]
  clear hM hX
  have HB : Below ((w.alloc ob).alloc oz).heap.size ((w.alloc ob).alloc oz) ((w.alloc ob).alloc oz) := Below.refl _ _
  have HV0 : Hid (NatV ((w.alloc ob).alloc oz) v0 x0) := hv0.on (bel (bel (Below.refl _ _)))
  have HX0 : Hid (x0 < 2 ^ (32 * 6)) := hx0
  have HX1 : Hid (x0 * 2 < 2 ^ (32 * (6 + 1))) := dbl_lt (k := 6) hx0
  have HNN : Hid (x0 * 2 + 1 = NN) := hNN
  have HNZ : Hid (NN ≠ 0) := by rw [Hid]; omega
  have HNL : Hid (NN < 2 ^ (32 * (6 + 1))) := nn_lt (k := 6) hNN hx0
  clear hx0 hv0 hNN
  go_enter Try.func16, Try.ntmps16
  go_wp2_with (first
    | (go_at_call 29; with_reducible refine (up_1 v0 x0 6 _ (HV0.out.on (by (repeat (first | exact Below.refl _ _ | with_reducible refine bel ?_ | with_reducible refine Below.drew ?_ | with_reducible refine bt3 ?_)))) HX0.out (by omega)).mono ?_; rintro e wa ⟨⟨va, rfl, hva⟩, hba⟩; replace HB : Below ((w.alloc ob).alloc oz).heap.size ((w.alloc ob).alloc oz) wa := bt2 hba (by (repeat (first | exact HB | exact Below.refl _ _ | with_reducible refine bel ?_ | with_reducible refine Below.drew ?_ | with_reducible refine bt3 ?_))))
    | (go_at_call 18; with_reducible refine (nat_1 _).mono ?_; rintro e wb ⟨⟨vb, rfl, hvb⟩, hbb⟩; replace HB : Below ((w.alloc ob).alloc oz).heap.size ((w.alloc ob).alloc oz) wb := bt2 hbb (by (repeat (first | exact HB | exact Below.refl _ _ | with_reducible refine bel ?_ | with_reducible refine Below.drew ?_ | with_reducible refine bt3 ?_))); replace hva := hva.step (by (repeat (first | exact Below.refl _ _ | with_reducible refine bel ?_ | with_reducible refine Below.drew ?_ | with_reducible refine bt3 ?_))) hbb)
    | (go_at_call 28; with_reducible refine (plus_nv va vb _ _ (6 + 1) _ (hva.on (by (repeat (first | exact Below.refl _ _ | with_reducible refine bel ?_ | with_reducible refine Below.drew ?_ | with_reducible refine bt3 ?_)))) (hvb.on (by (repeat (first | exact Below.refl _ _ | with_reducible refine bel ?_ | with_reducible refine Below.drew ?_ | with_reducible refine bt3 ?_)))) HX1.out (one_lt (6 + 1) (by decide)) (by omega)).mono ?_; rintro e wn ⟨⟨vn, rfl, hvn⟩, hbn⟩; replace HB : Below ((w.alloc ob).alloc oz).heap.size ((w.alloc ob).alloc oz) wn := bt2 hbn (by (repeat (first | exact HB | exact Below.refl _ _ | with_reducible refine bel ?_ | with_reducible refine Below.drew ?_ | with_reducible refine bt3 ?_))); obtain ⟨ao, cap, zs, rfl, hc0, hn0, hval0, hN, hW, hr2⟩ := hvn.dest; rw [HNN.out] at hval0; subst hval0; have hz' := lenz hN HNZ.out; obtain ⟨f0, f1, f2⟩ := kF HB; clear hva hvb hvn hba hbb hbn))
  have hl : zs.length ≤ 100 := by have := len_pow hN rfl (6 + 1) HNL.out; omega
  have sz := fun W hrW => size_any ao cap zs W (by omega) hrW hW hN
  rw [hnb] at sz
  have HN : Below wn.heap.size wn wn := Below.refl _ _
  go_quiet (((go_at_call 31); exact Calls.quiet_of_same (sz _ hr2)))
  go_wp2
  go_region_held3 (fun w' => w'.cell? ⟨w.heap.size, 0, none⟩ = some (.int .i64 24) ∧ w'.cell? ⟨w.heap.size, 1, none⟩ = some (.int .i64 (-149)) ∧ w'.cell? ⟨w.heap.size, 2, none⟩ = some (.int .i64 104)) ((first | ((try dsimp only); with_reducible refine kS ?_; (repeat (first | exact HB | exact Below.refl _ _ | with_reducible refine bel ?_ | with_reducible refine Below.drew ?_ | with_reducible refine bt3 ?_ | with_reducible refine bt2 hb1 ?_ | with_reducible refine bt2 hb2 ?_)); done) | (refine kF ?_; (repeat (first | exact HB | exact Below.refl _ _ | with_reducible refine bel ?_ | with_reducible refine Below.drew ?_ | with_reducible refine bt3 ?_ | with_reducible refine bt2 hb1 ?_ | with_reducible refine bt2 hb2 ?_)); done))) (first
    | (go_at_call 29; rw [HXw.out]; with_reducible refine (up_any ao cap zs X _ (by omega) (by omega) (RU hr2 (by (repeat (first | exact HB | exact Below.refl _ _ | with_reducible refine bel ?_ | with_reducible refine Below.drew ?_ | with_reducible refine bt3 ?_)))) hW).mono ?_; rintro e w1 ⟨⟨v1, rfl, hv1⟩, hb1⟩; obtain ⟨ao1, cap1, zs1, rfl, hc1, hn1, hval1, hN1, hW1, hr1⟩ := hv1.dest)
    | (go_at_call 33; with_reducible refine (low_any ao1 cap1 zs1 _ (by have := small_len hN1 (hval1.trans HM.out) hMl; omega) (RU hr1 (by (repeat (first | exact HB | exact Below.refl _ _ | with_reducible refine bel ?_ | with_reducible refine Below.drew ?_ | with_reducible refine bt3 ?_)))) hW1).mono ?_; rintro e wq ⟨rfl, hq⟩; rw [hval1, HM.out, Nat.mod_eq_of_lt hMl]; subst wq)
    | (go_at_call 32; with_reducible refine (held_any m M (-149) _).mono ?_; rintro e w2 ⟨rfl, hb2⟩; rw [HD.out]; obtain ⟨r0, r1, r2, r3, q0, q1, q2, q3⟩ := kA (w := w) (W := w2) (by repeat (first | exact HB | exact Below.refl _ _ | with_reducible refine bel ?_ | with_reducible refine Below.drew ?_ | with_reducible refine bt3 ?_ | with_reducible refine bt2 hb1 ?_ | with_reducible refine bt2 hb2 ?_))))
  go_wp2
  refine bodyPost_ret (v := .agg #[.int .u8 3, .bool m, .int .u64 M, .int .i64 (-149)]) (by simp [results, Try.f16, go_sem, r0, r1, r2, r3]) rfl ?_
  exact ⟨by rw [HD.out], kB (by repeat (first | exact HB | exact Below.refl _ _ | with_reducible refine bel ?_ | with_reducible refine Below.drew ?_ | with_reducible refine bt3 ?_ | with_reducible refine bt2 hb1 ?_ | with_reducible refine bt2 hb2 ?_))⟩
set_option maxRecDepth 100000 in
set_option maxHeartbeats 4000000 in
theorem rM1b (m : Bool) (v0 : Value) (x0 NN : Nat) (P0 P : Int) (nb X M : Nat) (K : Int) (w : World) (hv0 : NatV w v0 x0) (hx0 : x0 < 2 ^ (32 * 6)) (hNN : x0 * 2 + 1 = NN) (hP1 : P0 - 1 = P) (hnb : nbits (NN) = nb) (hnl : nb ≤ 4000) (hP : -5000 ≤ P) (hP2 : P ≤ 5000) (hA : ¬ P + nb - 24 < -149) (hK : P + nb - 24 = K) (hKP : K ≤ P) (hX : P - K = X) (hM : NN * 2 ^ X = M) (hMl : M < 18446744073709551616) :
    Calls Try.prog 16 #[.agg #[.int .i64 24, .int .i64 (-149), .int .i64 104], .bool m, v0, .int .i64 P0, .bool true] w fun e w' => e = .returned (hdV m M K) ∧ Below w.heap.size w w' := by
  have HM : Hid (NN * 2 ^ X = M) := hM
  have hX5 : X ≤ 10000 := by omega
  have hA' : (-149 : Int) ≤ K := by omega
  have HXw : Hid (IntKind.i64.wrap (P - K) = X) := by rw [Hid, IntKind.wrap_i64]; omega
  have HXw' : Hid (IntKind.i64.wrap (X : Int) = X) := by rw [Hid, IntKind.wrap_i64]; omega
  have HD : Hid (hdV m M K = .agg #[.int .u8 (vS K), .bool m, .int .u64 (vM M K), .int .i64 (vP K)]) := hdV_agg m M K
  clear hM
  have HB : Below ((w.alloc ob).alloc oz).heap.size ((w.alloc ob).alloc oz) ((w.alloc ob).alloc oz) := Below.refl _ _
  have HV0 : Hid (NatV ((w.alloc ob).alloc oz) v0 x0) := hv0.on (bel (bel (Below.refl _ _)))
  have HX0 : Hid (x0 < 2 ^ (32 * 6)) := hx0
  have HX1 : Hid (x0 * 2 < 2 ^ (32 * (6 + 1))) := dbl_lt (k := 6) hx0
  have HNN : Hid (x0 * 2 + 1 = NN) := hNN
  have HNZ : Hid (NN ≠ 0) := by rw [Hid]; omega
  have HNL : Hid (NN < 2 ^ (32 * (6 + 1))) := nn_lt (k := 6) hNN hx0
  clear hx0 hv0 hNN
  go_enter Try.func16, Try.ntmps16
  go_wp2_with (first
    | (go_at_call 29; with_reducible refine (up_1 v0 x0 6 _ (HV0.out.on (by (repeat (first | exact Below.refl _ _ | with_reducible refine bel ?_ | with_reducible refine Below.drew ?_ | with_reducible refine bt3 ?_)))) HX0.out (by omega)).mono ?_; rintro e wa ⟨⟨va, rfl, hva⟩, hba⟩; replace HB : Below ((w.alloc ob).alloc oz).heap.size ((w.alloc ob).alloc oz) wa := bt2 hba (by (repeat (first | exact HB | exact Below.refl _ _ | with_reducible refine bel ?_ | with_reducible refine Below.drew ?_ | with_reducible refine bt3 ?_))))
    | (go_at_call 18; with_reducible refine (nat_1 _).mono ?_; rintro e wb ⟨⟨vb, rfl, hvb⟩, hbb⟩; replace HB : Below ((w.alloc ob).alloc oz).heap.size ((w.alloc ob).alloc oz) wb := bt2 hbb (by (repeat (first | exact HB | exact Below.refl _ _ | with_reducible refine bel ?_ | with_reducible refine Below.drew ?_ | with_reducible refine bt3 ?_))); replace hva := hva.step (by (repeat (first | exact Below.refl _ _ | with_reducible refine bel ?_ | with_reducible refine Below.drew ?_ | with_reducible refine bt3 ?_))) hbb)
    | (go_at_call 28; with_reducible refine (plus_nv va vb _ _ (6 + 1) _ (hva.on (by (repeat (first | exact Below.refl _ _ | with_reducible refine bel ?_ | with_reducible refine Below.drew ?_ | with_reducible refine bt3 ?_)))) (hvb.on (by (repeat (first | exact Below.refl _ _ | with_reducible refine bel ?_ | with_reducible refine Below.drew ?_ | with_reducible refine bt3 ?_)))) HX1.out (one_lt (6 + 1) (by decide)) (by omega)).mono ?_; rintro e wn ⟨⟨vn, rfl, hvn⟩, hbn⟩; replace HB : Below ((w.alloc ob).alloc oz).heap.size ((w.alloc ob).alloc oz) wn := bt2 hbn (by (repeat (first | exact HB | exact Below.refl _ _ | with_reducible refine bel ?_ | with_reducible refine Below.drew ?_ | with_reducible refine bt3 ?_))); obtain ⟨ao, cap, zs, rfl, hc0, hn0, hval0, hN, hW, hr2⟩ := hvn.dest; rw [HNN.out] at hval0; subst hval0; have hz' := lenz hN HNZ.out; obtain ⟨f0, f1, f2⟩ := kF HB; clear hva hvb hvn hba hbb hbn))
  have hl : zs.length ≤ 100 := by have := len_pow hN rfl (6 + 1) HNL.out; omega
  have sz := fun W hrW => size_any ao cap zs W (by omega) hrW hW hN
  rw [hnb] at sz
  have HN : Below wn.heap.size wn wn := Below.refl _ _
  go_quiet (((go_at_call 31); exact Calls.quiet_of_same (sz _ hr2)))
  go_wp2
  go_region_held3 (fun w' => w'.cell? ⟨w.heap.size, 0, none⟩ = some (.int .i64 24) ∧ w'.cell? ⟨w.heap.size, 1, none⟩ = some (.int .i64 (-149)) ∧ w'.cell? ⟨w.heap.size, 2, none⟩ = some (.int .i64 104)) ((first | ((try dsimp only); with_reducible refine kS ?_; (repeat (first | exact HB | exact Below.refl _ _ | with_reducible refine bel ?_ | with_reducible refine Below.drew ?_ | with_reducible refine bt3 ?_ | with_reducible refine bt2 hb1 ?_ | with_reducible refine bt2 hb2 ?_)); done) | (refine kF ?_; (repeat (first | exact HB | exact Below.refl _ _ | with_reducible refine bel ?_ | with_reducible refine Below.drew ?_ | with_reducible refine bt3 ?_ | with_reducible refine bt2 hb1 ?_ | with_reducible refine bt2 hb2 ?_)); done))) (first
    | (go_at_call 29; (first | rw [HXw.out] | rw [HXw'.out]); with_reducible refine (up_any ao cap zs X _ (by omega) (by omega) (RU hr2 (by (repeat (first | exact HB | exact Below.refl _ _ | with_reducible refine bel ?_ | with_reducible refine Below.drew ?_ | with_reducible refine bt3 ?_ | with_reducible refine bt2 hb1 ?_ | with_reducible refine bt2 hb2 ?_)))) hW).mono ?_; rintro e w1 ⟨⟨v1, rfl, hv1⟩, hb1⟩; obtain ⟨ao1, cap1, zs1, rfl, hc1, hn1, hval1, hN1, hW1, hr1⟩ := hv1.dest)
    | (go_at_call 33; with_reducible refine (low_any ao1 cap1 zs1 _ (by have := small_len hN1 (hval1.trans HM.out) hMl; omega) (RU hr1 (by (repeat (first | exact HB | exact Below.refl _ _ | with_reducible refine bel ?_ | with_reducible refine Below.drew ?_ | with_reducible refine bt3 ?_ | with_reducible refine bt2 hb1 ?_ | with_reducible refine bt2 hb2 ?_)))) hW1).mono ?_; rintro e wq ⟨rfl, hq⟩; rw [hval1, HM.out, Nat.mod_eq_of_lt hMl]; subst wq)
    | (go_at_call 32; with_reducible refine (held_any m M K _).mono ?_; rintro e w2 ⟨rfl, hb2⟩; rw [HD.out]; obtain ⟨r0, r1, r2, r3, q0, q1, q2, q3⟩ := kA (w := w) (W := w2) (by (repeat (first | exact HB | exact Below.refl _ _ | with_reducible refine bel ?_ | with_reducible refine Below.drew ?_ | with_reducible refine bt3 ?_ | with_reducible refine bt2 hb1 ?_ | with_reducible refine bt2 hb2 ?_)))))
  go_wp2
  refine bodyPost_ret (v := .agg #[.int .u8 (vS K), .bool m, .int .u64 (vM M K), .int .i64 (vP K)]) (by simp [results, Try.f16, go_sem, r0, r1, r2, r3]) rfl ?_
  exact ⟨by rw [HD.out], kB (by (repeat (first | exact HB | exact Below.refl _ _ | with_reducible refine bel ?_ | with_reducible refine Below.drew ?_ | with_reducible refine bt3 ?_ | with_reducible refine bt2 hb1 ?_ | with_reducible refine bt2 hb2 ?_)))⟩
set_option maxRecDepth 100000 in
set_option maxHeartbeats 4000000 in
theorem rM2 (m : Bool) (v0 : Value) (x0 NN : Nat) (P0 P : Int) (nb : Nat) (w : World) (hv0 : NatV w v0 x0) (hx0 : x0 < 2 ^ (32 * 6)) (hNN : x0 * 2 + 1 = NN) (hP1 : P0 - 1 = P) (hnb : nbits (NN) = nb) (hnl : nb ≤ 4000) (hP : -5000 ≤ P) (hP2 : P ≤ 5000) (hA : P + nb - 24 < -149) (hkP : P < -149) (hD : (nb : Int) + 1 < -149 - P) :
    Calls Try.prog 16 #[.agg #[.int .i64 24, .int .i64 (-149), .int .i64 104], .bool m, v0, .int .i64 P0, .bool true] w fun e w' => e = .returned (hdV m 0 (-149)) ∧ Below w.heap.size w w' := by
  have HD : Hid (hdV m 0 (-149) = .agg #[.int .u8 3, .bool m, .int .u64 0, .int .i64 (-149)]) := by rw [Hid, hdV, if_neg (by omega)]; rfl
  have HB : Below ((w.alloc ob).alloc oz).heap.size ((w.alloc ob).alloc oz) ((w.alloc ob).alloc oz) := Below.refl _ _
  have HV0 : Hid (NatV ((w.alloc ob).alloc oz) v0 x0) := hv0.on (bel (bel (Below.refl _ _)))
  have HX0 : Hid (x0 < 2 ^ (32 * 6)) := hx0
  have HX1 : Hid (x0 * 2 < 2 ^ (32 * (6 + 1))) := dbl_lt (k := 6) hx0
  have HNN : Hid (x0 * 2 + 1 = NN) := hNN
  have HNZ : Hid (NN ≠ 0) := by rw [Hid]; omega
  have HNL : Hid (NN < 2 ^ (32 * (6 + 1))) := nn_lt (k := 6) hNN hx0
  clear hx0 hv0 hNN
  go_enter Try.func16, Try.ntmps16
  go_wp2_with (first
    | (go_at_call 29; with_reducible refine (up_1 v0 x0 6 _ (HV0.out.on (by (repeat (first | exact Below.refl _ _ | with_reducible refine bel ?_ | with_reducible refine Below.drew ?_ | with_reducible refine bt3 ?_)))) HX0.out (by omega)).mono ?_; rintro e wa ⟨⟨va, rfl, hva⟩, hba⟩; replace HB : Below ((w.alloc ob).alloc oz).heap.size ((w.alloc ob).alloc oz) wa := bt2 hba (by (repeat (first | exact HB | exact Below.refl _ _ | with_reducible refine bel ?_ | with_reducible refine Below.drew ?_ | with_reducible refine bt3 ?_))))
    | (go_at_call 18; with_reducible refine (nat_1 _).mono ?_; rintro e wb ⟨⟨vb, rfl, hvb⟩, hbb⟩; replace HB : Below ((w.alloc ob).alloc oz).heap.size ((w.alloc ob).alloc oz) wb := bt2 hbb (by (repeat (first | exact HB | exact Below.refl _ _ | with_reducible refine bel ?_ | with_reducible refine Below.drew ?_ | with_reducible refine bt3 ?_))); replace hva := hva.step (by (repeat (first | exact Below.refl _ _ | with_reducible refine bel ?_ | with_reducible refine Below.drew ?_ | with_reducible refine bt3 ?_))) hbb)
    | (go_at_call 28; with_reducible refine (plus_nv va vb _ _ (6 + 1) _ (hva.on (by (repeat (first | exact Below.refl _ _ | with_reducible refine bel ?_ | with_reducible refine Below.drew ?_ | with_reducible refine bt3 ?_)))) (hvb.on (by (repeat (first | exact Below.refl _ _ | with_reducible refine bel ?_ | with_reducible refine Below.drew ?_ | with_reducible refine bt3 ?_)))) HX1.out (one_lt (6 + 1) (by decide)) (by omega)).mono ?_; rintro e wn ⟨⟨vn, rfl, hvn⟩, hbn⟩; replace HB : Below ((w.alloc ob).alloc oz).heap.size ((w.alloc ob).alloc oz) wn := bt2 hbn (by (repeat (first | exact HB | exact Below.refl _ _ | with_reducible refine bel ?_ | with_reducible refine Below.drew ?_ | with_reducible refine bt3 ?_))); obtain ⟨ao, cap, zs, rfl, hc0, hn0, hval0, hN, hW, hr2⟩ := hvn.dest; rw [HNN.out] at hval0; subst hval0; have hz' := lenz hN HNZ.out; obtain ⟨f0, f1, f2⟩ := kF HB; clear hva hvb hvn hba hbb hbn))
  have hl : zs.length ≤ 100 := by have := len_pow hN rfl (6 + 1) HNL.out; omega
  have sz := fun W hrW => size_any ao cap zs W (by omega) hrW hW hN
  rw [hnb] at sz
  have HN : Below wn.heap.size wn wn := Below.refl _ _
  go_quiet (((go_at_call 31); exact Calls.quiet_of_same (sz _ hr2)))
  go_wp2_with (first
    | (go_at_call 31; with_reducible refine (sz _ (RU hr2 (by (repeat (first | exact Below.refl _ _ | with_reducible refine bel ?_ | with_reducible refine Below.drew ?_ | with_reducible refine bt3 ?_))))).mono ?_; rintro e wq ⟨rfl, hq⟩; subst wq)
    | (go_at_call 30; with_reducible refine (nought_any m _).mono ?_; rintro e w2 ⟨rfl, hb2⟩; replace HB : Below ((w.alloc ob).alloc oz).heap.size ((w.alloc ob).alloc oz) w2 := bt2 hb2 (by (repeat (first | exact HB | exact Below.refl _ _ | with_reducible refine bel ?_ | with_reducible refine Below.drew ?_ | with_reducible refine bt3 ?_))); obtain ⟨r0, r1, r2, r3, q0, q1, q2, q3⟩ := kA HB))
  refine bodyPost_ret (v := .agg #[.int .u8 3, .bool m, .int .u64 0, .int .i64 (-149)]) (by simp [results, Try.f16, go_sem, r0, r1, r2, r3]) rfl ?_
  exact ⟨by rw [HD.out], kB HB⟩
end Go.Proofs.Ytkmefmgicbohnaa
namespace Go.Proofs.Ytkmefmgicbohnaa
open Go.RowKit

set_option maxRecDepth 100000 in
set_option maxHeartbeats 4000000 in
theorem rM3Ll (m : Bool) (v0 : Value) (x0 NN : Nat) (P0 P : Int) (nb D q R half : Nat) (K : Int) (w : World) (hv0 : NatV w v0 x0) (hx0 : x0 < 2 ^ (32 * 6)) (hNN : x0 * 2 + 1 = NN) (hP1 : P0 - 1 = P) (hnb : nbits (NN) = nb) (hnl : nb ≤ 4000) (hP : -5000 ≤ P) (hP2 : P ≤ 5000) (hA : P + nb - 24 < -149) (hK : -149 = K) (hKP : P < K) (hX : K - P = D) (hD : D ≤ nb + 1) (hq : NN / 2 ^ D = q) (hql : q < 16777216) (hR : NN - q * 2 ^ D = R) (hh : 2 ^ (D - 1) = half) (hs : R < half)  :
    Calls Try.prog 16 #[.agg #[.int .i64 24, .int .i64 (-149), .int .i64 104], .bool m, v0, .int .i64 P0, .bool true] w fun e w' => e = .returned (hdV m q K) ∧ Below w.heap.size w w' := by
  have hql64 : q < 18446744073709551616 := by have := hql; omega
  have hD1 : 1 ≤ D := by omega
  have hDl : D ≤ 4001 := by omega
  have hqD : q * 2 ^ D ≤ NN := by rw [← hq]; exact Nat.div_mul_le_self _ _
  have hDI : (D : Int) ≤ (nb : Int) + 1 := by have := hD; omega
  have HQ : Hid (NN / 2 ^ D = q) := hq
  have HR : Hid (NN - q * 2 ^ D = R) := hR
  have HH : Hid (2 ^ (D - 1) = half) := hh
  have HQD : Hid (q * 2 ^ D ≤ NN) := hqD
  have HDw : Hid (IntKind.i64.wrap (D : Int) = D) := by rw [Hid, IntKind.wrap_i64]; omega
  have HAG : Hid (ag R half = -1) := by rw [Hid]; exact ag_lt hs
  have hD1' : (D : Int) - 1 = ((D - 1 : Nat) : Int) := by omega
  subst hK
  have hX' : -149 - P = (D : Int) := hX
  have ho' : ((q : Int) == 16777216) = false := by rw [beq_eq_false_iff_ne]; omega
  have HD : Hid (hdV m q (-149) = .agg #[.int .u8 (vS (-149)), .bool m, .int .u64 (vM q (-149)), .int .i64 (vP (-149))]) := hdV_agg m q (-149)
  clear hq hR hh hqD
  have HB : Below ((w.alloc ob).alloc oz).heap.size ((w.alloc ob).alloc oz) ((w.alloc ob).alloc oz) := Below.refl _ _
  have HV0 : Hid (NatV ((w.alloc ob).alloc oz) v0 x0) := hv0.on (bel (bel (Below.refl _ _)))
  have HX0 : Hid (x0 < 2 ^ (32 * 6)) := hx0
  have HX1 : Hid (x0 * 2 < 2 ^ (32 * (6 + 1))) := dbl_lt (k := 6) hx0
  have HNN : Hid (x0 * 2 + 1 = NN) := hNN
  have HNZ : Hid (NN ≠ 0) := by rw [Hid]; omega
  have HNL : Hid (NN < 2 ^ (32 * (6 + 1))) := nn_lt (k := 6) hNN hx0
  clear hx0 hv0 hNN
  go_enter Try.func16, Try.ntmps16
  go_wp2_with (first
    | (go_at_call 29; with_reducible refine (up_1 v0 x0 6 _ (HV0.out.on (by (repeat (first | exact Below.refl _ _ | with_reducible refine bel ?_ | with_reducible refine Below.drew ?_ | with_reducible refine bt3 ?_)))) HX0.out (by omega)).mono ?_; rintro e wa ⟨⟨va, rfl, hva⟩, hba⟩; replace HB : Below ((w.alloc ob).alloc oz).heap.size ((w.alloc ob).alloc oz) wa := bt2 hba (by (repeat (first | exact HB | exact Below.refl _ _ | with_reducible refine bel ?_ | with_reducible refine Below.drew ?_ | with_reducible refine bt3 ?_))))
    | (go_at_call 18; with_reducible refine (nat_1 _).mono ?_; rintro e wb ⟨⟨vb, rfl, hvb⟩, hbb⟩; replace HB : Below ((w.alloc ob).alloc oz).heap.size ((w.alloc ob).alloc oz) wb := bt2 hbb (by (repeat (first | exact HB | exact Below.refl _ _ | with_reducible refine bel ?_ | with_reducible refine Below.drew ?_ | with_reducible refine bt3 ?_))); replace hva := hva.step (by (repeat (first | exact Below.refl _ _ | with_reducible refine bel ?_ | with_reducible refine Below.drew ?_ | with_reducible refine bt3 ?_))) hbb)
    | (go_at_call 28; with_reducible refine (plus_nv va vb _ _ (6 + 1) _ (hva.on (by (repeat (first | exact Below.refl _ _ | with_reducible refine bel ?_ | with_reducible refine Below.drew ?_ | with_reducible refine bt3 ?_)))) (hvb.on (by (repeat (first | exact Below.refl _ _ | with_reducible refine bel ?_ | with_reducible refine Below.drew ?_ | with_reducible refine bt3 ?_)))) HX1.out (one_lt (6 + 1) (by decide)) (by omega)).mono ?_; rintro e wn ⟨⟨vn, rfl, hvn⟩, hbn⟩; replace HB : Below ((w.alloc ob).alloc oz).heap.size ((w.alloc ob).alloc oz) wn := bt2 hbn (by (repeat (first | exact HB | exact Below.refl _ _ | with_reducible refine bel ?_ | with_reducible refine Below.drew ?_ | with_reducible refine bt3 ?_))); obtain ⟨ao, cap, zs, rfl, hc0, hn0, hval0, hN, hW, hr2⟩ := hvn.dest; rw [HNN.out] at hval0; subst hval0; have hz' := lenz hN HNZ.out; obtain ⟨f0, f1, f2⟩ := kF HB; clear hva hvb hvn hba hbb hbn))
  have hl : zs.length ≤ 100 := by have := len_pow hN rfl (6 + 1) HNL.out; omega
  have sz := fun W hrW => size_any ao cap zs W (by omega) hrW hW hN
  rw [hnb] at sz
  have HN : Below wn.heap.size wn wn := Below.refl _ _
  go_quiet (((go_at_call 31); exact Calls.quiet_of_same (sz _ hr2)))
  have HB5 : True := trivial
  go_wp2_with (first
    | (go_at_call 31; with_reducible refine (sz _ (RU hr2 (by (repeat (first | exact HN | exact Below.refl _ _ | with_reducible refine bel ?_ | with_reducible refine Below.drew ?_ | with_reducible refine bt3 ?_))))).mono ?_; rintro e wq ⟨rfl, hq⟩; subst wq)
    | (go_at_call 34; with_reducible refine (down_any ao cap zs D _ (by omega) (by omega) (RU hr2 (by (repeat (first | exact HN | exact Below.refl _ _ | with_reducible refine bel ?_ | with_reducible refine Below.drew ?_ | with_reducible refine bt3 ?_)))) hW).mono ?_; rintro e w1 ⟨⟨v1, rfl, hv1⟩, hb1⟩; obtain ⟨ao1, cap1, zs1, rfl, hc1, hn1, hval1, hN1, hW1, hr1⟩ := hv1.dest; replace HB : Below ((w.alloc ob).alloc oz).heap.size ((w.alloc ob).alloc oz) w1 := bt2 hb1 (by (repeat (first | exact HB | exact Below.refl _ _ | with_reducible refine bel ?_ | with_reducible refine Below.drew ?_ | with_reducible refine bt3 ?_))); replace HN : Below wn.heap.size wn w1 := bt2 hb1 (by (repeat (first | exact HN | exact Below.refl _ _ | with_reducible refine bel ?_ | with_reducible refine Below.drew ?_ | with_reducible refine bt3 ?_))); clear hb1 hv1; rw [HQ.out] at hval1)
    | (go_at_call 33; with_reducible refine (low_any ao1 cap1 zs1 _ (by have := small_len hN1 hval1 hql64; omega) (RU hr1 (by (repeat (first | exact Below.refl _ _ | with_reducible refine bel ?_ | with_reducible refine Below.drew ?_ | with_reducible refine bt3 ?_)))) hW1).mono ?_; rintro e wq ⟨rfl, hq⟩; rw [hval1, Nat.mod_eq_of_lt hql64]; subst wq; clear hval1 hN1 hW1 hr1 hc1 hn1)
    | (go_at_call 29; with_reducible refine (up_any ao1 cap1 zs1 D _ (by have := small_len hN1 hval1 hql64; omega) (by omega) (RU hr1 (by (repeat (first | exact Below.refl _ _ | with_reducible refine bel ?_ | with_reducible refine Below.drew ?_ | with_reducible refine bt3 ?_)))) hW1).mono ?_; rintro e w4 ⟨⟨v4, rfl, hv4⟩, hb4⟩; obtain ⟨ao4, cap4, zs4, rfl, hc4, hn4, hval4, hN4, hW4, hr4⟩ := hv4.dest; replace HB : Below ((w.alloc ob).alloc oz).heap.size ((w.alloc ob).alloc oz) w4 := bt2 hb4 (by (repeat (first | exact HB | exact Below.refl _ _ | with_reducible refine bel ?_ | with_reducible refine Below.drew ?_ | with_reducible refine bt3 ?_))); replace HN : Below wn.heap.size wn w4 := bt2 hb4 (by (repeat (first | exact HN | exact Below.refl _ _ | with_reducible refine bel ?_ | with_reducible refine Below.drew ?_ | with_reducible refine bt3 ?_))); clear hb4 hv4; rw [hval1] at hval4)
    | (go_at_call 35; with_reducible refine (less_any ao ao4 cap cap4 zs zs4 _ (by omega) (norm_len hN4 _ (Nat.lt_of_le_of_lt (Nat.le_trans (Nat.le_of_eq hval4) HQD.out) (nv_lt hW))) (Nat.le_trans (Nat.le_of_eq hval4) HQD.out) (RU hr2 (by (repeat (first | exact HN | exact Below.refl _ _ | with_reducible refine bel ?_ | with_reducible refine Below.drew ?_ | with_reducible refine bt3 ?_)))) (RU hr4 (by (repeat (first | exact Below.refl _ _ | with_reducible refine bel ?_ | with_reducible refine Below.drew ?_ | with_reducible refine bt3 ?_)))) hW hW4).mono ?_; rintro e w5 ⟨⟨v5, rfl, hv5⟩, hb5⟩; obtain ⟨ao5, cap5, zs5, rfl, hc5, hn5, hval5, hN5, hW5, hr5⟩ := hv5.dest; replace HB : Below ((w.alloc ob).alloc oz).heap.size ((w.alloc ob).alloc oz) w5 := bt2 hb5 (by (repeat (first | exact HB | exact Below.refl _ _ | with_reducible refine bel ?_ | with_reducible refine Below.drew ?_ | with_reducible refine bt3 ?_))); replace HN : Below wn.heap.size wn w5 := bt2 hb5 (by (repeat (first | exact HN | exact Below.refl _ _ | with_reducible refine bel ?_ | with_reducible refine Below.drew ?_ | with_reducible refine bt3 ?_))); clear hb5 hv5; rw [hval4, HR.out] at hval5; replace HB5 : Below w5.heap.size w5 w5 := Below.refl _ _)
    | (go_at_call 18; with_reducible refine (nat_1 _).mono ?_; rintro e w6 ⟨⟨v6, rfl, hv6⟩, hb6⟩; obtain ⟨ao6, cap6, zs6, rfl, hc6, hn6, hval6, hN6, hW6, hr6⟩ := hv6.dest; replace HB : Below ((w.alloc ob).alloc oz).heap.size ((w.alloc ob).alloc oz) w6 := bt2 hb6 (by (repeat (first | exact HB | exact Below.refl _ _ | with_reducible refine bel ?_ | with_reducible refine Below.drew ?_ | with_reducible refine bt3 ?_))); replace HN : Below wn.heap.size wn w6 := bt2 hb6 (by (repeat (first | exact HN | exact Below.refl _ _ | with_reducible refine bel ?_ | with_reducible refine Below.drew ?_ | with_reducible refine bt3 ?_))); replace HB5 : Below w5.heap.size w5 w6 := bt2 hb6 (by (repeat (first | exact HB5 | exact Below.refl _ _ | with_reducible refine bel ?_ | with_reducible refine Below.drew ?_ | with_reducible refine bt3 ?_))); clear hb6 hv6)
    | (go_at_call 29; with_reducible refine (up_any ao6 cap6 zs6 (D - 1) _ (by have := small_len hN6 hval6 (by omega); omega) (by omega) (RU hr6 (by (repeat (first | exact Below.refl _ _ | with_reducible refine bel ?_ | with_reducible refine Below.drew ?_ | with_reducible refine bt3 ?_)))) hW6).mono ?_; rintro e w7 ⟨⟨v7, rfl, hv7⟩, hb7⟩; obtain ⟨ao7, cap7, zs7, rfl, hc7, hn7, hval7, hN7, hW7, hr7⟩ := hv7.dest; replace HB : Below ((w.alloc ob).alloc oz).heap.size ((w.alloc ob).alloc oz) w7 := bt2 hb7 (by (repeat (first | exact HB | exact Below.refl _ _ | with_reducible refine bel ?_ | with_reducible refine Below.drew ?_ | with_reducible refine bt3 ?_))); replace HN : Below wn.heap.size wn w7 := bt2 hb7 (by (repeat (first | exact HN | exact Below.refl _ _ | with_reducible refine bel ?_ | with_reducible refine Below.drew ?_ | with_reducible refine bt3 ?_))); replace HB5 : Below w5.heap.size w5 w7 := bt2 hb7 (by (repeat (first | exact HB5 | exact Below.refl _ _ | with_reducible refine bel ?_ | with_reducible refine Below.drew ?_ | with_reducible refine bt3 ?_))); clear hb7 hv7; rw [hval6, Nat.one_mul, HH.out] at hval7)
    | (go_at_call 36; with_reducible refine (against_any ao5 ao7 cap5 cap7 zs5 zs7 _ (len5 hN5 hval5 HR.out HQD.out hW hl) (len7 hN7 hval7 HH.out hDl) (RU hr5 (by (repeat (first | exact HB5 | exact Below.refl _ _ | with_reducible refine bel ?_ | with_reducible refine Below.drew ?_ | with_reducible refine bt3 ?_)))) (RU hr7 (by (repeat (first | exact Below.refl _ _ | with_reducible refine bel ?_ | with_reducible refine Below.drew ?_ | with_reducible refine bt3 ?_)))) hW5 hW7 hN5 hN7).mono ?_; rintro e wq ⟨rfl, kq, hq⟩; subst wq; rw [hval5, hval7, HAG.out]; obtain ⟨f0, f1, f2⟩ := kF HB)
    | (go_at_call 32; with_reducible refine (held_any m q (-149) _).mono ?_; rintro e w9 ⟨rfl, hb9⟩; rw [HD.out]; replace HB : Below ((w.alloc ob).alloc oz).heap.size ((w.alloc ob).alloc oz) w9 := bt2 hb9 (by (repeat (first | exact HB | exact Below.refl _ _ | with_reducible refine bel ?_ | with_reducible refine Below.drew ?_ | with_reducible refine bt3 ?_))); replace HN : Below wn.heap.size wn w9 := bt2 hb9 (by (repeat (first | exact HN | exact Below.refl _ _ | with_reducible refine bel ?_ | with_reducible refine Below.drew ?_ | with_reducible refine bt3 ?_))); obtain ⟨r0, r1, r2, r3, q0, q1, q2, q3⟩ := kA HB))
  refine bodyPost_ret (v := .agg #[.int .u8 (vS (-149)), .bool m, .int .u64 (vM q (-149)), .int .i64 (vP (-149))]) (by simp [results, Try.f16, go_sem, r0, r1, r2, r3]) rfl ?_
  exact ⟨by rw [HD.out], kB HB⟩
set_option maxRecDepth 100000 in
set_option maxHeartbeats 4000000 in
theorem rM3Le (m : Bool) (v0 : Value) (x0 NN : Nat) (P0 P : Int) (nb D q R half : Nat) (K : Int) (w : World) (hv0 : NatV w v0 x0) (hx0 : x0 < 2 ^ (32 * 6)) (hNN : x0 * 2 + 1 = NN) (hP1 : P0 - 1 = P) (hnb : nbits (NN) = nb) (hnl : nb ≤ 4000) (hP : -5000 ≤ P) (hP2 : P ≤ 5000) (hA : P + nb - 24 < -149) (hK : -149 = K) (hKP : P < K) (hX : K - P = D) (hD : D ≤ nb + 1) (hq : NN / 2 ^ D = q) (hql : q < 16777216) (hR : NN - q * 2 ^ D = R) (hh : 2 ^ (D - 1) = half) (hs : R = half) (hq2 : q % 2 = 0)  :
    Calls Try.prog 16 #[.agg #[.int .i64 24, .int .i64 (-149), .int .i64 104], .bool m, v0, .int .i64 P0, .bool true] w fun e w' => e = .returned (hdV m q K) ∧ Below w.heap.size w w' := by
  have hql64 : q < 18446744073709551616 := by have := hql; omega
  have hD1 : 1 ≤ D := by omega
  have hDl : D ≤ 4001 := by omega
  have hqD : q * 2 ^ D ≤ NN := by rw [← hq]; exact Nat.div_mul_le_self _ _
  have hDI : (D : Int) ≤ (nb : Int) + 1 := by have := hD; omega
  have HQ : Hid (NN / 2 ^ D = q) := hq
  have HR : Hid (NN - q * 2 ^ D = R) := hR
  have HH : Hid (2 ^ (D - 1) = half) := hh
  have HQD : Hid (q * 2 ^ D ≤ NN) := hqD
  have HDw : Hid (IntKind.i64.wrap (D : Int) = D) := by rw [Hid, IntKind.wrap_i64]; omega
  have HAG : Hid (ag R half = 0) := by rw [Hid]; rw [hs]; exact ag_eq _
  have hD1' : (D : Int) - 1 = ((D - 1 : Nat) : Int) := by omega
  subst hK
  have hX' : -149 - P = (D : Int) := hX
  have hq3 : ((q : Int) % 2 == 1) = false := by rw [beq_eq_false_iff_ne]; omega
  have ho' : ((q : Int) == 16777216) = false := by rw [beq_eq_false_iff_ne]; omega
  have HD : Hid (hdV m q (-149) = .agg #[.int .u8 (vS (-149)), .bool m, .int .u64 (vM q (-149)), .int .i64 (vP (-149))]) := hdV_agg m q (-149)
  clear hq hR hh hqD
  have HB : Below ((w.alloc ob).alloc oz).heap.size ((w.alloc ob).alloc oz) ((w.alloc ob).alloc oz) := Below.refl _ _
  have HV0 : Hid (NatV ((w.alloc ob).alloc oz) v0 x0) := hv0.on (bel (bel (Below.refl _ _)))
  have HX0 : Hid (x0 < 2 ^ (32 * 6)) := hx0
  have HX1 : Hid (x0 * 2 < 2 ^ (32 * (6 + 1))) := dbl_lt (k := 6) hx0
  have HNN : Hid (x0 * 2 + 1 = NN) := hNN
  have HNZ : Hid (NN ≠ 0) := by rw [Hid]; omega
  have HNL : Hid (NN < 2 ^ (32 * (6 + 1))) := nn_lt (k := 6) hNN hx0
  clear hx0 hv0 hNN
  go_enter Try.func16, Try.ntmps16
  go_wp2_with (first
    | (go_at_call 29; with_reducible refine (up_1 v0 x0 6 _ (HV0.out.on (by (repeat (first | exact Below.refl _ _ | with_reducible refine bel ?_ | with_reducible refine Below.drew ?_ | with_reducible refine bt3 ?_)))) HX0.out (by omega)).mono ?_; rintro e wa ⟨⟨va, rfl, hva⟩, hba⟩; replace HB : Below ((w.alloc ob).alloc oz).heap.size ((w.alloc ob).alloc oz) wa := bt2 hba (by (repeat (first | exact HB | exact Below.refl _ _ | with_reducible refine bel ?_ | with_reducible refine Below.drew ?_ | with_reducible refine bt3 ?_))))
    | (go_at_call 18; with_reducible refine (nat_1 _).mono ?_; rintro e wb ⟨⟨vb, rfl, hvb⟩, hbb⟩; replace HB : Below ((w.alloc ob).alloc oz).heap.size ((w.alloc ob).alloc oz) wb := bt2 hbb (by (repeat (first | exact HB | exact Below.refl _ _ | with_reducible refine bel ?_ | with_reducible refine Below.drew ?_ | with_reducible refine bt3 ?_))); replace hva := hva.step (by (repeat (first | exact Below.refl _ _ | with_reducible refine bel ?_ | with_reducible refine Below.drew ?_ | with_reducible refine bt3 ?_))) hbb)
    | (go_at_call 28; with_reducible refine (plus_nv va vb _ _ (6 + 1) _ (hva.on (by (repeat (first | exact Below.refl _ _ | with_reducible refine bel ?_ | with_reducible refine Below.drew ?_ | with_reducible refine bt3 ?_)))) (hvb.on (by (repeat (first | exact Below.refl _ _ | with_reducible refine bel ?_ | with_reducible refine Below.drew ?_ | with_reducible refine bt3 ?_)))) HX1.out (one_lt (6 + 1) (by decide)) (by omega)).mono ?_; rintro e wn ⟨⟨vn, rfl, hvn⟩, hbn⟩; replace HB : Below ((w.alloc ob).alloc oz).heap.size ((w.alloc ob).alloc oz) wn := bt2 hbn (by (repeat (first | exact HB | exact Below.refl _ _ | with_reducible refine bel ?_ | with_reducible refine Below.drew ?_ | with_reducible refine bt3 ?_))); obtain ⟨ao, cap, zs, rfl, hc0, hn0, hval0, hN, hW, hr2⟩ := hvn.dest; rw [HNN.out] at hval0; subst hval0; have hz' := lenz hN HNZ.out; obtain ⟨f0, f1, f2⟩ := kF HB; clear hva hvb hvn hba hbb hbn))
  have hl : zs.length ≤ 100 := by have := len_pow hN rfl (6 + 1) HNL.out; omega
  have sz := fun W hrW => size_any ao cap zs W (by omega) hrW hW hN
  rw [hnb] at sz
  have HN : Below wn.heap.size wn wn := Below.refl _ _
  go_quiet (((go_at_call 31); exact Calls.quiet_of_same (sz _ hr2)))
  have HB5 : True := trivial
  go_wp2_with (first
    | (go_at_call 31; with_reducible refine (sz _ (RU hr2 (by (repeat (first | exact HN | exact Below.refl _ _ | with_reducible refine bel ?_ | with_reducible refine Below.drew ?_ | with_reducible refine bt3 ?_))))).mono ?_; rintro e wq ⟨rfl, hq⟩; subst wq)
    | (go_at_call 34; with_reducible refine (down_any ao cap zs D _ (by omega) (by omega) (RU hr2 (by (repeat (first | exact HN | exact Below.refl _ _ | with_reducible refine bel ?_ | with_reducible refine Below.drew ?_ | with_reducible refine bt3 ?_)))) hW).mono ?_; rintro e w1 ⟨⟨v1, rfl, hv1⟩, hb1⟩; obtain ⟨ao1, cap1, zs1, rfl, hc1, hn1, hval1, hN1, hW1, hr1⟩ := hv1.dest; replace HB : Below ((w.alloc ob).alloc oz).heap.size ((w.alloc ob).alloc oz) w1 := bt2 hb1 (by (repeat (first | exact HB | exact Below.refl _ _ | with_reducible refine bel ?_ | with_reducible refine Below.drew ?_ | with_reducible refine bt3 ?_))); replace HN : Below wn.heap.size wn w1 := bt2 hb1 (by (repeat (first | exact HN | exact Below.refl _ _ | with_reducible refine bel ?_ | with_reducible refine Below.drew ?_ | with_reducible refine bt3 ?_))); clear hb1 hv1; rw [HQ.out] at hval1)
    | (go_at_call 33; with_reducible refine (low_any ao1 cap1 zs1 _ (by have := small_len hN1 hval1 hql64; omega) (RU hr1 (by (repeat (first | exact Below.refl _ _ | with_reducible refine bel ?_ | with_reducible refine Below.drew ?_ | with_reducible refine bt3 ?_)))) hW1).mono ?_; rintro e wq ⟨rfl, hq⟩; rw [hval1, Nat.mod_eq_of_lt hql64]; subst wq; clear hval1 hN1 hW1 hr1 hc1 hn1)
    | (go_at_call 29; with_reducible refine (up_any ao1 cap1 zs1 D _ (by have := small_len hN1 hval1 hql64; omega) (by omega) (RU hr1 (by (repeat (first | exact Below.refl _ _ | with_reducible refine bel ?_ | with_reducible refine Below.drew ?_ | with_reducible refine bt3 ?_)))) hW1).mono ?_; rintro e w4 ⟨⟨v4, rfl, hv4⟩, hb4⟩; obtain ⟨ao4, cap4, zs4, rfl, hc4, hn4, hval4, hN4, hW4, hr4⟩ := hv4.dest; replace HB : Below ((w.alloc ob).alloc oz).heap.size ((w.alloc ob).alloc oz) w4 := bt2 hb4 (by (repeat (first | exact HB | exact Below.refl _ _ | with_reducible refine bel ?_ | with_reducible refine Below.drew ?_ | with_reducible refine bt3 ?_))); replace HN : Below wn.heap.size wn w4 := bt2 hb4 (by (repeat (first | exact HN | exact Below.refl _ _ | with_reducible refine bel ?_ | with_reducible refine Below.drew ?_ | with_reducible refine bt3 ?_))); clear hb4 hv4; rw [hval1] at hval4)
    | (go_at_call 35; with_reducible refine (less_any ao ao4 cap cap4 zs zs4 _ (by omega) (norm_len hN4 _ (Nat.lt_of_le_of_lt (Nat.le_trans (Nat.le_of_eq hval4) HQD.out) (nv_lt hW))) (Nat.le_trans (Nat.le_of_eq hval4) HQD.out) (RU hr2 (by (repeat (first | exact HN | exact Below.refl _ _ | with_reducible refine bel ?_ | with_reducible refine Below.drew ?_ | with_reducible refine bt3 ?_)))) (RU hr4 (by (repeat (first | exact Below.refl _ _ | with_reducible refine bel ?_ | with_reducible refine Below.drew ?_ | with_reducible refine bt3 ?_)))) hW hW4).mono ?_; rintro e w5 ⟨⟨v5, rfl, hv5⟩, hb5⟩; obtain ⟨ao5, cap5, zs5, rfl, hc5, hn5, hval5, hN5, hW5, hr5⟩ := hv5.dest; replace HB : Below ((w.alloc ob).alloc oz).heap.size ((w.alloc ob).alloc oz) w5 := bt2 hb5 (by (repeat (first | exact HB | exact Below.refl _ _ | with_reducible refine bel ?_ | with_reducible refine Below.drew ?_ | with_reducible refine bt3 ?_))); replace HN : Below wn.heap.size wn w5 := bt2 hb5 (by (repeat (first | exact HN | exact Below.refl _ _ | with_reducible refine bel ?_ | with_reducible refine Below.drew ?_ | with_reducible refine bt3 ?_))); clear hb5 hv5; rw [hval4, HR.out] at hval5; replace HB5 : Below w5.heap.size w5 w5 := Below.refl _ _)
    | (go_at_call 18; with_reducible refine (nat_1 _).mono ?_; rintro e w6 ⟨⟨v6, rfl, hv6⟩, hb6⟩; obtain ⟨ao6, cap6, zs6, rfl, hc6, hn6, hval6, hN6, hW6, hr6⟩ := hv6.dest; replace HB : Below ((w.alloc ob).alloc oz).heap.size ((w.alloc ob).alloc oz) w6 := bt2 hb6 (by (repeat (first | exact HB | exact Below.refl _ _ | with_reducible refine bel ?_ | with_reducible refine Below.drew ?_ | with_reducible refine bt3 ?_))); replace HN : Below wn.heap.size wn w6 := bt2 hb6 (by (repeat (first | exact HN | exact Below.refl _ _ | with_reducible refine bel ?_ | with_reducible refine Below.drew ?_ | with_reducible refine bt3 ?_))); replace HB5 : Below w5.heap.size w5 w6 := bt2 hb6 (by (repeat (first | exact HB5 | exact Below.refl _ _ | with_reducible refine bel ?_ | with_reducible refine Below.drew ?_ | with_reducible refine bt3 ?_))); clear hb6 hv6)
    | (go_at_call 29; with_reducible refine (up_any ao6 cap6 zs6 (D - 1) _ (by have := small_len hN6 hval6 (by omega); omega) (by omega) (RU hr6 (by (repeat (first | exact Below.refl _ _ | with_reducible refine bel ?_ | with_reducible refine Below.drew ?_ | with_reducible refine bt3 ?_)))) hW6).mono ?_; rintro e w7 ⟨⟨v7, rfl, hv7⟩, hb7⟩; obtain ⟨ao7, cap7, zs7, rfl, hc7, hn7, hval7, hN7, hW7, hr7⟩ := hv7.dest; replace HB : Below ((w.alloc ob).alloc oz).heap.size ((w.alloc ob).alloc oz) w7 := bt2 hb7 (by (repeat (first | exact HB | exact Below.refl _ _ | with_reducible refine bel ?_ | with_reducible refine Below.drew ?_ | with_reducible refine bt3 ?_))); replace HN : Below wn.heap.size wn w7 := bt2 hb7 (by (repeat (first | exact HN | exact Below.refl _ _ | with_reducible refine bel ?_ | with_reducible refine Below.drew ?_ | with_reducible refine bt3 ?_))); replace HB5 : Below w5.heap.size w5 w7 := bt2 hb7 (by (repeat (first | exact HB5 | exact Below.refl _ _ | with_reducible refine bel ?_ | with_reducible refine Below.drew ?_ | with_reducible refine bt3 ?_))); clear hb7 hv7; rw [hval6, Nat.one_mul, HH.out] at hval7)
    | (go_at_call 36; with_reducible refine (against_any ao5 ao7 cap5 cap7 zs5 zs7 _ (len5 hN5 hval5 HR.out HQD.out hW hl) (len7 hN7 hval7 HH.out hDl) (RU hr5 (by (repeat (first | exact HB5 | exact Below.refl _ _ | with_reducible refine bel ?_ | with_reducible refine Below.drew ?_ | with_reducible refine bt3 ?_)))) (RU hr7 (by (repeat (first | exact Below.refl _ _ | with_reducible refine bel ?_ | with_reducible refine Below.drew ?_ | with_reducible refine bt3 ?_)))) hW5 hW7 hN5 hN7).mono ?_; rintro e wq ⟨rfl, kq, hq⟩; subst wq; rw [hval5, hval7, HAG.out]; obtain ⟨f0, f1, f2⟩ := kF HB)
    | (go_at_call 32; with_reducible refine (held_any m q (-149) _).mono ?_; rintro e w9 ⟨rfl, hb9⟩; rw [HD.out]; replace HB : Below ((w.alloc ob).alloc oz).heap.size ((w.alloc ob).alloc oz) w9 := bt2 hb9 (by (repeat (first | exact HB | exact Below.refl _ _ | with_reducible refine bel ?_ | with_reducible refine Below.drew ?_ | with_reducible refine bt3 ?_))); replace HN : Below wn.heap.size wn w9 := bt2 hb9 (by (repeat (first | exact HN | exact Below.refl _ _ | with_reducible refine bel ?_ | with_reducible refine Below.drew ?_ | with_reducible refine bt3 ?_))); obtain ⟨r0, r1, r2, r3, q0, q1, q2, q3⟩ := kA HB))
  refine bodyPost_ret (v := .agg #[.int .u8 (vS (-149)), .bool m, .int .u64 (vM q (-149)), .int .i64 (vP (-149))]) (by simp [results, Try.f16, go_sem, r0, r1, r2, r3]) rfl ?_
  exact ⟨by rw [HD.out], kB HB⟩
set_option maxRecDepth 100000 in
set_option maxHeartbeats 4000000 in
theorem rM3Lg (m : Bool) (v0 : Value) (x0 NN : Nat) (P0 P : Int) (nb D q R half : Nat) (K : Int) (w : World) (hv0 : NatV w v0 x0) (hx0 : x0 < 2 ^ (32 * 6)) (hNN : x0 * 2 + 1 = NN) (hP1 : P0 - 1 = P) (hnb : nbits (NN) = nb) (hnl : nb ≤ 4000) (hP : -5000 ≤ P) (hP2 : P ≤ 5000) (hA : P + nb - 24 < -149) (hK : -149 = K) (hKP : P < K) (hX : K - P = D) (hD : D ≤ nb + 1) (hq : NN / 2 ^ D = q) (hql : q < 16777216) (hR : NN - q * 2 ^ D = R) (hh : 2 ^ (D - 1) = half) (hs : half < R) (k1 : Nat) (hk1 : q + 1 = k1) (ho : k1 ≠ 16777216) :
    Calls Try.prog 16 #[.agg #[.int .i64 24, .int .i64 (-149), .int .i64 104], .bool m, v0, .int .i64 P0, .bool true] w fun e w' => e = .returned (hdV m k1 K) ∧ Below w.heap.size w w' := by
  have hql64 : q < 18446744073709551616 := by have := hql; omega
  have hD1 : 1 ≤ D := by omega
  have hDl : D ≤ 4001 := by omega
  have hqD : q * 2 ^ D ≤ NN := by rw [← hq]; exact Nat.div_mul_le_self _ _
  have hDI : (D : Int) ≤ (nb : Int) + 1 := by have := hD; omega
  have HQ : Hid (NN / 2 ^ D = q) := hq
  have HR : Hid (NN - q * 2 ^ D = R) := hR
  have HH : Hid (2 ^ (D - 1) = half) := hh
  have HQD : Hid (q * 2 ^ D ≤ NN) := hqD
  have HDw : Hid (IntKind.i64.wrap (D : Int) = D) := by rw [Hid, IntKind.wrap_i64]; omega
  have HAG : Hid (ag R half = 1) := by rw [Hid]; exact ag_gt hs
  have hD1' : (D : Int) - 1 = ((D - 1 : Nat) : Int) := by omega
  subst hK
  have hX' : -149 - P = (D : Int) := hX
  have hk1' : (q : Int) + 1 = (k1 : Int) := by omega
  have ho' : ((k1 : Int) == 16777216) = false := by rw [beq_eq_false_iff_ne]; omega
  have HD : Hid (hdV m k1 (-149) = .agg #[.int .u8 (vS (-149)), .bool m, .int .u64 (vM k1 (-149)), .int .i64 (vP (-149))]) := hdV_agg m k1 (-149)
  clear hq hR hh hqD
  have HB : Below ((w.alloc ob).alloc oz).heap.size ((w.alloc ob).alloc oz) ((w.alloc ob).alloc oz) := Below.refl _ _
  have HV0 : Hid (NatV ((w.alloc ob).alloc oz) v0 x0) := hv0.on (bel (bel (Below.refl _ _)))
  have HX0 : Hid (x0 < 2 ^ (32 * 6)) := hx0
  have HX1 : Hid (x0 * 2 < 2 ^ (32 * (6 + 1))) := dbl_lt (k := 6) hx0
  have HNN : Hid (x0 * 2 + 1 = NN) := hNN
  have HNZ : Hid (NN ≠ 0) := by rw [Hid]; omega
  have HNL : Hid (NN < 2 ^ (32 * (6 + 1))) := nn_lt (k := 6) hNN hx0
  clear hx0 hv0 hNN
  go_enter Try.func16, Try.ntmps16
  go_wp2_with (first
    | (go_at_call 29; with_reducible refine (up_1 v0 x0 6 _ (HV0.out.on (by (repeat (first | exact Below.refl _ _ | with_reducible refine bel ?_ | with_reducible refine Below.drew ?_ | with_reducible refine bt3 ?_)))) HX0.out (by omega)).mono ?_; rintro e wa ⟨⟨va, rfl, hva⟩, hba⟩; replace HB : Below ((w.alloc ob).alloc oz).heap.size ((w.alloc ob).alloc oz) wa := bt2 hba (by (repeat (first | exact HB | exact Below.refl _ _ | with_reducible refine bel ?_ | with_reducible refine Below.drew ?_ | with_reducible refine bt3 ?_))))
    | (go_at_call 18; with_reducible refine (nat_1 _).mono ?_; rintro e wb ⟨⟨vb, rfl, hvb⟩, hbb⟩; replace HB : Below ((w.alloc ob).alloc oz).heap.size ((w.alloc ob).alloc oz) wb := bt2 hbb (by (repeat (first | exact HB | exact Below.refl _ _ | with_reducible refine bel ?_ | with_reducible refine Below.drew ?_ | with_reducible refine bt3 ?_))); replace hva := hva.step (by (repeat (first | exact Below.refl _ _ | with_reducible refine bel ?_ | with_reducible refine Below.drew ?_ | with_reducible refine bt3 ?_))) hbb)
    | (go_at_call 28; with_reducible refine (plus_nv va vb _ _ (6 + 1) _ (hva.on (by (repeat (first | exact Below.refl _ _ | with_reducible refine bel ?_ | with_reducible refine Below.drew ?_ | with_reducible refine bt3 ?_)))) (hvb.on (by (repeat (first | exact Below.refl _ _ | with_reducible refine bel ?_ | with_reducible refine Below.drew ?_ | with_reducible refine bt3 ?_)))) HX1.out (one_lt (6 + 1) (by decide)) (by omega)).mono ?_; rintro e wn ⟨⟨vn, rfl, hvn⟩, hbn⟩; replace HB : Below ((w.alloc ob).alloc oz).heap.size ((w.alloc ob).alloc oz) wn := bt2 hbn (by (repeat (first | exact HB | exact Below.refl _ _ | with_reducible refine bel ?_ | with_reducible refine Below.drew ?_ | with_reducible refine bt3 ?_))); obtain ⟨ao, cap, zs, rfl, hc0, hn0, hval0, hN, hW, hr2⟩ := hvn.dest; rw [HNN.out] at hval0; subst hval0; have hz' := lenz hN HNZ.out; obtain ⟨f0, f1, f2⟩ := kF HB; clear hva hvb hvn hba hbb hbn))
  have hl : zs.length ≤ 100 := by have := len_pow hN rfl (6 + 1) HNL.out; omega
  have sz := fun W hrW => size_any ao cap zs W (by omega) hrW hW hN
  rw [hnb] at sz
  have HN : Below wn.heap.size wn wn := Below.refl _ _
  go_quiet (((go_at_call 31); exact Calls.quiet_of_same (sz _ hr2)))
  have HB5 : True := trivial
  go_wp2_with (first
    | (go_at_call 31; with_reducible refine (sz _ (RU hr2 (by (repeat (first | exact HN | exact Below.refl _ _ | with_reducible refine bel ?_ | with_reducible refine Below.drew ?_ | with_reducible refine bt3 ?_))))).mono ?_; rintro e wq ⟨rfl, hq⟩; subst wq)
    | (go_at_call 34; with_reducible refine (down_any ao cap zs D _ (by omega) (by omega) (RU hr2 (by (repeat (first | exact HN | exact Below.refl _ _ | with_reducible refine bel ?_ | with_reducible refine Below.drew ?_ | with_reducible refine bt3 ?_)))) hW).mono ?_; rintro e w1 ⟨⟨v1, rfl, hv1⟩, hb1⟩; obtain ⟨ao1, cap1, zs1, rfl, hc1, hn1, hval1, hN1, hW1, hr1⟩ := hv1.dest; replace HB : Below ((w.alloc ob).alloc oz).heap.size ((w.alloc ob).alloc oz) w1 := bt2 hb1 (by (repeat (first | exact HB | exact Below.refl _ _ | with_reducible refine bel ?_ | with_reducible refine Below.drew ?_ | with_reducible refine bt3 ?_))); replace HN : Below wn.heap.size wn w1 := bt2 hb1 (by (repeat (first | exact HN | exact Below.refl _ _ | with_reducible refine bel ?_ | with_reducible refine Below.drew ?_ | with_reducible refine bt3 ?_))); clear hb1 hv1; rw [HQ.out] at hval1)
    | (go_at_call 33; with_reducible refine (low_any ao1 cap1 zs1 _ (by have := small_len hN1 hval1 hql64; omega) (RU hr1 (by (repeat (first | exact Below.refl _ _ | with_reducible refine bel ?_ | with_reducible refine Below.drew ?_ | with_reducible refine bt3 ?_)))) hW1).mono ?_; rintro e wq ⟨rfl, hq⟩; rw [hval1, Nat.mod_eq_of_lt hql64]; subst wq; clear hval1 hN1 hW1 hr1 hc1 hn1)
    | (go_at_call 29; with_reducible refine (up_any ao1 cap1 zs1 D _ (by have := small_len hN1 hval1 hql64; omega) (by omega) (RU hr1 (by (repeat (first | exact Below.refl _ _ | with_reducible refine bel ?_ | with_reducible refine Below.drew ?_ | with_reducible refine bt3 ?_)))) hW1).mono ?_; rintro e w4 ⟨⟨v4, rfl, hv4⟩, hb4⟩; obtain ⟨ao4, cap4, zs4, rfl, hc4, hn4, hval4, hN4, hW4, hr4⟩ := hv4.dest; replace HB : Below ((w.alloc ob).alloc oz).heap.size ((w.alloc ob).alloc oz) w4 := bt2 hb4 (by (repeat (first | exact HB | exact Below.refl _ _ | with_reducible refine bel ?_ | with_reducible refine Below.drew ?_ | with_reducible refine bt3 ?_))); replace HN : Below wn.heap.size wn w4 := bt2 hb4 (by (repeat (first | exact HN | exact Below.refl _ _ | with_reducible refine bel ?_ | with_reducible refine Below.drew ?_ | with_reducible refine bt3 ?_))); clear hb4 hv4; rw [hval1] at hval4)
    | (go_at_call 35; with_reducible refine (less_any ao ao4 cap cap4 zs zs4 _ (by omega) (norm_len hN4 _ (Nat.lt_of_le_of_lt (Nat.le_trans (Nat.le_of_eq hval4) HQD.out) (nv_lt hW))) (Nat.le_trans (Nat.le_of_eq hval4) HQD.out) (RU hr2 (by (repeat (first | exact HN | exact Below.refl _ _ | with_reducible refine bel ?_ | with_reducible refine Below.drew ?_ | with_reducible refine bt3 ?_)))) (RU hr4 (by (repeat (first | exact Below.refl _ _ | with_reducible refine bel ?_ | with_reducible refine Below.drew ?_ | with_reducible refine bt3 ?_)))) hW hW4).mono ?_; rintro e w5 ⟨⟨v5, rfl, hv5⟩, hb5⟩; obtain ⟨ao5, cap5, zs5, rfl, hc5, hn5, hval5, hN5, hW5, hr5⟩ := hv5.dest; replace HB : Below ((w.alloc ob).alloc oz).heap.size ((w.alloc ob).alloc oz) w5 := bt2 hb5 (by (repeat (first | exact HB | exact Below.refl _ _ | with_reducible refine bel ?_ | with_reducible refine Below.drew ?_ | with_reducible refine bt3 ?_))); replace HN : Below wn.heap.size wn w5 := bt2 hb5 (by (repeat (first | exact HN | exact Below.refl _ _ | with_reducible refine bel ?_ | with_reducible refine Below.drew ?_ | with_reducible refine bt3 ?_))); clear hb5 hv5; rw [hval4, HR.out] at hval5; replace HB5 : Below w5.heap.size w5 w5 := Below.refl _ _)
    | (go_at_call 18; with_reducible refine (nat_1 _).mono ?_; rintro e w6 ⟨⟨v6, rfl, hv6⟩, hb6⟩; obtain ⟨ao6, cap6, zs6, rfl, hc6, hn6, hval6, hN6, hW6, hr6⟩ := hv6.dest; replace HB : Below ((w.alloc ob).alloc oz).heap.size ((w.alloc ob).alloc oz) w6 := bt2 hb6 (by (repeat (first | exact HB | exact Below.refl _ _ | with_reducible refine bel ?_ | with_reducible refine Below.drew ?_ | with_reducible refine bt3 ?_))); replace HN : Below wn.heap.size wn w6 := bt2 hb6 (by (repeat (first | exact HN | exact Below.refl _ _ | with_reducible refine bel ?_ | with_reducible refine Below.drew ?_ | with_reducible refine bt3 ?_))); replace HB5 : Below w5.heap.size w5 w6 := bt2 hb6 (by (repeat (first | exact HB5 | exact Below.refl _ _ | with_reducible refine bel ?_ | with_reducible refine Below.drew ?_ | with_reducible refine bt3 ?_))); clear hb6 hv6)
    | (go_at_call 29; with_reducible refine (up_any ao6 cap6 zs6 (D - 1) _ (by have := small_len hN6 hval6 (by omega); omega) (by omega) (RU hr6 (by (repeat (first | exact Below.refl _ _ | with_reducible refine bel ?_ | with_reducible refine Below.drew ?_ | with_reducible refine bt3 ?_)))) hW6).mono ?_; rintro e w7 ⟨⟨v7, rfl, hv7⟩, hb7⟩; obtain ⟨ao7, cap7, zs7, rfl, hc7, hn7, hval7, hN7, hW7, hr7⟩ := hv7.dest; replace HB : Below ((w.alloc ob).alloc oz).heap.size ((w.alloc ob).alloc oz) w7 := bt2 hb7 (by (repeat (first | exact HB | exact Below.refl _ _ | with_reducible refine bel ?_ | with_reducible refine Below.drew ?_ | with_reducible refine bt3 ?_))); replace HN : Below wn.heap.size wn w7 := bt2 hb7 (by (repeat (first | exact HN | exact Below.refl _ _ | with_reducible refine bel ?_ | with_reducible refine Below.drew ?_ | with_reducible refine bt3 ?_))); replace HB5 : Below w5.heap.size w5 w7 := bt2 hb7 (by (repeat (first | exact HB5 | exact Below.refl _ _ | with_reducible refine bel ?_ | with_reducible refine Below.drew ?_ | with_reducible refine bt3 ?_))); clear hb7 hv7; rw [hval6, Nat.one_mul, HH.out] at hval7)
    | (go_at_call 36; with_reducible refine (against_any ao5 ao7 cap5 cap7 zs5 zs7 _ (len5 hN5 hval5 HR.out HQD.out hW hl) (len7 hN7 hval7 HH.out hDl) (RU hr5 (by (repeat (first | exact HB5 | exact Below.refl _ _ | with_reducible refine bel ?_ | with_reducible refine Below.drew ?_ | with_reducible refine bt3 ?_)))) (RU hr7 (by (repeat (first | exact Below.refl _ _ | with_reducible refine bel ?_ | with_reducible refine Below.drew ?_ | with_reducible refine bt3 ?_)))) hW5 hW7 hN5 hN7).mono ?_; rintro e wq ⟨rfl, kq, hq⟩; subst wq; rw [hval5, hval7, HAG.out]; obtain ⟨f0, f1, f2⟩ := kF HB)
    | (go_at_call 32; with_reducible refine (held_any m k1 (-149) _).mono ?_; rintro e w9 ⟨rfl, hb9⟩; rw [HD.out]; replace HB : Below ((w.alloc ob).alloc oz).heap.size ((w.alloc ob).alloc oz) w9 := bt2 hb9 (by (repeat (first | exact HB | exact Below.refl _ _ | with_reducible refine bel ?_ | with_reducible refine Below.drew ?_ | with_reducible refine bt3 ?_))); replace HN : Below wn.heap.size wn w9 := bt2 hb9 (by (repeat (first | exact HN | exact Below.refl _ _ | with_reducible refine bel ?_ | with_reducible refine Below.drew ?_ | with_reducible refine bt3 ?_))); obtain ⟨r0, r1, r2, r3, q0, q1, q2, q3⟩ := kA HB))
  refine bodyPost_ret (v := .agg #[.int .u8 (vS (-149)), .bool m, .int .u64 (vM k1 (-149)), .int .i64 (vP (-149))]) (by simp [results, Try.f16, go_sem, r0, r1, r2, r3]) rfl ?_
  exact ⟨by rw [HD.out], kB HB⟩
end Go.Proofs.Ytkmefmgicbohnaa
