import Derived.Test.YtjggbdlmghembaaGreatCSPrB
namespace Go.Proofs.YtjggbdlmghembaaGreat
open Go.RowKit
set_option maxRecDepth 100000

theorem hid_of {p : Prop} (h : p) : Hid p := h
set_option maxRecDepth 100000 in
set_option maxHeartbeats 4000000 in
theorem over_nv (v u : Value) (V b k nb : Nat) (w : World) (h : NatV w v V) (h' : NatV w u b) (hV : V < 2 ^ (32 * k)) (hbk : b < 2 ^ (32 * k)) (hk : k ≤ 100) (hb : 0 < b) (hnb : nbits V = nb) (hnl : nb ≤ 3200) :
    Calls Tryz.prog 104 #[v, u] w fun e w' => (∃ v', e = .returned (.tuple #[v', .bool (decide (0 < V % b))]) ∧ NatV w' v' (V / b)) ∧ Below w.heap.size w w' := by
  have HS := fun w (h : NatV w v V) => size_nv v V k w h hV (by omega)
  rw [hnb] at HS
  have HST : Hid (V < 2 ^ nb) := by
    rw [Hid, ← hnb]
    by_cases h0 : V = 0
    · subst h0; decide
    · exact (nb_bounds V h0).2.1
  clear hnb
  have hwr : wrap64 ((nb : Int) - 1) = (nb : Int) - 1 := by unfold wrap64; omega
  have HVL : Hid (V < 2 ^ (32 * k)) := hV
  have HBL0 : Hid (b < 2 ^ (32 * k)) := hbk
  have HBL : Hid (b < 2 ^ (32 * (k + 1))) := Nat.lt_of_lt_of_le hbk (Nat.pow_le_pow_right (by decide) (by omega))
  have HP : Hid (2 ^ (32 * k) * 4294967296 = 2 ^ (32 * (k + 1))) := by rw [Hid, Nat.mul_add, Nat.pow_add]
  have HK0 : Hid (0 < 2 ^ (32 * k)) := Nat.two_pow_pos _
  clear hV hbk
  go_enter Tryz.func104, Tryz.ntmps104
  go_wp2_with (go_at_call 87; with_reducible refine (HS _ h).mono ?_; rintro e wq ⟨rfl, hq⟩; subst wq)
  go_loopw [6, 7, 8] (fun rv ov iv wr => ∃ n : Nat, iv = .int .i64 ((n : Int) - 1) ∧ n ≤ nb ∧ NatV wr rv (V / 2 ^ n % b) ∧ NatV wr ov (V / 2 ^ n / b) ∧ Below w.heap.size w wr)
    (fun _ _ iv _ => (intOf iv + 1).toNat)
  case atStart =>
    have e0 : V / 2 ^ nb = 0 := Nat.div_eq_of_lt HST.out
    refine ⟨nb, by (first | rfl | rw [hwr]), Nat.le_refl _, ?_, ?_, Below.refl _ _⟩
    · rw [e0, Nat.zero_mod]; exact nv_nil _
    · rw [e0, Nat.zero_div]; exact nv_nil _
  case round =>
    obtain ⟨n, rfl, hn, HR, HO, HB⟩ := hrel
    rename World => wr
    have HV : NatV wr v V := h.on HB
    have HU : NatV wr u b := h'.on HB
    cases n with
    | zero =>
      obtain ⟨ao, l, cap, rfl, hl⟩ := HR.len0
      rw [Nat.pow_zero, Nat.div_one] at hl HO
      clear HR HS
      go_wp2
      go_ret2
      exact ⟨⟨_, by rw [← hl]; rfl, HO⟩, HB⟩
    | succ n =>
      have hst := ov_step V b n hb
      obtain ⟨r, hr⟩ : ∃ r, V / 2 ^ (n + 1) % b = r := ⟨_, rfl⟩
      obtain ⟨o, ho⟩ : ∃ o, V / 2 ^ (n + 1) / b = o := ⟨_, rfl⟩
      have HRB : Hid (r < b) := by rw [Hid, ← hr]; exact Nat.mod_lt _ hb
      have HRL : Hid (r < 2 ^ (32 * k)) := Nat.lt_trans HRB.out HBL0.out
      have HOL : Hid (o < 2 ^ (32 * k)) := by rw [Hid, ← ho]; exact Nat.lt_of_le_of_lt (Nat.le_trans (Nat.div_le_self _ _) (Nat.div_le_self _ _)) HVL.out
      have HR2 : Hid (r * 2 < 2 ^ (32 * (k + 1))) := by rw [Hid, ← HP.out]; have := HRL.out; omega
      have HO2 : Hid (o * 2 < 2 ^ (32 * (k + 1))) := by rw [Hid, ← HP.out]; have := HOL.out; omega
      have HR3 : Hid (r * 2 + 1 < 2 ^ (32 * (k + 1))) := by rw [Hid, ← HP.out]; have := HRL.out; have := HK0.out; omega
      rw [hr] at HR
      rw [ho] at HO
      rw [hr, ho] at hst
      have HST2 := hst
      clear hst hr ho HST
      replace HST2 := hid_of HST2
      have hin : ((n + 1 : Nat) : Int) - 1 = (n : Int) := by omega
      rw [hin]
      clear hin HS
      have hn0 : (0 : Int) ≤ (n : Int) := by omega
      cases hbit : (V / 2 ^ n % 2 == 1) with
      | false =>
        have HBI : Hid (V / 2 ^ n % 2 = 0) := by rw [Hid]; exact (Nat.mod_two_eq_zero_or_one _).resolve_right (by simpa using hbit)
        have HT : Hid (r * 2 < 2 ^ (32 * (k + 1))) := HR2
        by_cases hge : b ≤ r * 2
        · have HF := HST2.out
          rw [HBI.out] at HF
          have HF2 := HF.1 hge
          have HFq : Hid (V / 2 ^ n / b = o * 2 + 1) := HF2.1
          have HFr : Hid (V / 2 ^ n % b = r * 2 - b) := HF2.2
          have HGE : Hid (b ≤ r * 2) := by rw [Hid]; omega
          clear HF HF2 hge
          have hag : 0 ≤ ag (r * 2) b := by have := HGE.out; unfold ag; split <;> (try split) <;> omega
          
          go_wp2_with (first
            | (go_at_call 85; with_reducible refine (up_1 u6 r k _ (HR.on (by (repeat (first | exact Below.refl _ _ | with_reducible refine bel ?_ | with_reducible refine Below.drew ?_ | with_reducible refine bt3 ?_)))) HRL.out (by omega)).mono ?_; rintro e w1 ⟨⟨r1, rfl, hr1⟩, hb1⟩; replace HV := HV.step (by (repeat (first | exact Below.refl _ _ | with_reducible refine bel ?_ | with_reducible refine Below.drew ?_ | with_reducible refine bt3 ?_))) hb1; replace HU := HU.step (by (repeat (first | exact Below.refl _ _ | with_reducible refine bel ?_ | with_reducible refine Below.drew ?_ | with_reducible refine bt3 ?_))) hb1; replace HB : Below w.heap.size w w1 := bt2 hb1 (by (repeat (first | exact HB | exact Below.refl _ _ | with_reducible refine bel ?_ | with_reducible refine Below.drew ?_ | with_reducible refine bt3 ?_))); replace HO := HO.step (by (repeat (first | exact Below.refl _ _ | with_reducible refine bel ?_ | with_reducible refine Below.drew ?_ | with_reducible refine bt3 ?_))) hb1; clear HR; clear hb1)
            | (go_at_call 92; with_reducible refine (bit_nv v V k n _ (HV.on (by (repeat (first | exact Below.refl _ _ | with_reducible refine bel ?_ | with_reducible refine Below.drew ?_ | with_reducible refine bt3 ?_)))) HVL.out (by omega) (by omega)).mono ?_; rintro e wq ⟨rfl, hq⟩; subst wq)
            | (go_at_call 85; with_reducible refine (up_1 u7 o k _ (HO.on (by (repeat (first | exact Below.refl _ _ | with_reducible refine bel ?_ | with_reducible refine Below.drew ?_ | with_reducible refine bt3 ?_)))) HOL.out (by omega)).mono ?_; rintro e w4 ⟨⟨o4, rfl, ho4⟩, hb4⟩; replace HV := HV.step (by (repeat (first | exact Below.refl _ _ | with_reducible refine bel ?_ | with_reducible refine Below.drew ?_ | with_reducible refine bt3 ?_))) hb4; replace HU := HU.step (by (repeat (first | exact Below.refl _ _ | with_reducible refine bel ?_ | with_reducible refine Below.drew ?_ | with_reducible refine bt3 ?_))) hb4; replace HB : Below w.heap.size w w4 := bt2 hb4 (by (repeat (first | exact HB | exact Below.refl _ _ | with_reducible refine bel ?_ | with_reducible refine Below.drew ?_ | with_reducible refine bt3 ?_))); replace hr1 := hr1.step (by (repeat (first | exact Below.refl _ _ | with_reducible refine bel ?_ | with_reducible refine Below.drew ?_ | with_reducible refine bt3 ?_))) hb4; clear HO; clear hb4)
            | (go_at_call 90; with_reducible refine (against_nv r1 u _ _ (k + 1) _ (hr1.on (by (repeat (first | exact Below.refl _ _ | with_reducible refine bel ?_ | with_reducible refine Below.drew ?_ | with_reducible refine bt3 ?_)))) (HU.on (by (repeat (first | exact Below.refl _ _ | with_reducible refine bel ?_ | with_reducible refine Below.drew ?_ | with_reducible refine bt3 ?_)))) HT.out HBL.out (by omega)).mono ?_; rintro e wq ⟨rfl, mq, hq⟩; subst wq)
            | (go_at_call 89; with_reducible refine (less_nv r1 u _ _ (k + 1) _ (hr1.on (by (repeat (first | exact Below.refl _ _ | with_reducible refine bel ?_ | with_reducible refine Below.drew ?_ | with_reducible refine bt3 ?_)))) (HU.on (by (repeat (first | exact Below.refl _ _ | with_reducible refine bel ?_ | with_reducible refine Below.drew ?_ | with_reducible refine bt3 ?_)))) HT.out (by omega) HGE.out).mono ?_; rintro e w5 ⟨⟨r5, rfl, hr5⟩, hb5⟩; replace HV := HV.step (by (repeat (first | exact Below.refl _ _ | with_reducible refine bel ?_ | with_reducible refine Below.drew ?_ | with_reducible refine bt3 ?_))) hb5; replace HU := HU.step (by (repeat (first | exact Below.refl _ _ | with_reducible refine bel ?_ | with_reducible refine Below.drew ?_ | with_reducible refine bt3 ?_))) hb5; replace HB : Below w.heap.size w w5 := bt2 hb5 (by (repeat (first | exact HB | exact Below.refl _ _ | with_reducible refine bel ?_ | with_reducible refine Below.drew ?_ | with_reducible refine bt3 ?_))); replace ho4 := ho4.step (by (repeat (first | exact Below.refl _ _ | with_reducible refine bel ?_ | with_reducible refine Below.drew ?_ | with_reducible refine bt3 ?_))) hb5; clear hr1; clear hb5)
            | (go_at_call 70; with_reducible refine (nat_1 _).mono ?_; rintro e w6 ⟨⟨n6, rfl, hn6⟩, hb6⟩; replace HV := HV.step (by (repeat (first | exact Below.refl _ _ | with_reducible refine bel ?_ | with_reducible refine Below.drew ?_ | with_reducible refine bt3 ?_))) hb6; replace HU := HU.step (by (repeat (first | exact Below.refl _ _ | with_reducible refine bel ?_ | with_reducible refine Below.drew ?_ | with_reducible refine bt3 ?_))) hb6; replace HB : Below w.heap.size w w6 := bt2 hb6 (by (repeat (first | exact HB | exact Below.refl _ _ | with_reducible refine bel ?_ | with_reducible refine Below.drew ?_ | with_reducible refine bt3 ?_))); replace ho4 := ho4.step (by (repeat (first | exact Below.refl _ _ | with_reducible refine bel ?_ | with_reducible refine Below.drew ?_ | with_reducible refine bt3 ?_))) hb6; replace hr5 := hr5.step (by (repeat (first | exact Below.refl _ _ | with_reducible refine bel ?_ | with_reducible refine Below.drew ?_ | with_reducible refine bt3 ?_))) hb6; clear hb6)
            | (go_at_call 84; with_reducible refine (plus_nv o4 n6 _ _ (k + 1) _ (ho4.on (by (repeat (first | exact Below.refl _ _ | with_reducible refine bel ?_ | with_reducible refine Below.drew ?_ | with_reducible refine bt3 ?_)))) (hn6.on (by (repeat (first | exact Below.refl _ _ | with_reducible refine bel ?_ | with_reducible refine Below.drew ?_ | with_reducible refine bt3 ?_)))) HO2.out (one_lt (k + 1) (by omega)) (by omega)).mono ?_; rintro e w7 ⟨⟨o7, rfl, ho7⟩, hb7⟩; replace HV := HV.step (by (repeat (first | exact Below.refl _ _ | with_reducible refine bel ?_ | with_reducible refine Below.drew ?_ | with_reducible refine bt3 ?_))) hb7; replace HU := HU.step (by (repeat (first | exact Below.refl _ _ | with_reducible refine bel ?_ | with_reducible refine Below.drew ?_ | with_reducible refine bt3 ?_))) hb7; replace HB : Below w.heap.size w w7 := bt2 hb7 (by (repeat (first | exact HB | exact Below.refl _ _ | with_reducible refine bel ?_ | with_reducible refine Below.drew ?_ | with_reducible refine bt3 ?_))); replace hr5 := hr5.step (by (repeat (first | exact Below.refl _ _ | with_reducible refine bel ?_ | with_reducible refine Below.drew ?_ | with_reducible refine bt3 ?_))) hb7; clear ho4 hn6; clear hb7))
          go_roundw
          case rel => exact ⟨n, rfl, by omega, by rw [HFr.out]; exact hr5.on (by (repeat (first | exact Below.refl _ _ | with_reducible refine bel ?_ | with_reducible refine Below.drew ?_ | with_reducible refine bt3 ?_))), by rw [HFq.out]; exact ho7.on (by (repeat (first | exact Below.refl _ _ | with_reducible refine bel ?_ | with_reducible refine Below.drew ?_ | with_reducible refine bt3 ?_))), by (repeat (first | exact HB | exact Below.refl _ _ | with_reducible refine bel ?_ | with_reducible refine Below.drew ?_ | with_reducible refine bt3 ?_))⟩
          case measure => simp [intOf]
        · have HF := HST2.out
          rw [HBI.out] at HF
          have HF2 := HF.2 (by omega)
          have HFq : Hid (V / 2 ^ n / b = o * 2) := HF2.1
          have HFr : Hid (V / 2 ^ n % b = r * 2) := HF2.2
          have HGE : Hid (r * 2 < b) := by rw [Hid]; omega
          clear HF HF2 hge
          have hag : ag (r * 2) b < 0 := by have := HGE.out; unfold ag; split <;> (try split) <;> omega
          have hag2 : decide (0 ≤ ag (r * 2) b) = false := decide_eq_false (by omega)
          go_wp2_with (first
            | (go_at_call 85; with_reducible refine (up_1 u6 r k _ (HR.on (by (repeat (first | exact Below.refl _ _ | with_reducible refine bel ?_ | with_reducible refine Below.drew ?_ | with_reducible refine bt3 ?_)))) HRL.out (by omega)).mono ?_; rintro e w1 ⟨⟨r1, rfl, hr1⟩, hb1⟩; replace HV := HV.step (by (repeat (first | exact Below.refl _ _ | with_reducible refine bel ?_ | with_reducible refine Below.drew ?_ | with_reducible refine bt3 ?_))) hb1; replace HU := HU.step (by (repeat (first | exact Below.refl _ _ | with_reducible refine bel ?_ | with_reducible refine Below.drew ?_ | with_reducible refine bt3 ?_))) hb1; replace HB : Below w.heap.size w w1 := bt2 hb1 (by (repeat (first | exact HB | exact Below.refl _ _ | with_reducible refine bel ?_ | with_reducible refine Below.drew ?_ | with_reducible refine bt3 ?_))); replace HO := HO.step (by (repeat (first | exact Below.refl _ _ | with_reducible refine bel ?_ | with_reducible refine Below.drew ?_ | with_reducible refine bt3 ?_))) hb1; clear HR; clear hb1)
            | (go_at_call 92; with_reducible refine (bit_nv v V k n _ (HV.on (by (repeat (first | exact Below.refl _ _ | with_reducible refine bel ?_ | with_reducible refine Below.drew ?_ | with_reducible refine bt3 ?_)))) HVL.out (by omega) (by omega)).mono ?_; rintro e wq ⟨rfl, hq⟩; subst wq)
            | (go_at_call 85; with_reducible refine (up_1 u7 o k _ (HO.on (by (repeat (first | exact Below.refl _ _ | with_reducible refine bel ?_ | with_reducible refine Below.drew ?_ | with_reducible refine bt3 ?_)))) HOL.out (by omega)).mono ?_; rintro e w4 ⟨⟨o4, rfl, ho4⟩, hb4⟩; replace HV := HV.step (by (repeat (first | exact Below.refl _ _ | with_reducible refine bel ?_ | with_reducible refine Below.drew ?_ | with_reducible refine bt3 ?_))) hb4; replace HU := HU.step (by (repeat (first | exact Below.refl _ _ | with_reducible refine bel ?_ | with_reducible refine Below.drew ?_ | with_reducible refine bt3 ?_))) hb4; replace HB : Below w.heap.size w w4 := bt2 hb4 (by (repeat (first | exact HB | exact Below.refl _ _ | with_reducible refine bel ?_ | with_reducible refine Below.drew ?_ | with_reducible refine bt3 ?_))); replace hr1 := hr1.step (by (repeat (first | exact Below.refl _ _ | with_reducible refine bel ?_ | with_reducible refine Below.drew ?_ | with_reducible refine bt3 ?_))) hb4; clear HO; clear hb4)
            | (go_at_call 90; with_reducible refine (against_nv r1 u _ _ (k + 1) _ (hr1.on (by (repeat (first | exact Below.refl _ _ | with_reducible refine bel ?_ | with_reducible refine Below.drew ?_ | with_reducible refine bt3 ?_)))) (HU.on (by (repeat (first | exact Below.refl _ _ | with_reducible refine bel ?_ | with_reducible refine Below.drew ?_ | with_reducible refine bt3 ?_)))) HT.out HBL.out (by omega)).mono ?_; rintro e wq ⟨rfl, mq, hq⟩; subst wq))
          go_roundw
          case rel => exact ⟨n, rfl, by omega, by rw [HFr.out]; exact hr1.on (by (repeat (first | exact Below.refl _ _ | with_reducible refine bel ?_ | with_reducible refine Below.drew ?_ | with_reducible refine bt3 ?_))), by rw [HFq.out]; exact ho4.on (by (repeat (first | exact Below.refl _ _ | with_reducible refine bel ?_ | with_reducible refine Below.drew ?_ | with_reducible refine bt3 ?_))), by (repeat (first | exact HB | exact Below.refl _ _ | with_reducible refine bel ?_ | with_reducible refine Below.drew ?_ | with_reducible refine bt3 ?_))⟩
          case measure => simp [intOf]
      | true =>
        have HBI : Hid (V / 2 ^ n % 2 = 1) := by rw [Hid]; simpa using hbit
        have HT : Hid (r * 2 + 1 < 2 ^ (32 * (k + 1))) := HR3
        by_cases hge : b ≤ r * 2 + 1
        · have HF := HST2.out
          rw [HBI.out] at HF
          have HF2 := HF.1 hge
          have HFq : Hid (V / 2 ^ n / b = o * 2 + 1) := HF2.1
          have HFr : Hid (V / 2 ^ n % b = r * 2 + 1 - b) := HF2.2
          have HGE : Hid (b ≤ r * 2 + 1) := by rw [Hid]; omega
          clear HF HF2 hge
          have hag : 0 ≤ ag (r * 2 + 1) b := by have := HGE.out; unfold ag; split <;> (try split) <;> omega
          
          go_wp2_with (first
            | (go_at_call 85; with_reducible refine (up_1 u6 r k _ (HR.on (by (repeat (first | exact Below.refl _ _ | with_reducible refine bel ?_ | with_reducible refine Below.drew ?_ | with_reducible refine bt3 ?_)))) HRL.out (by omega)).mono ?_; rintro e w1 ⟨⟨r1, rfl, hr1⟩, hb1⟩; replace HV := HV.step (by (repeat (first | exact Below.refl _ _ | with_reducible refine bel ?_ | with_reducible refine Below.drew ?_ | with_reducible refine bt3 ?_))) hb1; replace HU := HU.step (by (repeat (first | exact Below.refl _ _ | with_reducible refine bel ?_ | with_reducible refine Below.drew ?_ | with_reducible refine bt3 ?_))) hb1; replace HB : Below w.heap.size w w1 := bt2 hb1 (by (repeat (first | exact HB | exact Below.refl _ _ | with_reducible refine bel ?_ | with_reducible refine Below.drew ?_ | with_reducible refine bt3 ?_))); replace HO := HO.step (by (repeat (first | exact Below.refl _ _ | with_reducible refine bel ?_ | with_reducible refine Below.drew ?_ | with_reducible refine bt3 ?_))) hb1; clear HR; clear hb1)
            | (go_at_call 92; with_reducible refine (bit_nv v V k n _ (HV.on (by (repeat (first | exact Below.refl _ _ | with_reducible refine bel ?_ | with_reducible refine Below.drew ?_ | with_reducible refine bt3 ?_)))) HVL.out (by omega) (by omega)).mono ?_; rintro e wq ⟨rfl, hq⟩; subst wq)
            | (go_at_call 70; with_reducible refine (nat_1 _).mono ?_; rintro e w6 ⟨⟨n6, rfl, hn6⟩, hb6⟩; replace HV := HV.step (by (repeat (first | exact Below.refl _ _ | with_reducible refine bel ?_ | with_reducible refine Below.drew ?_ | with_reducible refine bt3 ?_))) hb6; replace HU := HU.step (by (repeat (first | exact Below.refl _ _ | with_reducible refine bel ?_ | with_reducible refine Below.drew ?_ | with_reducible refine bt3 ?_))) hb6; replace HB : Below w.heap.size w w6 := bt2 hb6 (by (repeat (first | exact HB | exact Below.refl _ _ | with_reducible refine bel ?_ | with_reducible refine Below.drew ?_ | with_reducible refine bt3 ?_))); replace ho4 := ho4.step (by (repeat (first | exact Below.refl _ _ | with_reducible refine bel ?_ | with_reducible refine Below.drew ?_ | with_reducible refine bt3 ?_))) hb6; replace hr5 := hr5.step (by (repeat (first | exact Below.refl _ _ | with_reducible refine bel ?_ | with_reducible refine Below.drew ?_ | with_reducible refine bt3 ?_))) hb6; clear hb6)
            | (go_at_call 70; with_reducible refine (nat_1 _).mono ?_; rintro e w2 ⟨⟨n2, rfl, hn2⟩, hb2⟩; replace HV := HV.step (by (repeat (first | exact Below.refl _ _ | with_reducible refine bel ?_ | with_reducible refine Below.drew ?_ | with_reducible refine bt3 ?_))) hb2; replace HU := HU.step (by (repeat (first | exact Below.refl _ _ | with_reducible refine bel ?_ | with_reducible refine Below.drew ?_ | with_reducible refine bt3 ?_))) hb2; replace HB : Below w.heap.size w w2 := bt2 hb2 (by (repeat (first | exact HB | exact Below.refl _ _ | with_reducible refine bel ?_ | with_reducible refine Below.drew ?_ | with_reducible refine bt3 ?_))); replace HO := HO.step (by (repeat (first | exact Below.refl _ _ | with_reducible refine bel ?_ | with_reducible refine Below.drew ?_ | with_reducible refine bt3 ?_))) hb2; replace hr1 := hr1.step (by (repeat (first | exact Below.refl _ _ | with_reducible refine bel ?_ | with_reducible refine Below.drew ?_ | with_reducible refine bt3 ?_))) hb2; clear hb2)
            | (go_at_call 84; with_reducible refine (plus_nv r1 n2 _ _ (k + 1) _ (hr1.on (by (repeat (first | exact Below.refl _ _ | with_reducible refine bel ?_ | with_reducible refine Below.drew ?_ | with_reducible refine bt3 ?_)))) (hn2.on (by (repeat (first | exact Below.refl _ _ | with_reducible refine bel ?_ | with_reducible refine Below.drew ?_ | with_reducible refine bt3 ?_)))) HR2.out (one_lt (k + 1) (by omega)) (by omega)).mono ?_; rintro e w3 ⟨⟨r3, rfl, hr3⟩, hb3⟩; replace HV := HV.step (by (repeat (first | exact Below.refl _ _ | with_reducible refine bel ?_ | with_reducible refine Below.drew ?_ | with_reducible refine bt3 ?_))) hb3; replace HU := HU.step (by (repeat (first | exact Below.refl _ _ | with_reducible refine bel ?_ | with_reducible refine Below.drew ?_ | with_reducible refine bt3 ?_))) hb3; replace HB : Below w.heap.size w w3 := bt2 hb3 (by (repeat (first | exact HB | exact Below.refl _ _ | with_reducible refine bel ?_ | with_reducible refine Below.drew ?_ | with_reducible refine bt3 ?_))); replace HO := HO.step (by (repeat (first | exact Below.refl _ _ | with_reducible refine bel ?_ | with_reducible refine Below.drew ?_ | with_reducible refine bt3 ?_))) hb3; clear hr1 hn2; clear hb3)
            | (go_at_call 85; with_reducible refine (up_1 u7 o k _ (HO.on (by (repeat (first | exact Below.refl _ _ | with_reducible refine bel ?_ | with_reducible refine Below.drew ?_ | with_reducible refine bt3 ?_)))) HOL.out (by omega)).mono ?_; rintro e w4 ⟨⟨o4, rfl, ho4⟩, hb4⟩; replace HV := HV.step (by (repeat (first | exact Below.refl _ _ | with_reducible refine bel ?_ | with_reducible refine Below.drew ?_ | with_reducible refine bt3 ?_))) hb4; replace HU := HU.step (by (repeat (first | exact Below.refl _ _ | with_reducible refine bel ?_ | with_reducible refine Below.drew ?_ | with_reducible refine bt3 ?_))) hb4; replace HB : Below w.heap.size w w4 := bt2 hb4 (by (repeat (first | exact HB | exact Below.refl _ _ | with_reducible refine bel ?_ | with_reducible refine Below.drew ?_ | with_reducible refine bt3 ?_))); replace hr3 := hr3.step (by (repeat (first | exact Below.refl _ _ | with_reducible refine bel ?_ | with_reducible refine Below.drew ?_ | with_reducible refine bt3 ?_))) hb4; clear HO; clear hb4)
            | (go_at_call 90; with_reducible refine (against_nv r3 u _ _ (k + 1) _ (hr3.on (by (repeat (first | exact Below.refl _ _ | with_reducible refine bel ?_ | with_reducible refine Below.drew ?_ | with_reducible refine bt3 ?_)))) (HU.on (by (repeat (first | exact Below.refl _ _ | with_reducible refine bel ?_ | with_reducible refine Below.drew ?_ | with_reducible refine bt3 ?_)))) HT.out HBL.out (by omega)).mono ?_; rintro e wq ⟨rfl, mq, hq⟩; subst wq)
            | (go_at_call 89; with_reducible refine (less_nv r3 u _ _ (k + 1) _ (hr3.on (by (repeat (first | exact Below.refl _ _ | with_reducible refine bel ?_ | with_reducible refine Below.drew ?_ | with_reducible refine bt3 ?_)))) (HU.on (by (repeat (first | exact Below.refl _ _ | with_reducible refine bel ?_ | with_reducible refine Below.drew ?_ | with_reducible refine bt3 ?_)))) HT.out (by omega) HGE.out).mono ?_; rintro e w5 ⟨⟨r5, rfl, hr5⟩, hb5⟩; replace HV := HV.step (by (repeat (first | exact Below.refl _ _ | with_reducible refine bel ?_ | with_reducible refine Below.drew ?_ | with_reducible refine bt3 ?_))) hb5; replace HU := HU.step (by (repeat (first | exact Below.refl _ _ | with_reducible refine bel ?_ | with_reducible refine Below.drew ?_ | with_reducible refine bt3 ?_))) hb5; replace HB : Below w.heap.size w w5 := bt2 hb5 (by (repeat (first | exact HB | exact Below.refl _ _ | with_reducible refine bel ?_ | with_reducible refine Below.drew ?_ | with_reducible refine bt3 ?_))); replace ho4 := ho4.step (by (repeat (first | exact Below.refl _ _ | with_reducible refine bel ?_ | with_reducible refine Below.drew ?_ | with_reducible refine bt3 ?_))) hb5; clear hr3; clear hb5)
            | (go_at_call 84; with_reducible refine (plus_nv o4 n6 _ _ (k + 1) _ (ho4.on (by (repeat (first | exact Below.refl _ _ | with_reducible refine bel ?_ | with_reducible refine Below.drew ?_ | with_reducible refine bt3 ?_)))) (hn6.on (by (repeat (first | exact Below.refl _ _ | with_reducible refine bel ?_ | with_reducible refine Below.drew ?_ | with_reducible refine bt3 ?_)))) HO2.out (one_lt (k + 1) (by omega)) (by omega)).mono ?_; rintro e w7 ⟨⟨o7, rfl, ho7⟩, hb7⟩; replace HV := HV.step (by (repeat (first | exact Below.refl _ _ | with_reducible refine bel ?_ | with_reducible refine Below.drew ?_ | with_reducible refine bt3 ?_))) hb7; replace HU := HU.step (by (repeat (first | exact Below.refl _ _ | with_reducible refine bel ?_ | with_reducible refine Below.drew ?_ | with_reducible refine bt3 ?_))) hb7; replace HB : Below w.heap.size w w7 := bt2 hb7 (by (repeat (first | exact HB | exact Below.refl _ _ | with_reducible refine bel ?_ | with_reducible refine Below.drew ?_ | with_reducible refine bt3 ?_))); replace hr5 := hr5.step (by (repeat (first | exact Below.refl _ _ | with_reducible refine bel ?_ | with_reducible refine Below.drew ?_ | with_reducible refine bt3 ?_))) hb7; clear ho4 hn6; clear hb7))
          go_roundw
          case rel => exact ⟨n, rfl, by omega, by rw [HFr.out]; exact hr5.on (by (repeat (first | exact Below.refl _ _ | with_reducible refine bel ?_ | with_reducible refine Below.drew ?_ | with_reducible refine bt3 ?_))), by rw [HFq.out]; exact ho7.on (by (repeat (first | exact Below.refl _ _ | with_reducible refine bel ?_ | with_reducible refine Below.drew ?_ | with_reducible refine bt3 ?_))), by (repeat (first | exact HB | exact Below.refl _ _ | with_reducible refine bel ?_ | with_reducible refine Below.drew ?_ | with_reducible refine bt3 ?_))⟩
          case measure => simp [intOf]
        · have HF := HST2.out
          rw [HBI.out] at HF
          have HF2 := HF.2 (by omega)
          have HFq : Hid (V / 2 ^ n / b = o * 2) := HF2.1
          have HFr : Hid (V / 2 ^ n % b = r * 2 + 1) := HF2.2
          have HGE : Hid (r * 2 + 1 < b) := by rw [Hid]; omega
          clear HF HF2 hge
          have hag : ag (r * 2 + 1) b < 0 := by have := HGE.out; unfold ag; split <;> (try split) <;> omega
          have hag2 : decide (0 ≤ ag (r * 2 + 1) b) = false := decide_eq_false (by omega)
          go_wp2_with (first
            | (go_at_call 85; with_reducible refine (up_1 u6 r k _ (HR.on (by (repeat (first | exact Below.refl _ _ | with_reducible refine bel ?_ | with_reducible refine Below.drew ?_ | with_reducible refine bt3 ?_)))) HRL.out (by omega)).mono ?_; rintro e w1 ⟨⟨r1, rfl, hr1⟩, hb1⟩; replace HV := HV.step (by (repeat (first | exact Below.refl _ _ | with_reducible refine bel ?_ | with_reducible refine Below.drew ?_ | with_reducible refine bt3 ?_))) hb1; replace HU := HU.step (by (repeat (first | exact Below.refl _ _ | with_reducible refine bel ?_ | with_reducible refine Below.drew ?_ | with_reducible refine bt3 ?_))) hb1; replace HB : Below w.heap.size w w1 := bt2 hb1 (by (repeat (first | exact HB | exact Below.refl _ _ | with_reducible refine bel ?_ | with_reducible refine Below.drew ?_ | with_reducible refine bt3 ?_))); replace HO := HO.step (by (repeat (first | exact Below.refl _ _ | with_reducible refine bel ?_ | with_reducible refine Below.drew ?_ | with_reducible refine bt3 ?_))) hb1; clear HR; clear hb1)
            | (go_at_call 92; with_reducible refine (bit_nv v V k n _ (HV.on (by (repeat (first | exact Below.refl _ _ | with_reducible refine bel ?_ | with_reducible refine Below.drew ?_ | with_reducible refine bt3 ?_)))) HVL.out (by omega) (by omega)).mono ?_; rintro e wq ⟨rfl, hq⟩; subst wq)
            | (go_at_call 70; with_reducible refine (nat_1 _).mono ?_; rintro e w2 ⟨⟨n2, rfl, hn2⟩, hb2⟩; replace HV := HV.step (by (repeat (first | exact Below.refl _ _ | with_reducible refine bel ?_ | with_reducible refine Below.drew ?_ | with_reducible refine bt3 ?_))) hb2; replace HU := HU.step (by (repeat (first | exact Below.refl _ _ | with_reducible refine bel ?_ | with_reducible refine Below.drew ?_ | with_reducible refine bt3 ?_))) hb2; replace HB : Below w.heap.size w w2 := bt2 hb2 (by (repeat (first | exact HB | exact Below.refl _ _ | with_reducible refine bel ?_ | with_reducible refine Below.drew ?_ | with_reducible refine bt3 ?_))); replace HO := HO.step (by (repeat (first | exact Below.refl _ _ | with_reducible refine bel ?_ | with_reducible refine Below.drew ?_ | with_reducible refine bt3 ?_))) hb2; replace hr1 := hr1.step (by (repeat (first | exact Below.refl _ _ | with_reducible refine bel ?_ | with_reducible refine Below.drew ?_ | with_reducible refine bt3 ?_))) hb2; clear hb2)
            | (go_at_call 84; with_reducible refine (plus_nv r1 n2 _ _ (k + 1) _ (hr1.on (by (repeat (first | exact Below.refl _ _ | with_reducible refine bel ?_ | with_reducible refine Below.drew ?_ | with_reducible refine bt3 ?_)))) (hn2.on (by (repeat (first | exact Below.refl _ _ | with_reducible refine bel ?_ | with_reducible refine Below.drew ?_ | with_reducible refine bt3 ?_)))) HR2.out (one_lt (k + 1) (by omega)) (by omega)).mono ?_; rintro e w3 ⟨⟨r3, rfl, hr3⟩, hb3⟩; replace HV := HV.step (by (repeat (first | exact Below.refl _ _ | with_reducible refine bel ?_ | with_reducible refine Below.drew ?_ | with_reducible refine bt3 ?_))) hb3; replace HU := HU.step (by (repeat (first | exact Below.refl _ _ | with_reducible refine bel ?_ | with_reducible refine Below.drew ?_ | with_reducible refine bt3 ?_))) hb3; replace HB : Below w.heap.size w w3 := bt2 hb3 (by (repeat (first | exact HB | exact Below.refl _ _ | with_reducible refine bel ?_ | with_reducible refine Below.drew ?_ | with_reducible refine bt3 ?_))); replace HO := HO.step (by (repeat (first | exact Below.refl _ _ | with_reducible refine bel ?_ | with_reducible refine Below.drew ?_ | with_reducible refine bt3 ?_))) hb3; clear hr1 hn2; clear hb3)
            | (go_at_call 85; with_reducible refine (up_1 u7 o k _ (HO.on (by (repeat (first | exact Below.refl _ _ | with_reducible refine bel ?_ | with_reducible refine Below.drew ?_ | with_reducible refine bt3 ?_)))) HOL.out (by omega)).mono ?_; rintro e w4 ⟨⟨o4, rfl, ho4⟩, hb4⟩; replace HV := HV.step (by (repeat (first | exact Below.refl _ _ | with_reducible refine bel ?_ | with_reducible refine Below.drew ?_ | with_reducible refine bt3 ?_))) hb4; replace HU := HU.step (by (repeat (first | exact Below.refl _ _ | with_reducible refine bel ?_ | with_reducible refine Below.drew ?_ | with_reducible refine bt3 ?_))) hb4; replace HB : Below w.heap.size w w4 := bt2 hb4 (by (repeat (first | exact HB | exact Below.refl _ _ | with_reducible refine bel ?_ | with_reducible refine Below.drew ?_ | with_reducible refine bt3 ?_))); replace hr3 := hr3.step (by (repeat (first | exact Below.refl _ _ | with_reducible refine bel ?_ | with_reducible refine Below.drew ?_ | with_reducible refine bt3 ?_))) hb4; clear HO; clear hb4)
            | (go_at_call 90; with_reducible refine (against_nv r3 u _ _ (k + 1) _ (hr3.on (by (repeat (first | exact Below.refl _ _ | with_reducible refine bel ?_ | with_reducible refine Below.drew ?_ | with_reducible refine bt3 ?_)))) (HU.on (by (repeat (first | exact Below.refl _ _ | with_reducible refine bel ?_ | with_reducible refine Below.drew ?_ | with_reducible refine bt3 ?_)))) HT.out HBL.out (by omega)).mono ?_; rintro e wq ⟨rfl, mq, hq⟩; subst wq))
          go_roundw
          case rel => exact ⟨n, rfl, by omega, by rw [HFr.out]; exact hr3.on (by (repeat (first | exact Below.refl _ _ | with_reducible refine bel ?_ | with_reducible refine Below.drew ?_ | with_reducible refine bt3 ?_))), by rw [HFq.out]; exact ho4.on (by (repeat (first | exact Below.refl _ _ | with_reducible refine bel ?_ | with_reducible refine Below.drew ?_ | with_reducible refine bt3 ?_))), by (repeat (first | exact HB | exact Below.refl _ _ | with_reducible refine bel ?_ | with_reducible refine Below.drew ?_ | with_reducible refine bt3 ?_))⟩
          case measure => simp [intOf]
end Go.Proofs.YtjggbdlmghembaaGreat
