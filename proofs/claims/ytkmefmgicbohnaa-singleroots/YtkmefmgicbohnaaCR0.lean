import Derived.Test.YtkmefmgicbohnaaCA3
import Derived.Test.YtkmefmgicbohnaaCA4
import Derived.Test.YtkmefmgicbohnaaCA6
namespace Go.Proofs.Ytkmefmgicbohnaa
open Go.RowKit

theorem times_nv3 (v u : Value) (x y : Nat) (w : World) (h : NatV w v x) (h' : NatV w u y) (hx : x < 2 ^ (32 * 3)) (hy : y < 2 ^ (32 * 3)) :
    Calls Try.prog 51 #[v, u] w fun e w' => (∃ v', e = .returned v' ∧ NatV w' v' (x * y)) ∧ Below w.heap.size w w' := by
  obtain ⟨ao, cap, zs, rfl, hc, hn', hval, hN, hW, hr⟩ := h
  obtain ⟨ao2, cap2, zs2, rfl, hc2, hn2, hval2, hN2, hW2, hr2⟩ := h'
  have := times_any ao ao2 cap cap2 zs zs2 w (by have := len_pow hN hval 3 hx; omega) (by have := len_pow hN2 hval2 3 hy; omega) hr hr2 hW hW2
  rw [hval, hval2] at this
  exact this
/-- a round of a root by bits -/
theorem rq_step (S m : Nat) : (S / 2 ^ (m + 1) * 2 ^ (m + 1) + 2 ^ m ≤ S → S / 2 ^ m * 2 ^ m = S / 2 ^ (m + 1) * 2 ^ (m + 1) + 2 ^ m) ∧ (S < S / 2 ^ (m + 1) * 2 ^ (m + 1) + 2 ^ m → S / 2 ^ m * 2 ^ m = S / 2 ^ (m + 1) * 2 ^ (m + 1)) := by
  have e1 : S / 2 ^ (m + 1) = S / 2 ^ m / 2 := by rw [Nat.pow_succ, Nat.div_div_eq_div_mul]
  have h1 := Nat.div_add_mod S (2 ^ m)
  have h2 := Nat.mod_lt S (Nat.two_pow_pos m)
  rw [e1, Nat.pow_succ]
  generalize S / 2 ^ m = U at *
  generalize S % 2 ^ m = r at *
  generalize 2 ^ m = p at *
  have h3 := Nat.div_add_mod U 2
  have h4 : U % 2 = 0 ∨ U % 2 = 1 := Nat.mod_two_eq_zero_or_one U
  generalize U / 2 = q at *
  have e2 : q * (p * 2) = 2 * q * p := by rw [← Nat.mul_assoc, Nat.mul_right_comm, Nat.mul_comm q 2]
  rw [e2]
  rcases h4 with h4 | h4 <;> rw [h4] at h3
  · have e3 : U = 2 * q := by omega
    subst e3
    rw [Nat.mul_comm p] at h1
    constructor
    · intro h; omega
    · intro _; rfl
  · have e3 : U * p = 2 * q * p + p := by rw [← h3, Nat.add_mul, Nat.one_mul]
    rw [Nat.mul_comm p, e3] at h1
    rw [e3]
    constructor
    · intro _; rfl
    · intro h; omega
theorem sq_le_iff (T V : Nat) : T * T ≤ V ↔ T ≤ isq V := by
  constructor
  · intro h
    have h1 := isq_gt V
    have : T < isq V + 1 := sq_lt (by omega)
    omega
  · intro h
    exact Nat.le_trans (Nat.mul_le_mul h h) (isq_le V)
theorem isq_lt80 (V : Nat) (h : V < 2 ^ 160) : isq V < 2 ^ 80 := by
  apply sq_lt
  have := isq_le V
  have e : (2 : Nat) ^ 80 * 2 ^ 80 = 2 ^ 160 := by rw [← Nat.pow_add]
  omega
theorem isq_half (V : Nat) : isq V < 2 ^ (nbits V / 2 + 1) := by
  by_cases h0 : V = 0
  · subst h0
    exact Nat.lt_of_le_of_lt (show isq 0 ≤ 0 by decide) (Nat.two_pow_pos _)
  · apply sq_lt
    have h1 := isq_le V
    have h2 := (nb_bounds V h0).2.1
    have h3 : 2 ^ nbits V ≤ 2 ^ (nbits V / 2 + 1 + (nbits V / 2 + 1)) := Nat.pow_le_pow_right (by decide) (by omega)
    rw [Nat.pow_add] at h3
    omega
set_option maxRecDepth 100000 in
set_option maxHeartbeats 4000000 in
theorem root_nv (v : Value) (V : Nat) (w : World) (h : NatV w v V) (hV : V < 2 ^ 160) :
    Calls Try.prog 46 #[v] w fun e w' => (∃ v', e = .returned (.tuple #[v', .bool (ag (isq V * isq V) V != 0)]) ∧ NatV w' v' (isq V)) ∧ Below w.heap.size w w' := by
  have p5 : (2 : Nat) ^ 160 = 2 ^ (32 * 5) := rfl
  obtain ⟨nb, hnb⟩ : ∃ nb, nbits V = nb := ⟨_, rfl⟩
  have hnl : nb ≤ 160 := by
    rw [← hnb]
    by_cases h0 : V = 0
    · subst h0; decide
    · have := (nb_bounds V h0).1
      have c1 := (Nat.pow_lt_pow_iff_right (a := 2) (by decide)).1 (Nat.lt_of_le_of_lt this hV)
      omega
  have HS := fun w (h : NatV w v V) => size_nv v V 5 w h hV (by omega)
  rw [hnb] at HS
  obtain ⟨S, hS⟩ : ∃ S, isq V = S := ⟨_, rfl⟩
  have HST : Hid (S < 2 ^ (nb / 2 + 1)) := by rw [Hid, ← hnb, ← hS]; exact isq_half V
  have HSQ : Hid (∀ T, T * T ≤ V ↔ T ≤ S) := fun T => by rw [← hS]; exact sq_le_iff T V
  have HSL : Hid (S < 2 ^ 80) := by rw [Hid, ← hS]; exact isq_lt80 V hV
  have HVL6 : Hid (V < 2 ^ (32 * 6)) := Nat.lt_of_lt_of_le hV (Nat.pow_le_pow_right (by decide) (by decide))
  rw [hS]
  clear hnb hV hS p5
  go_enter Try.func46, Try.ntmps46
  go_wp2_with (go_at_call 31; with_reducible refine (HS _ h).mono ?_; rintro e wq ⟨rfl, hq⟩; subst wq)
  go_loopw [4, 5] (fun ov iv wr => ∃ n : Nat, iv = .int .i64 ((n : Int) - 1) ∧ n ≤ 81 ∧ NatV wr ov (S / 2 ^ n * 2 ^ n) ∧ Below w.heap.size w wr)
    (fun _ iv _ => (intOf iv + 1).toNat)
  case atStart =>
    have e0 : S / 2 ^ (nb / 2 + 1) = 0 := Nat.div_eq_of_lt HST.out
    refine ⟨nb / 2 + 1, ?_, by omega, ?_, Below.refl _ _⟩
    · congr 1; omega
    · rw [e0, Nat.zero_mul]; exact nv_nil _
  case round =>
    obtain ⟨n, rfl, hn, HO, HB⟩ := hrel
    rename World => wr
    have HV : NatV wr v V := h.on HB
    clear HS HST
    cases n with
    | zero =>
      rw [Nat.pow_zero, Nat.div_one, Nat.mul_one] at HO
      have HSL3 : Hid (S < 2 ^ (32 * 3)) := Nat.lt_of_lt_of_le HSL.out (Nat.pow_le_pow_right (by decide) (by decide))
      have HSS : Hid (S * S < 2 ^ (32 * 6)) := Nat.lt_of_le_of_lt ((HSQ.out S).2 (Nat.le_refl _)) HVL6.out
      go_wp2_with (first
        | (go_at_call 51; with_reducible refine (times_nv3 u4 u4 S S _ (HO.on (by (repeat (first | exact Below.refl _ _ | with_reducible refine bel ?_ | with_reducible refine Below.drew ?_ | with_reducible refine bt3 ?_)))) (HO.on (by (repeat (first | exact Below.refl _ _ | with_reducible refine bel ?_ | with_reducible refine Below.drew ?_ | with_reducible refine bt3 ?_)))) HSL3.out HSL3.out).mono ?_; rintro e w4 ⟨⟨s4, rfl, hs4⟩, hb4⟩; replace HB : Below w.heap.size w w4 := bt2 hb4 (by (repeat (first | exact HB | exact Below.refl _ _ | with_reducible refine bel ?_ | with_reducible refine Below.drew ?_ | with_reducible refine bt3 ?_))); replace HV := HV.step (by (repeat (first | exact Below.refl _ _ | with_reducible refine bel ?_ | with_reducible refine Below.drew ?_ | with_reducible refine bt3 ?_))) hb4; replace HO := HO.step (by (repeat (first | exact Below.refl _ _ | with_reducible refine bel ?_ | with_reducible refine Below.drew ?_ | with_reducible refine bt3 ?_))) hb4; clear hb4)
        | (go_at_call 36; with_reducible refine (against_nv s4 v _ _ 6 _ (hs4.on (by (repeat (first | exact Below.refl _ _ | with_reducible refine bel ?_ | with_reducible refine Below.drew ?_ | with_reducible refine bt3 ?_)))) (HV.on (by (repeat (first | exact Below.refl _ _ | with_reducible refine bel ?_ | with_reducible refine Below.drew ?_ | with_reducible refine bt3 ?_)))) HSS.out HVL6.out (by decide)).mono ?_; rintro e wq ⟨rfl, mq, hq⟩; subst wq))
      go_ret2
      exact ⟨⟨_, rfl, HO.on (by (repeat (first | exact Below.refl _ _ | with_reducible refine bel ?_ | with_reducible refine Below.drew ?_ | with_reducible refine bt3 ?_)))⟩, (by (repeat (first | exact HB | exact Below.refl _ _ | with_reducible refine bel ?_ | with_reducible refine Below.drew ?_ | with_reducible refine bt3 ?_)))⟩
    | succ n =>
      have hst := rq_step S n
      have HML : Hid (2 ^ n < 2 ^ (32 * 3)) := Nat.pow_lt_pow_right (by decide) (by omega)
      have HM80 : Hid (2 ^ n ≤ 2 ^ 80) := Nat.pow_le_pow_right (by decide) (by omega)
      obtain ⟨O, hO⟩ : ∃ O, S / 2 ^ (n + 1) * 2 ^ (n + 1) = O := ⟨_, rfl⟩
      have HOS : Hid (O ≤ S) := by rw [Hid, ← hO]; exact Nat.div_mul_le_self _ _
      have HOL : Hid (O < 2 ^ (32 * 3)) := Nat.lt_trans (Nat.lt_of_le_of_lt HOS.out HSL.out) (Nat.pow_lt_pow_right (by decide) (by decide))
      rw [hO] at hst HO
      clear hO
      obtain ⟨M, hM⟩ : ∃ M, 2 ^ n = M := ⟨_, rfl⟩
      have HUP : ∀ u w, NatV w u 1 → Calls Try.prog 29 #[u, .int .i64 n] w fun e w' => (∃ v', e = .returned v' ∧ NatV w' v' M) ∧ Below w.heap.size w w' := fun u w h => by
        have := up_nv u 1 n w h (by decide) (by omega)
        rw [hM, Nat.one_mul] at this
        exact this
      obtain ⟨T, hT⟩ : ∃ T, O + M = T := ⟨_, rfl⟩
      have HT : Hid (O + M = T) := hT
      have HTS : Hid (T < 2 ^ 81) := by
        rw [Hid, ← hT, ← hM]
        have a1 := HOS.out
        have a2 := HSL.out
        have a3 := HM80.out
        have a4 : (2 : Nat) ^ 81 = 2 ^ 80 + 2 ^ 80 := by decide
        omega
      have HTL : Hid (T < 2 ^ (32 * 3)) := Nat.lt_trans HTS.out (Nat.pow_lt_pow_right (by decide) (by decide))
      have HTT : Hid (T * T < 2 ^ (32 * 6)) := by
        have := Nat.mul_lt_mul'' HTL.out HTL.out
        rw [← Nat.pow_add] at this
        exact this
      have HN : Hid (S / 2 ^ n * 2 ^ n = if T ≤ S then T else O) := by
        rw [Hid, ← hT, ← hM]
        split
        · rename_i hh; exact hst.1 hh
        · rename_i hh; exact hst.2 (by omega)
      rw [hM] at HML
      clear hM hT HM80 hst
      have hin : ((n + 1 : Nat) : Int) - 1 = (n : Int) := by omega
      rw [hin]
      clear hin
      have hn0 : (0 : Int) ≤ (n : Int) := by omega
      by_cases hle : T ≤ S
      · have hag : decide (ag (T * T) V ≤ 0) = true := by
          have := (HSQ.out T).2 hle
          apply decide_eq_true
          unfold ag; split <;> (try split) <;> omega
        have hag1 : ag (T * T) V ≤ 0 := of_decide_eq_true hag
        rw [if_pos hle] at HN
        clear hle
        go_wp2_with (first
          | (go_at_call 18; with_reducible refine (nat_1 _).mono ?_; rintro e w1 ⟨⟨n1, rfl, hn1⟩, hb1⟩; replace HB : Below w.heap.size w w1 := bt2 hb1 (by (repeat (first | exact HB | exact Below.refl _ _ | with_reducible refine bel ?_ | with_reducible refine Below.drew ?_ | with_reducible refine bt3 ?_))); replace HV := HV.step (by (repeat (first | exact Below.refl _ _ | with_reducible refine bel ?_ | with_reducible refine Below.drew ?_ | with_reducible refine bt3 ?_))) hb1; replace HO := HO.step (by (repeat (first | exact Below.refl _ _ | with_reducible refine bel ?_ | with_reducible refine Below.drew ?_ | with_reducible refine bt3 ?_))) hb1; clear hb1)
          | (go_at_call 29; with_reducible refine (HUP n1 _ (hn1.on (by (repeat (first | exact Below.refl _ _ | with_reducible refine bel ?_ | with_reducible refine Below.drew ?_ | with_reducible refine bt3 ?_))))).mono ?_; rintro e w2 ⟨⟨n2, rfl, hn2⟩, hb2⟩; replace HB : Below w.heap.size w w2 := bt2 hb2 (by (repeat (first | exact HB | exact Below.refl _ _ | with_reducible refine bel ?_ | with_reducible refine Below.drew ?_ | with_reducible refine bt3 ?_))); replace HV := HV.step (by (repeat (first | exact Below.refl _ _ | with_reducible refine bel ?_ | with_reducible refine Below.drew ?_ | with_reducible refine bt3 ?_))) hb2; replace HO := HO.step (by (repeat (first | exact Below.refl _ _ | with_reducible refine bel ?_ | with_reducible refine Below.drew ?_ | with_reducible refine bt3 ?_))) hb2; clear hn1; clear hb2)
          | (go_at_call 28; with_reducible refine (plus_nv u4 n2 _ _ 3 _ (HO.on (by (repeat (first | exact Below.refl _ _ | with_reducible refine bel ?_ | with_reducible refine Below.drew ?_ | with_reducible refine bt3 ?_)))) (hn2.on (by (repeat (first | exact Below.refl _ _ | with_reducible refine bel ?_ | with_reducible refine Below.drew ?_ | with_reducible refine bt3 ?_)))) HOL.out HML.out (by decide)).mono ?_; rintro e w3 ⟨⟨t3, rfl, ht3⟩, hb3⟩; rw [HT.out] at ht3; replace HB : Below w.heap.size w w3 := bt2 hb3 (by (repeat (first | exact HB | exact Below.refl _ _ | with_reducible refine bel ?_ | with_reducible refine Below.drew ?_ | with_reducible refine bt3 ?_))); replace HV := HV.step (by (repeat (first | exact Below.refl _ _ | with_reducible refine bel ?_ | with_reducible refine Below.drew ?_ | with_reducible refine bt3 ?_))) hb3; replace HO := HO.step (by (repeat (first | exact Below.refl _ _ | with_reducible refine bel ?_ | with_reducible refine Below.drew ?_ | with_reducible refine bt3 ?_))) hb3; clear hn2; clear hb3)
          | (go_at_call 51; with_reducible refine (times_nv3 t3 t3 T T _ (ht3.on (by (repeat (first | exact Below.refl _ _ | with_reducible refine bel ?_ | with_reducible refine Below.drew ?_ | with_reducible refine bt3 ?_)))) (ht3.on (by (repeat (first | exact Below.refl _ _ | with_reducible refine bel ?_ | with_reducible refine Below.drew ?_ | with_reducible refine bt3 ?_)))) HTL.out HTL.out).mono ?_; rintro e w4 ⟨⟨s4, rfl, hs4⟩, hb4⟩; replace HB : Below w.heap.size w w4 := bt2 hb4 (by (repeat (first | exact HB | exact Below.refl _ _ | with_reducible refine bel ?_ | with_reducible refine Below.drew ?_ | with_reducible refine bt3 ?_))); replace HV := HV.step (by (repeat (first | exact Below.refl _ _ | with_reducible refine bel ?_ | with_reducible refine Below.drew ?_ | with_reducible refine bt3 ?_))) hb4; replace HO := HO.step (by (repeat (first | exact Below.refl _ _ | with_reducible refine bel ?_ | with_reducible refine Below.drew ?_ | with_reducible refine bt3 ?_))) hb4; replace ht3 := ht3.step (by (repeat (first | exact Below.refl _ _ | with_reducible refine bel ?_ | with_reducible refine Below.drew ?_ | with_reducible refine bt3 ?_))) hb4; clear hb4)
          | (go_at_call 36; with_reducible refine (against_nv s4 v _ _ 6 _ (hs4.on (by (repeat (first | exact Below.refl _ _ | with_reducible refine bel ?_ | with_reducible refine Below.drew ?_ | with_reducible refine bt3 ?_)))) (HV.on (by (repeat (first | exact Below.refl _ _ | with_reducible refine bel ?_ | with_reducible refine Below.drew ?_ | with_reducible refine bt3 ?_)))) HTT.out HVL6.out (by decide)).mono ?_; rintro e wq ⟨rfl, mq, hq⟩; subst wq))
        go_roundw
        case rel => exact ⟨n, rfl, by omega, by rw [HN.out]; exact ht3.on (by (repeat (first | exact Below.refl _ _ | with_reducible refine bel ?_ | with_reducible refine Below.drew ?_ | with_reducible refine bt3 ?_))), (by (repeat (first | exact HB | exact Below.refl _ _ | with_reducible refine bel ?_ | with_reducible refine Below.drew ?_ | with_reducible refine bt3 ?_)))⟩
        case measure => simp [intOf]
      · have hag : decide (ag (T * T) V ≤ 0) = false := by
          have : ¬ T * T ≤ V := fun hh => hle ((HSQ.out T).1 hh)
          apply decide_eq_false
          unfold ag; split <;> (try split) <;> omega
        have hag1 : ¬ ag (T * T) V ≤ 0 := of_decide_eq_false hag
        rw [if_neg hle] at HN
        clear hle
        go_wp2_with (first
          | (go_at_call 18; with_reducible refine (nat_1 _).mono ?_; rintro e w1 ⟨⟨n1, rfl, hn1⟩, hb1⟩; replace HB : Below w.heap.size w w1 := bt2 hb1 (by (repeat (first | exact HB | exact Below.refl _ _ | with_reducible refine bel ?_ | with_reducible refine Below.drew ?_ | with_reducible refine bt3 ?_))); replace HV := HV.step (by (repeat (first | exact Below.refl _ _ | with_reducible refine bel ?_ | with_reducible refine Below.drew ?_ | with_reducible refine bt3 ?_))) hb1; replace HO := HO.step (by (repeat (first | exact Below.refl _ _ | with_reducible refine bel ?_ | with_reducible refine Below.drew ?_ | with_reducible refine bt3 ?_))) hb1; clear hb1)
          | (go_at_call 29; with_reducible refine (HUP n1 _ (hn1.on (by (repeat (first | exact Below.refl _ _ | with_reducible refine bel ?_ | with_reducible refine Below.drew ?_ | with_reducible refine bt3 ?_))))).mono ?_; rintro e w2 ⟨⟨n2, rfl, hn2⟩, hb2⟩; replace HB : Below w.heap.size w w2 := bt2 hb2 (by (repeat (first | exact HB | exact Below.refl _ _ | with_reducible refine bel ?_ | with_reducible refine Below.drew ?_ | with_reducible refine bt3 ?_))); replace HV := HV.step (by (repeat (first | exact Below.refl _ _ | with_reducible refine bel ?_ | with_reducible refine Below.drew ?_ | with_reducible refine bt3 ?_))) hb2; replace HO := HO.step (by (repeat (first | exact Below.refl _ _ | with_reducible refine bel ?_ | with_reducible refine Below.drew ?_ | with_reducible refine bt3 ?_))) hb2; clear hn1; clear hb2)
          | (go_at_call 28; with_reducible refine (plus_nv u4 n2 _ _ 3 _ (HO.on (by (repeat (first | exact Below.refl _ _ | with_reducible refine bel ?_ | with_reducible refine Below.drew ?_ | with_reducible refine bt3 ?_)))) (hn2.on (by (repeat (first | exact Below.refl _ _ | with_reducible refine bel ?_ | with_reducible refine Below.drew ?_ | with_reducible refine bt3 ?_)))) HOL.out HML.out (by decide)).mono ?_; rintro e w3 ⟨⟨t3, rfl, ht3⟩, hb3⟩; rw [HT.out] at ht3; replace HB : Below w.heap.size w w3 := bt2 hb3 (by (repeat (first | exact HB | exact Below.refl _ _ | with_reducible refine bel ?_ | with_reducible refine Below.drew ?_ | with_reducible refine bt3 ?_))); replace HV := HV.step (by (repeat (first | exact Below.refl _ _ | with_reducible refine bel ?_ | with_reducible refine Below.drew ?_ | with_reducible refine bt3 ?_))) hb3; replace HO := HO.step (by (repeat (first | exact Below.refl _ _ | with_reducible refine bel ?_ | with_reducible refine Below.drew ?_ | with_reducible refine bt3 ?_))) hb3; clear hn2; clear hb3)
          | (go_at_call 51; with_reducible refine (times_nv3 t3 t3 T T _ (ht3.on (by (repeat (first | exact Below.refl _ _ | with_reducible refine bel ?_ | with_reducible refine Below.drew ?_ | with_reducible refine bt3 ?_)))) (ht3.on (by (repeat (first | exact Below.refl _ _ | with_reducible refine bel ?_ | with_reducible refine Below.drew ?_ | with_reducible refine bt3 ?_)))) HTL.out HTL.out).mono ?_; rintro e w4 ⟨⟨s4, rfl, hs4⟩, hb4⟩; replace HB : Below w.heap.size w w4 := bt2 hb4 (by (repeat (first | exact HB | exact Below.refl _ _ | with_reducible refine bel ?_ | with_reducible refine Below.drew ?_ | with_reducible refine bt3 ?_))); replace HV := HV.step (by (repeat (first | exact Below.refl _ _ | with_reducible refine bel ?_ | with_reducible refine Below.drew ?_ | with_reducible refine bt3 ?_))) hb4; replace HO := HO.step (by (repeat (first | exact Below.refl _ _ | with_reducible refine bel ?_ | with_reducible refine Below.drew ?_ | with_reducible refine bt3 ?_))) hb4; replace ht3 := ht3.step (by (repeat (first | exact Below.refl _ _ | with_reducible refine bel ?_ | with_reducible refine Below.drew ?_ | with_reducible refine bt3 ?_))) hb4; clear hb4)
          | (go_at_call 36; with_reducible refine (against_nv s4 v _ _ 6 _ (hs4.on (by (repeat (first | exact Below.refl _ _ | with_reducible refine bel ?_ | with_reducible refine Below.drew ?_ | with_reducible refine bt3 ?_)))) (HV.on (by (repeat (first | exact Below.refl _ _ | with_reducible refine bel ?_ | with_reducible refine Below.drew ?_ | with_reducible refine bt3 ?_)))) HTT.out HVL6.out (by decide)).mono ?_; rintro e wq ⟨rfl, mq, hq⟩; subst wq))
        go_roundw
        case rel => exact ⟨n, rfl, by omega, by rw [HN.out]; exact HO.on (by (repeat (first | exact Below.refl _ _ | with_reducible refine bel ?_ | with_reducible refine Below.drew ?_ | with_reducible refine bt3 ?_))), (by (repeat (first | exact HB | exact Below.refl _ _ | with_reducible refine bel ?_ | with_reducible refine Below.drew ?_ | with_reducible refine bt3 ?_)))⟩
        case measure => simp [intOf]
end Go.Proofs.Ytkmefmgicbohnaa
namespace Go.Proofs.Ytkmefmgicbohnaa
open Go.RowKit

theorem pow_lt_of {x y A B : Nat} (hx : x * 2 ^ A < y * 2 ^ B) {p q : Nat} (h1 : 2 ^ p ≤ x) (h2 : y ≤ 2 ^ q) : p + A < q + B := by
  have a1 : 2 ^ (p + A) ≤ x * 2 ^ A := by rw [Nat.pow_add]; exact Nat.mul_le_mul_right _ h1
  have a2 : y * 2 ^ B ≤ 2 ^ (q + B) := by rw [Nat.pow_add]; exact Nat.mul_le_mul_right _ h2
  exact (Nat.pow_lt_pow_iff_right (a := 2) (by decide)).1 (Nat.lt_of_le_of_lt a1 (Nat.lt_of_lt_of_le hx a2))
theorem pow_le_of {x y A B : Nat} (hx : x * 2 ^ A ≤ y * 2 ^ B) {p q : Nat} (h1 : 2 ^ p ≤ x) (h2 : y < 2 ^ q) : p + A < q + B := by
  have a1 : 2 ^ (p + A) ≤ x * 2 ^ A := by rw [Nat.pow_add]; exact Nat.mul_le_mul_right _ h1
  have a2 : y * 2 ^ B < 2 ^ (q + B) := by rw [Nat.pow_add]; exact Nat.mul_lt_mul_of_pos_right h2 (Nat.two_pow_pos _)
  exact (Nat.pow_lt_pow_iff_right (a := 2) (by decide)).1 (Nat.lt_of_le_of_lt (Nat.le_trans a1 hx) a2)
/-- a step above a rung of binary64 is small -/
theorem step64 (g : Nat) (hg : 4503599627370496 ≤ vl 4503599627370496 g) : ∃ s, vl 4503599627370496 (g + 1) = vl 4503599627370496 g + s ∧ 4503599627370496 * s ≤ vl 4503599627370496 g ∧ ∀ g', g' + 1 = g → vl 4503599627370496 g ≤ vl 4503599627370496 g' + s := by
  obtain ⟨q, k, rfl, h1, h2⟩ := rung_form 4503599627370496 (by decide) g
  have v0 := vl_at 4503599627370496 (by decide) q k h1 (by omega)
  have v1 := vl_at 4503599627370496 (by decide) q (k + 1) (by omega) (by omega)
  refine ⟨2 ^ q, by rw [Nat.add_assoc, v1, v0, Nat.add_mul, Nat.one_mul], ?_, fun g' hg' => ?_⟩
  · rw [v0] at hg ⊢
    rcases h1 with rfl | h1
    · omega
    · exact Nat.mul_le_mul_right _ h1
  · rw [v0]
    by_cases hk : q = 0 ∨ 4503599627370496 ≤ k - 1
    · have hk1 : 1 ≤ k := by
        rcases h1 with rfl | h1
        · rw [v0, Nat.pow_zero, Nat.mul_one] at hg; omega
        · omega
      have : g' = q * 4503599627370496 + (k - 1) := by omega
      rw [this, vl_at 4503599627370496 (by decide) q (k - 1) hk (by omega)]
      obtain ⟨j, rfl⟩ : ∃ j, k = j + 1 := ⟨k - 1, by omega⟩
      rw [Nat.add_sub_cancel, Nat.add_mul, Nat.one_mul]; exact Nat.le_refl _
    · have hk2 : k = 4503599627370496 := by omega
      obtain ⟨p, rfl⟩ : ∃ p, q = p + 1 := ⟨q - 1, by omega⟩
      have : g' = p * 4503599627370496 + 9007199254740991 := by omega
      rw [this, vl_at 4503599627370496 (by decide) p 9007199254740991 (Or.inr (by decide)) (by decide), hk2, Nat.pow_succ]
      omega
theorem sq_mul (G e : Nat) : G * 2 ^ e * (G * 2 ^ e) = G * G * 2 ^ (2 * e) := by
  rw [Nat.mul_mul_mul_comm, ← Nat.pow_add, Nat.two_mul]
theorem sticky_lt {n G : Nat} (h : sticky n < 2 * G) : n < G * G := by
  unfold sticky at h
  have h1 := isq_gt n
  have h2 : isq n + 1 ≤ G := by omega
  exact Nat.lt_of_lt_of_le h1 (Nat.mul_le_mul h2 h2)
theorem sticky_gt {n G : Nat} (h : 2 * G < sticky n) : G * G < n := by
  unfold sticky at h
  have h1 := isq_le n
  have b1 : (isq n * isq n != n).toNat ≤ 1 := by cases (isq n * isq n != n) <;> decide
  by_cases e : isq n = G
  · subst e
    by_cases e2 : isq n * isq n = n
    · have e3 : (isq n * isq n != n) = false := by simp [e2]
      rw [e3] at h
      simp at h
    · omega
  · have h2 : G + 1 ≤ isq n := by omega
    have h3 := Nat.mul_le_mul h2 h2
    have h4 : (G + 1) * (G + 1) = G * G + 2 * G + 1 := by rw [Nat.add_mul, Nat.mul_add]; omega
    omega
/-- held against what has 25 digits, two roundings of a root do no harm -/
theorem core (n e β f rd g : Nat) (h1 : 2 ^ 108 ≤ n) (h2 : n < 2 ^ 110) (hm : ∃ c, n = c * 2 ^ 58) (hN : Near 4503599627370496 0 (sticky n * 2 ^ e) rd) (hg : vl 4503599627370496 g = β * 2 ^ f) (hβ : β < 2 ^ 25) (hβ0 : 0 < β) (hf : 52 ≤ f) (hfe : e + 1 ≤ f) :
    (vl 4503599627370496 rd < β * 2 ^ f → n * 2 ^ (2 * e) < β * 2 ^ (f - 1) * (β * 2 ^ (f - 1))) ∧ (β * 2 ^ f < vl 4503599627370496 rd → β * 2 ^ (f - 1) * (β * 2 ^ (f - 1)) < n * 2 ^ (2 * e)) ∧ (vl 4503599627370496 rd = β * 2 ^ f → n * 2 ^ (2 * e) = β * 2 ^ (f - 1) * (β * 2 ^ (f - 1))) := by
  obtain ⟨u, hu⟩ : ∃ u, f = e + 1 + u := ⟨f - (e + 1), by omega⟩
  have hst := sticky_bounds (k := 54) h1 h2
  have hpe := Nat.two_pow_pos e
  have hpe2 := Nat.two_pow_pos (2 * e)
  obtain ⟨G, hG⟩ : ∃ G, G = β * 2 ^ u := ⟨_, rfl⟩
  have eB : β * 2 ^ f = 2 * G * 2 ^ e := by
    rw [hG, hu, show e + 1 + u = u + 1 + e by omega, Nat.pow_add, Nat.pow_succ, ← Nat.mul_assoc, ← Nat.mul_assoc, Nat.mul_comm _ 2, Nat.mul_assoc 2]
  have eB' : β * 2 ^ (f - 1) = G * 2 ^ e := by
    rw [hG, hu, show e + 1 + u - 1 = u + e by omega, Nat.pow_add, Nat.mul_assoc]
  rw [eB', sq_mul, eB]
  rw [eB] at hg
  obtain ⟨⟨n1, -⟩, n3⟩ := hN
  rw [Nat.pow_zero, Nat.mul_one] at n1
  have mono := fun {x y : Nat} (h : x < y) => vl_lt 4503599627370496 (by decide) h
  have moni := fun {x y : Nat} (h : x ≤ y) => vl_le 4503599627370496 (by decide) h
  refine ⟨fun h => ?_, fun h => ?_, fun h => ?_⟩
  · have hlt : rd < g := by
      apply Nat.lt_of_not_le
      intro hle
      have := moni hle
      omega
    have := moni (show rd + 1 ≤ g by omega)
    have h3 : sticky n * 2 ^ e < 2 * G * 2 ^ e := by omega
    exact Nat.mul_lt_mul_of_pos_right (sticky_lt (Nat.lt_of_mul_lt_mul_right h3)) hpe2
  · have hlt : g < rd := by
      apply Nat.lt_of_not_le
      intro hle
      have := moni hle
      omega
    obtain ⟨r', hr'⟩ : ∃ r', r' + 1 = rd := ⟨rd - 1, by omega⟩
    have h4 := (n3 r' hr').1
    rw [Nat.pow_zero, Nat.mul_one] at h4
    have := moni (show g ≤ r' by omega)
    have h3 : 2 * G * 2 ^ e < sticky n * 2 ^ e := by omega
    exact Nat.mul_lt_mul_of_pos_right (sticky_gt (Nat.lt_of_mul_lt_mul_right h3)) hpe2
  · have hrd : rd = g := by
      rcases Nat.lt_trichotomy rd g with h' | h' | h'
      · have := mono h'; omega
      · exact h'
      · have := mono h'; omega
    subst hrd
    have hbig : 4503599627370496 ≤ vl 4503599627370496 rd := by
      rw [hg, ← eB]
      have a1 : 2 ^ 52 ≤ 2 ^ f := Nat.pow_le_pow_right (by decide) hf
      have a2 : 2 ^ f ≤ β * 2 ^ f := Nat.le_mul_of_pos_left _ hβ0
      omega
    obtain ⟨s, s1, s2, s3⟩ := step64 rd hbig
    have hG0 : 0 < G := by rw [hG]; exact Nat.mul_pos hβ0 (Nat.two_pow_pos _)
    have hrd0 : 0 < rd := by
      rcases Nat.eq_zero_or_pos rd with e0 | e0
      · rw [e0, show vl 4503599627370496 0 = 0 from rfl] at hbig; omega
      · exact e0
    obtain ⟨r', hr'⟩ : ∃ r', r' + 1 = rd := ⟨rd - 1, by omega⟩
    have h4 := (n3 r' hr').1
    rw [Nat.pow_zero, Nat.mul_one] at h4
    have s3' := s3 r' hr'
    rw [s1, hg] at n1
    rw [hg] at h4 s2 s3'
    -- both sides, in units
    have up : 4503599627370496 * (2 * (sticky n * 2 ^ e)) ≤ 4503599627370496 * (4 * G * 2 ^ e) + 2 * G * 2 ^ e := by
      have : 4 * G * 2 ^ e = 2 * (2 * G * 2 ^ e) := by rw [show 4 * G = 2 * (2 * G) by omega, Nat.mul_assoc 2]
      rw [this]; omega
    have dn : 4503599627370496 * (4 * G * 2 ^ e) ≤ 4503599627370496 * (2 * (sticky n * 2 ^ e)) + 2 * G * 2 ^ e := by
      have : 4 * G * 2 ^ e = 2 * (2 * G * 2 ^ e) := by rw [show 4 * G = 2 * (2 * G) by omega, Nat.mul_assoc 2]
      rw [this]; omega
    have up2 : 4503599627370496 * (2 * sticky n) ≤ 4503599627370496 * (4 * G) + 2 * G := by
      refine Nat.le_of_mul_le_mul_right (c := 2 ^ e) ?_ hpe
      rw [Nat.add_mul, Nat.mul_assoc, Nat.mul_assoc 4503599627370496, Nat.mul_assoc 2 (sticky n)]; exact up
    have dn2 : 4503599627370496 * (4 * G) ≤ 4503599627370496 * (2 * sticky n) + 2 * G := by
      refine Nat.le_of_mul_le_mul_right (c := 2 ^ e) ?_ hpe
      rw [Nat.add_mul, Nat.mul_assoc, Nat.mul_assoc 4503599627370496, Nat.mul_assoc 2 (sticky n)]; exact dn
    clear up dn
    have hGlo : 18014398509481900 ≤ G := by omega
    have hGhi : G ≤ 36028797018963980 := by omega
    -- how many noughts it ends with
    have hu30 : 30 ≤ u := by
      apply Nat.le_of_not_lt
      intro hlt
      have a1 : 2 ^ u ≤ 2 ^ 29 := Nat.pow_le_pow_right (by decide) (by omega)
      have a2 : G ≤ (2 ^ 25 - 1) * 2 ^ 29 := by rw [hG]; exact Nat.mul_le_mul (by omega) a1
      omega
    obtain ⟨v, hv⟩ : ∃ v, u = v + 30 := ⟨u - 30, by omega⟩
    obtain ⟨γ, hγ⟩ : ∃ γ, G = γ * 1073741824 := ⟨β * 2 ^ v, by rw [hG, hv, Nat.pow_add, ← Nat.mul_assoc]⟩
    have hGG : G * G = γ * γ * 4 * 2 ^ 58 := by
      rw [hγ, Nat.mul_mul_mul_comm]; omega
    obtain ⟨c, hc⟩ := hm
    have i1 := isq_le n
    have i2 := isq_gt n
    have b1 : (isq n * isq n != n).toNat ≤ 1 := by cases (isq n * isq n != n) <;> decide
    have hsd : sticky n = 2 * isq n + (isq n * isq n != n).toNat := rfl
    have hGn : G * G = n := by
      apply Classical.byContradiction
      intro hne
      generalize hX : γ * γ * 4 = X at hGG
      rcases Nat.lt_or_gt_of_ne hne with hlt | hgt
      · -- the root would be greater
        have hd : G * G + 2 ^ 58 ≤ n := by omega
        have h55 : G < 2 ^ 55 := sq_lt (Nat.lt_trans hlt (Nat.lt_of_lt_of_eq h2 (by decide)))
        have hGs : G ≤ 36028797018963966 := by omega
        have hq : (G + 4) * (G + 4) = G * G + 8 * G + 16 := by rw [Nat.add_mul, Nat.mul_add]; omega
        have h6 : (G + 4) * (G + 4) ≤ n := by omega
        have h7 := sq_lt (Nat.lt_of_le_of_lt h6 i2)
        omega
      · have hd : n + 2 ^ 58 ≤ G * G := by omega
        have hGs : G ≤ 36028797018963968 := by omega
        obtain ⟨w, hw⟩ : ∃ w, G = w + 4 := ⟨G - 4, by omega⟩
        have hq : (w + 4) * (w + 4) = w * w + 8 * w + 16 := by rw [Nat.add_mul, Nat.mul_add]; omega
        rw [hw, hq] at hd
        have h6 : n < w * w := by omega
        have h7 := sq_lt (Nat.lt_of_le_of_lt i1 h6)
        omega
    rw [hGn]
end Go.Proofs.Ytkmefmgicbohnaa
namespace Go.Proofs.Ytkmefmgicbohnaa
open Go.RowKit

theorem sticky_of_lt {n G : Nat} (h : n < G * G) : sticky n < 2 * G := by
  unfold sticky
  have h1 := isq_le n
  have h2 : isq n < G := sq_lt (by omega)
  have b1 : (isq n * isq n != n).toNat ≤ 1 := by cases (isq n * isq n != n) <;> decide
  omega
theorem sticky_of_gt {n G : Nat} (h : G * G < n) : 2 * G < sticky n := by
  unfold sticky
  have h1 := isq_gt n
  have h2 : G < isq n + 1 := sq_lt (by omega)
  by_cases e : isq n = G
  · rw [e, show (G * G != n) = true by simp; omega]
    show 2 * G < 2 * G + 1
    omega
  · omega
theorem sticky_of_eq {n G : Nat} (h : n = G * G) : sticky n = 2 * G := by
  have h1 := isq_le n
  have h2 := isq_gt n
  have h3 : isq n = G := by
    have a1 : isq n < G + 1 := by
      apply sq_lt
      have e : (G + 1) * (G + 1) = G * G + 2 * G + 1 := by rw [Nat.add_mul, Nat.mul_add]; omega
      omega
    have a2 : G < isq n + 1 := sq_lt (by omega)
    omega
  unfold sticky
  rw [h3, show (G * G != n) = false by simp; omega]
  rfl
theorem rung_any64 (m k : Nat) (h0 : 0 < m) (hm : m < 2 ^ 25) (hk : 52 ≤ k) : ∃ r, vl 4503599627370496 r = m * 2 ^ k := by
  have hlt : m < 2 ^ (m.log2 + 1) := Nat.lt_log2_self
  have hge : 2 ^ m.log2 ≤ m := Nat.log2_self_le (by omega)
  have hL := log_lt (n := m) (k := 25) (by decide) hm
  generalize m.log2 = L at *
  obtain ⟨j, hj⟩ : ∃ j, j = 52 - L := ⟨_, rfl⟩
  have e1 : (4503599627370496 : Nat) ≤ m * 2 ^ j := by
    have : 2 ^ (L + j) ≤ m * 2 ^ j := by rw [Nat.pow_add]; exact Nat.mul_le_mul_right _ hge
    rw [show L + j = 52 by omega] at this; exact this
  have e2 : m * 2 ^ j < 2 * 4503599627370496 := by
    have : m * 2 ^ j < 2 ^ (L + 1 + j) := by rw [Nat.pow_add]; exact Nat.mul_lt_mul_of_pos_right hlt (Nat.two_pow_pos _)
    rw [show L + 1 + j = 53 by omega] at this; exact this
  refine ⟨(k - j) * 4503599627370496 + m * 2 ^ j, ?_⟩
  rw [vl_at 4503599627370496 (by decide) (k - j) (m * 2 ^ j) (Or.inr e1) (by omega), Nat.mul_assoc, ← Nat.pow_add]
  congr 2; omega
/-- the rounding to binary64 keeps the order to a middle of binary32 -/
theorem keep_mid (n e β f rd : Nat) (h1 : 2 ^ 108 ≤ n) (h2 : n < 2 ^ 110) (hm : ∃ c, n = c * 2 ^ 58) (hN : Near 4503599627370496 0 (sticky n * 2 ^ e) rd) (hβ : β < 2 ^ 25) (hβ0 : 0 < β) (hf : 52 ≤ f) (hfe : e + 1 ≤ f) :
    (vl 4503599627370496 rd < β * 2 ^ f ↔ sticky n * 2 ^ e < β * 2 ^ f) ∧ (vl 4503599627370496 rd = β * 2 ^ f ↔ sticky n * 2 ^ e = β * 2 ^ f) := by
  obtain ⟨g, hg⟩ := rung_any64 β f hβ0 hβ hf
  obtain ⟨c1, c2, c3⟩ := core n e β f rd g h1 h2 hm hN hg hβ hβ0 hf hfe
  obtain ⟨u, hu⟩ : ∃ u, f = e + 1 + u := ⟨f - (e + 1), by omega⟩
  have hpe := Nat.two_pow_pos e
  have hpe2 := Nat.two_pow_pos (2 * e)
  have e1 : β * 2 ^ (f - 1) = β * 2 ^ u * 2 ^ e := by rw [Nat.mul_assoc, ← Nat.pow_add]; congr 2; omega
  have e2 : β * 2 ^ f = 2 * (β * 2 ^ u) * 2 ^ e := by
    rw [hu, show e + 1 + u = u + e + 1 by omega, Nat.pow_succ, Nat.pow_add]
    rw [Nat.mul_comm (2 ^ u * 2 ^ e) 2, ← Nat.mul_assoc, ← Nat.mul_assoc, Nat.mul_comm β 2, Nat.mul_assoc 2 β (2 ^ u)]
  rw [e1, sq_mul] at c1 c2 c3
  generalize β * 2 ^ u = G at *
  have k1 : n * 2 ^ (2 * e) < G * G * 2 ^ (2 * e) → sticky n * 2 ^ e < 2 * G * 2 ^ e := fun h =>
    Nat.mul_lt_mul_of_pos_right (sticky_of_lt (Nat.lt_of_mul_lt_mul_right h)) hpe
  have k2 : G * G * 2 ^ (2 * e) < n * 2 ^ (2 * e) → 2 * G * 2 ^ e < sticky n * 2 ^ e := fun h =>
    Nat.mul_lt_mul_of_pos_right (sticky_of_gt (Nat.lt_of_mul_lt_mul_right h)) hpe
  have k3 : n * 2 ^ (2 * e) = G * G * 2 ^ (2 * e) → sticky n * 2 ^ e = 2 * G * 2 ^ e := fun h => by
    rw [sticky_of_eq (Nat.eq_of_mul_eq_mul_right hpe2 h)]
  rw [e2] at c1 c2 c3 ⊢
  generalize vl 4503599627370496 rd = X at *
  generalize sticky n * 2 ^ e = Y at *
  generalize 2 * G * 2 ^ e = Z at *
  rcases Nat.lt_trichotomy X Z with h | h | h
  · have := k1 (c1 h); omega
  · have := k3 (c3 h); omega
  · have := k2 (c2 h); omega
/-- the middle of two rungs of binary32 -/
theorem mid_form (r : Nat) : ∃ β q, vl 8388608 r + vl 8388608 (r + 1) = β * 2 ^ q ∧ 0 < β ∧ β < 2 ^ 25 ∧ r / 8388608 ≤ q + 1 := by
  obtain ⟨q, k, rfl, h1, h2⟩ := rung_form 8388608 (by decide) r
  refine ⟨2 * k + 1, q, ?_, by omega, by have : (2 : Nat) ^ 25 = 33554432 := rfl; omega, by omega⟩
  rw [vl_at 8388608 (by decide) q k h1 (by omega), Nat.add_assoc, vl_at 8388608 (by decide) q (k + 1) (by omega) (by omega), ← Nat.add_mul]
  congr 1; omega
theorem mid_up (r : Nat) : ∃ β q, vl 8388608 r + vl 8388608 (r + 1) = β * 2 ^ q ∧ β < 2 ^ 25 ∧ q ≤ r / 8388608 := by
  obtain ⟨q, k, rfl, h1, h2⟩ := rung_form 8388608 (by decide) r
  refine ⟨2 * k + 1, q, ?_, by have : (2 : Nat) ^ 25 = 33554432 := rfl; omega, by omega⟩
  rw [vl_at 8388608 (by decide) q k h1 (by omega), Nat.add_assoc, vl_at 8388608 (by decide) q (k + 1) (by omega) (by omega), ← Nat.add_mul]
  congr 1; omega
theorem vl_ge (n e rd : Nat) (h1 : 2 ^ 108 ≤ n) (h2 : n < 2 ^ 110) (hN : Near 4503599627370496 0 (sticky n * 2 ^ e) rd) : 2 ^ (54 + e) ≤ vl 4503599627370496 rd := by
  obtain ⟨s1, -⟩ := sticky_bounds (k := 54) h1 h2
  obtain ⟨g, hg⟩ := rung_any64 1 (54 + e) (by decide) (by decide) (by omega)
  have hs := near_self 4503599627370496 0 g (by decide)
  rw [Nat.pow_zero, Nat.mul_one, hg, Nat.one_mul] at hs
  have hle : 2 ^ (54 + e) ≤ sticky n * 2 ^ e := by
    rw [Nat.pow_add]
    exact Nat.mul_le_mul_right _ (Nat.le_trans (Nat.pow_le_pow_right (by decide) (by decide)) s1)
  have := vl_le 4503599627370496 (by decide) (hs.mono (by decide) hN hle)
  rw [hg, Nat.one_mul] at this
  exact this
theorem keep_near (n e rd rs d : Nat) (hd : 60 ≤ d) (h1 : 2 ^ 108 ≤ n) (h2 : n < 2 ^ 110) (hm : ∃ c, n = c * 2 ^ 58) (hN : Near 4503599627370496 0 (sticky n * 2 ^ e) rd) (hn2 : Near 8388608 d (vl 4503599627370496 rd) rs) :
    Near 8388608 d (sticky n * 2 ^ e) rs := by
  have hge := vl_ge n e rd h1 h2 hN
  obtain ⟨⟨u1, u2⟩, u3⟩ := hn2
  have hdd : ∀ q, 2 ^ q * 2 ^ d = 2 * 2 ^ (q + d - 1) := fun q => by rw [← Nat.pow_add, ← Nat.pow_succ']; congr 1; omega
  -- how fine the unit is
  obtain ⟨β0, q0, m0, hβ0, hq0⟩ := mid_up rs
  have hfine : e + 30 ≤ q0 + d := by
    rw [m0, Nat.mul_assoc, ← Nat.pow_add] at u1
    have : 1 * 2 ^ (54 + e + 1) ≤ β0 * 2 ^ (q0 + d) := by
      rw [Nat.one_mul, Nat.pow_succ]; omega
    have := pow_le_of this (p := 0) (q := 25) (by decide) hβ0
    omega
  have each : ∀ r, rs / 8388608 ≤ r / 8388608 + 1 → ((2 * vl 4503599627370496 rd ≤ (vl 8388608 r + vl 8388608 (r + 1)) * 2 ^ d ↔ 2 * (sticky n * 2 ^ e) ≤ (vl 8388608 r + vl 8388608 (r + 1)) * 2 ^ d) ∧ (2 * vl 4503599627370496 rd = (vl 8388608 r + vl 8388608 (r + 1)) * 2 ^ d ↔ 2 * (sticky n * 2 ^ e) = (vl 8388608 r + vl 8388608 (r + 1)) * 2 ^ d)) := by
    intro r hr
    obtain ⟨β, q, hm1, hb0, hb1, hq⟩ := mid_form r
    obtain ⟨k1, k2⟩ := keep_mid n e β (q + d - 1) rd h1 h2 hm hN hb1 hb0 (by omega) (by omega)
    rw [hm1, Nat.mul_assoc, hdd, Nat.mul_left_comm]
    generalize β * 2 ^ (q + d - 1) = Z at *
    omega
  refine ⟨⟨(each rs (by omega)).1.1 u1, fun h => u2 ((each rs (by omega)).2.2 h)⟩, fun r' hr' => ?_⟩
  subst hr'
  obtain ⟨l1, l2⟩ := u3 r' rfl
  obtain ⟨a1, a2⟩ := each r' (by omega)
  refine ⟨?_, fun h => l2 (a2.2 h.symm).symm⟩
  omega
end Go.Proofs.Ytkmefmgicbohnaa
namespace Go.Proofs.Ytkmefmgicbohnaa
open Go.RowKit

theorem rdq (a : Nat) (h : a < 2139095040) : rdm a * 2 ^ rdk a = val a ∧ rdm a < 16777216 ∧ rdk a ≤ 253 := by
  unfold rdm rdk val
  rw [Nat.mod_eq_of_lt (show a < 2147483648 by omega)]
  split
  · exact ⟨by simp, by omega, by omega⟩
  · exact ⟨rfl, by omega, by omega⟩
theorem isq_shift (n t : Nat) : isq (n * 2 ^ (2 * t)) / 2 ^ t = isq n := by
  have hp := Nat.two_pow_pos t
  have hp2 := Nat.two_pow_pos (2 * t)
  have h1 := isq_le (n * 2 ^ (2 * t))
  generalize hS : isq (n * 2 ^ (2 * t)) = S at *
  apply Nat.le_antisymm
  · rw [← sq_le_iff]
    have h3 : S / 2 ^ t * 2 ^ t ≤ S := Nat.div_mul_le_self _ _
    have h4 := Nat.le_trans (Nat.mul_le_mul h3 h3) h1
    rw [sq_mul] at h4
    exact Nat.le_of_mul_le_mul_right h4 hp2
  · rw [Nat.le_div_iff_mul_le hp, ← hS, ← sq_le_iff, sq_mul]
    exact Nat.mul_le_mul_right _ (isq_le n)
theorem mark_shift (n t V S : Nat) (hV : V = n * 2 ^ (2 * t)) (hS : isq V = S) :
    (2 * S + (S * S != V).toNat) / 2 ^ (t + 1) = isq n ∧ ((2 * S + (S * S != V).toNat) % 2 ^ (t + 1) != 0).toNat = (isq n * isq n != n).toNat := by
  have hp := Nat.two_pow_pos t
  have hp2 := Nat.two_pow_pos (2 * t)
  have hq := isq_shift n t
  rw [← hV, hS] at hq
  obtain ⟨m, hm⟩ : ∃ m, (S * S != V).toNat = m := ⟨_, rfl⟩
  have hm1 : m ≤ 1 := by rw [← hm]; cases (S * S != V) <;> decide
  rw [hm]
  constructor
  · rw [Nat.pow_succ', ← Nat.div_div_eq_div_mul, show (2 * S + m) / 2 = S by omega, hq]
  · by_cases hn : isq n * isq n = n
    · have e1 : (isq n * isq n != n) = false := by simp [hn]
      have hSS : S = isq n * 2 ^ t := by
        have h1 : isq n * 2 ^ t ≤ S := by rw [← hq]; exact Nat.div_mul_le_self _ _
        have h2 : S * S ≤ V := by rw [← hS]; exact isq_le V
        have h3 : V = isq n * 2 ^ t * (isq n * 2 ^ t) := by rw [sq_mul, hn, hV]
        rw [h3] at h2
        have : S < isq n * 2 ^ t + 1 := sq_lt (by
          have e : (isq n * 2 ^ t + 1) * (isq n * 2 ^ t + 1) = isq n * 2 ^ t * (isq n * 2 ^ t) + 2 * (isq n * 2 ^ t) + 1 := by
            generalize isq n * 2 ^ t = y
            rw [Nat.add_mul, Nat.mul_add]; omega
          omega)
        omega
      have hm0 : m = 0 := by
        rw [← hm]
        have : S * S = V := by rw [hSS, sq_mul, hn, hV]
        simp [this]
      rw [e1, hm0, Nat.add_zero, hSS, Nat.pow_succ', ← Nat.mul_assoc, Nat.mul_comm 2 (isq n), Nat.mul_assoc, Nat.mul_mod_left]
      rfl
    · have e1 : (isq n * isq n != n) = true := by simp [hn]
      rw [e1]
      have : (2 * S + m) % 2 ^ (t + 1) ≠ 0 := by
        intro h0
        have hd := Nat.div_add_mod (2 * S + m) (2 ^ (t + 1))
        rw [h0, Nat.add_zero, Nat.pow_succ', Nat.mul_assoc] at hd
        have hm0 : m = 0 := by omega
        have hSV : S * S = V := by
          have : (S * S != V) = false := by
            cases h : (S * S != V)
            · rfl
            · rw [h, hm0] at hm; cases hm
          simpa using this
        obtain ⟨x, hx⟩ : ∃ x, S = x * 2 ^ t := ⟨(2 * S + m) / (2 * 2 ^ t), by rw [Nat.mul_comm]; omega⟩
        rw [hx, sq_mul, hV] at hSV
        have hxn : x * x = n := Nat.eq_of_mul_eq_mul_right hp2 hSV
        apply hn
        have : isq n = x := by
          apply Nat.le_antisymm
          · have := isq_le n
            rw [← hxn] at this
            have h5 : isq (x * x) < x + 1 := sq_lt (by
              have e : (x + 1) * (x + 1) = x * x + 2 * x + 1 := by rw [Nat.add_mul, Nat.mul_add]; omega
              omega)
            rw [hxn] at h5
            omega
          · rw [← sq_le_iff]; omega
        rw [this, hxn]
      simp [this]
/-- the root of the program is the document's number, rounded once -/
theorem froot_rg (a sh : Nat) (p : Int) (h0 : 0 < a) (ha : a < 2139095040) (hs1 : 128 ≤ sh) (hs2 : sh ≤ 129) (hp : -149 + (rdk a : Int) - sh = 2 * p) (V S : Nat) (hV : rdm a * 2 ^ sh = V) (hS : isq V = S) :
    froot a = Ieee.single.word false (min (rg Ieee.single (2 * S + (S * S != V).toNat) (p - 1)) 2139095040) := by
  obtain ⟨more, E, M, K, rd, rs, vM, hE, hlo1, hhi1, hN, -, hE0, hn2, ef⟩ := froot_pos a h0 ha
  obtain ⟨va, ma, hka⟩ := rdq a ha
  obtain ⟨e, he⟩ : ∃ e : Nat, (e : Int) = E + 1073 := ⟨(E + 1073).toNat, by omega⟩
  rw [show (E + 1073).toNat = e by omega] at hN
  obtain ⟨d, hd⟩ : ∃ d : Nat, d = 925 := ⟨_, rfl⟩
  rw [← hd] at hn2 vM
  obtain ⟨n, hn⟩ : ∃ n, n = M * 2 ^ more := ⟨_, rfl⟩
  rw [← hn] at hlo1 hhi1 hN
  obtain ⟨T, hT⟩ : ∃ T, T = rdk a + 1997 := ⟨_, rfl⟩
  have R1 : n * 2 ^ (2 * e) = rdm a * 2 ^ T := by
    have e1 : n * 2 ^ (2 * e) = M * 2 ^ K * 2 ^ (1997 - d) := by
      rw [hn, Nat.mul_assoc, Nat.mul_assoc, ← Nat.pow_add, ← Nat.pow_add]; congr 2; omega
    rw [e1, vM, ← va, Nat.mul_assoc, Nat.mul_assoc, ← Nat.pow_add, ← Nat.pow_add]; congr 2; omega
  have hra : 0 < rdm a := by
    rcases Nat.eq_zero_or_pos (rdm a) with z | z
    · rw [z, Nat.zero_mul] at va
      have := val_lt h0
      rw [show val 0 = 0 from rfl] at this
      omega
    · exact z
  have ra24 : rdm a < 2 ^ 24 := ma
  have b1 := pow_le_of (Nat.le_of_eq R1) (p := 108) (q := 24) hlo1 ra24
  have b2 := pow_le_of (Nat.le_of_eq R1.symm) (p := 0) (q := 110) (show 2 ^ 0 ≤ rdm a from hra) hhi1
  have hm : ∃ c, n = c * 2 ^ 58 := by
    obtain ⟨x, hx⟩ : ∃ x, T = x + 58 + 2 * e := ⟨T - 58 - 2 * e, by omega⟩
    refine ⟨rdm a * 2 ^ x, ?_⟩
    refine Nat.eq_of_mul_eq_mul_right (Nat.two_pow_pos (2 * e)) ?_
    rw [R1, hx, Nat.pow_add, Nat.pow_add, ← Nat.mul_assoc, ← Nat.mul_assoc]
  obtain ⟨t, ht⟩ : ∃ t : Nat, (t : Int) = E - p := ⟨(E - p).toNat, by omega⟩
  have hVn : V = n * 2 ^ (2 * t) := by
    rw [← hV]
    refine Nat.eq_of_mul_eq_mul_right (Nat.two_pow_pos (T - sh)) ?_
    rw [Nat.mul_assoc, ← Nat.pow_add, show sh + (T - sh) = T by omega, ← R1, Nat.mul_assoc, ← Nat.pow_add]
    congr 2; omega
  obtain ⟨k1, k2⟩ := mark_shift n t V S hVn hS
  have hst := sticky_bounds (k := 54) hlo1 hhi1
  have hq24 : 16777216 ≤ isq n := by
    have h3 := hst.1
    unfold sticky at h3
    have b1 : (isq n * isq n != n).toNat ≤ 1 := by cases (isq n * isq n != n) <;> decide
    have : (2 : Nat) ^ (54 + 1) = 36028797018963968 := by decide
    omega
  have hrm := rg_mark (2 * S + (S * S != V).toNat) t (isq n) _ (p - 1) k1 rfl hq24
  rw [k2] at hrm
  have hrm2 : rg Ieee.single (sticky n) (E - 1) = rg Ieee.single (2 * S + (S * S != V).toNat) (p - 1) := by
    rw [← hrm, show p - 1 + (t : Int) = E - 1 by omega]; rfl
  rw [← hrm2]
  have hk := keep_near n e rd rs d (by omega) hlo1 hhi1 hm hN hn2
  have hnr := rg_near Ieee.single (by decide) (sticky n) (E - 1) d (by show (-149 : Int) ≤ _; omega)
  have e5 : (E - 1 - Ieee.single.leastPlace + (d : Nat)).toNat = e := by
    rw [show Ieee.single.leastPlace = -149 from rfl]; omega
  rw [e5] at hnr
  rw [hnr.unique (Nat.two_pow_pos 23) hk]
  exact ef
end Go.Proofs.Ytkmefmgicbohnaa
namespace Go.Proofs.Ytkmefmgicbohnaa
open Go.RowKit
theorem yF {w W : World} {sa : Int} {ma : Bool} {na pa : Int} (h : Below (((w.alloc ob).alloc (oV sa ma na pa)).alloc oz).heap.size (((w.alloc ob).alloc (oV sa ma na pa)).alloc oz) W) :
    W.cell? ⟨w.heap.size, 0, none⟩ = some (.int .i64 24) ∧ W.cell? ⟨w.heap.size, 1, none⟩ = some (.int .i64 (-149)) ∧ W.cell? ⟨w.heap.size, 2, none⟩ = some (.int .i64 104) ∧ W.cell? ⟨w.heap.size + 1, 0, none⟩ = some (.int .u8 sa) ∧ W.cell? ⟨w.heap.size + 1, 1, none⟩ = some (.bool ma) ∧ W.cell? ⟨w.heap.size + 1, 2, none⟩ = some (.int .u64 na) ∧ W.cell? ⟨w.heap.size + 1, 3, none⟩ = some (.int .i64 pa) := by
  refine ⟨?_, ?_, ?_, ?_, ?_, ?_, ?_⟩
  · refine (h.cell (p := ⟨w.heap.size, 0, none⟩) (by simp only [sz1]; omega)).trans ?_
    rw [cin _ _ _ (by simp only [sz1]; omega), cin _ _ _ (by simp only [sz1]; omega)]
    exact World.cell?_alloc_new _ _ _ _
  · refine (h.cell (p := ⟨w.heap.size, 1, none⟩) (by simp only [sz1]; omega)).trans ?_
    rw [cin _ _ _ (by simp only [sz1]; omega), cin _ _ _ (by simp only [sz1]; omega)]
    exact World.cell?_alloc_new _ _ _ _
  · refine (h.cell (p := ⟨w.heap.size, 2, none⟩) (by simp only [sz1]; omega)).trans ?_
    rw [cin _ _ _ (by simp only [sz1]; omega), cin _ _ _ (by simp only [sz1]; omega)]
    exact World.cell?_alloc_new _ _ _ _
  · refine (h.cell (p := ⟨w.heap.size + 1, 0, none⟩) (by simp only [sz1]; omega)).trans ?_
    rw [cin _ _ _ (by simp only [sz1]; omega)]
    rw [show w.heap.size + 1 = (w.alloc ob).heap.size by simp only [sz1]]
    exact World.cell?_alloc_new _ _ _ _
  · refine (h.cell (p := ⟨w.heap.size + 1, 1, none⟩) (by simp only [sz1]; omega)).trans ?_
    rw [cin _ _ _ (by simp only [sz1]; omega)]
    rw [show w.heap.size + 1 = (w.alloc ob).heap.size by simp only [sz1]]
    exact World.cell?_alloc_new _ _ _ _
  · refine (h.cell (p := ⟨w.heap.size + 1, 2, none⟩) (by simp only [sz1]; omega)).trans ?_
    rw [cin _ _ _ (by simp only [sz1]; omega)]
    rw [show w.heap.size + 1 = (w.alloc ob).heap.size by simp only [sz1]]
    exact World.cell?_alloc_new _ _ _ _
  · refine (h.cell (p := ⟨w.heap.size + 1, 3, none⟩) (by simp only [sz1]; omega)).trans ?_
    rw [cin _ _ _ (by simp only [sz1]; omega)]
    rw [show w.heap.size + 1 = (w.alloc ob).heap.size by simp only [sz1]]
    exact World.cell?_alloc_new _ _ _ _
theorem yA {w W : World} {sa : Int} {ma : Bool} {na pa : Int} (h : Below (((w.alloc ob).alloc (oV sa ma na pa)).alloc oz).heap.size (((w.alloc ob).alloc (oV sa ma na pa)).alloc oz) W) :
    W.cell? ⟨w.heap.size + 1 + 1, 0, none⟩ = some (.int .u8 0) ∧ W.cell? ⟨w.heap.size + 1 + 1, 1, none⟩ = some (.bool false) ∧ W.cell? ⟨w.heap.size + 1 + 1, 2, none⟩ = some (.int .u64 0) ∧ W.cell? ⟨w.heap.size + 1 + 1, 3, none⟩ = some (.int .i64 0) ∧ W.frozen? ⟨w.heap.size + 1 + 1, 0, none⟩ = false ∧ W.frozen? ⟨w.heap.size + 1 + 1, 1, none⟩ = false ∧ W.frozen? ⟨w.heap.size + 1 + 1, 2, none⟩ = false ∧ W.frozen? ⟨w.heap.size + 1 + 1, 3, none⟩ = false := by
  refine ⟨?_, ?_, ?_, ?_, ?_, ?_, ?_, ?_⟩
  · refine (h.cell (p := ⟨w.heap.size + 1 + 1, 0, none⟩) (by simp only [sz1]; omega)).trans ?_
    rw [show w.heap.size + 1 + 1 = ((w.alloc ob).alloc (oV sa ma na pa)).heap.size by simp only [sz1]]
    exact World.cell?_alloc_new _ _ _ _
  · refine (h.cell (p := ⟨w.heap.size + 1 + 1, 1, none⟩) (by simp only [sz1]; omega)).trans ?_
    rw [show w.heap.size + 1 + 1 = ((w.alloc ob).alloc (oV sa ma na pa)).heap.size by simp only [sz1]]
    exact World.cell?_alloc_new _ _ _ _
  · refine (h.cell (p := ⟨w.heap.size + 1 + 1, 2, none⟩) (by simp only [sz1]; omega)).trans ?_
    rw [show w.heap.size + 1 + 1 = ((w.alloc ob).alloc (oV sa ma na pa)).heap.size by simp only [sz1]]
    exact World.cell?_alloc_new _ _ _ _
  · refine (h.cell (p := ⟨w.heap.size + 1 + 1, 3, none⟩) (by simp only [sz1]; omega)).trans ?_
    rw [show w.heap.size + 1 + 1 = ((w.alloc ob).alloc (oV sa ma na pa)).heap.size by simp only [sz1]]
    exact World.cell?_alloc_new _ _ _ _
  · refine (h.frozen (p := ⟨w.heap.size + 1 + 1, 0, none⟩) (by simp only [sz1]; omega)).trans ?_
    rw [show w.heap.size + 1 + 1 = ((w.alloc ob).alloc (oV sa ma na pa)).heap.size by simp only [sz1]]
    exact World.frozen?_alloc_new _ _ _ _
  · refine (h.frozen (p := ⟨w.heap.size + 1 + 1, 1, none⟩) (by simp only [sz1]; omega)).trans ?_
    rw [show w.heap.size + 1 + 1 = ((w.alloc ob).alloc (oV sa ma na pa)).heap.size by simp only [sz1]]
    exact World.frozen?_alloc_new _ _ _ _
  · refine (h.frozen (p := ⟨w.heap.size + 1 + 1, 2, none⟩) (by simp only [sz1]; omega)).trans ?_
    rw [show w.heap.size + 1 + 1 = ((w.alloc ob).alloc (oV sa ma na pa)).heap.size by simp only [sz1]]
    exact World.frozen?_alloc_new _ _ _ _
  · refine (h.frozen (p := ⟨w.heap.size + 1 + 1, 3, none⟩) (by simp only [sz1]; omega)).trans ?_
    rw [show w.heap.size + 1 + 1 = ((w.alloc ob).alloc (oV sa ma na pa)).heap.size by simp only [sz1]]
    exact World.frozen?_alloc_new _ _ _ _
theorem yB {w W : World} {sa : Int} {ma : Bool} {na pa : Int} {a b c d : Value} (h : Below (((w.alloc ob).alloc (oV sa ma na pa)).alloc oz).heap.size (((w.alloc ob).alloc (oV sa ma na pa)).alloc oz) W) :
    Below w.heap.size w ((((W.setCell ⟨w.heap.size + 1 + 1, 0, none⟩ a).setCell ⟨w.heap.size + 1 + 1, 1, none⟩ b).setCell ⟨w.heap.size + 1 + 1, 2, none⟩ c).setCell ⟨w.heap.size + 1 + 1, 3, none⟩ d) := by
  have h1 : Below w.heap.size w W := (bel (bel (bel (Below.refl _ _)))).trans (h.mono (by simp; omega))
  exact (((h1.setCell (p := ⟨w.heap.size + 1 + 1, 0, none⟩) (by simp; omega) a).setCell (p := ⟨w.heap.size + 1 + 1, 1, none⟩) (by simp; omega) b).setCell (p := ⟨w.heap.size + 1 + 1, 2, none⟩) (by simp; omega) c).setCell (p := ⟨w.heap.size + 1 + 1, 3, none⟩) (by simp; omega) d
theorem isn1 (w : World) :
    Calls Try.prog 42 #[.agg #[.int .u8 1, .bool false, .int .u64 0, .int .i64 0]] w fun e w' => e = .returned (.bool false) ∧ Below w.heap.size w w' := by
  go_enter Try.func42, Try.ntmps42
  go_wp2
  go_ret
  exact ⟨rfl, by (repeat (first | exact Below.refl _ _ | with_reducible refine bel ?_ | with_reducible refine Below.drew ?_ | with_reducible refine bt3 ?_))⟩
set_option maxRecDepth 100000 in
set_option maxHeartbeats 4000000 in
theorem rq_n  (w : World) :
    Calls Try.prog 24 #[.agg #[.int .i64 24, .int .i64 (-149), .int .i64 104], .agg #[.int .u8 1, .bool false, .int .u64 0, .int .i64 0]] w fun e w' => e = .returned (vN) ∧ Below w.heap.size w w' := by
  have HB : Below (((w.alloc ob).alloc (oV 1 false 0 0)).alloc oz).heap.size (((w.alloc ob).alloc (oV 1 false 0 0)).alloc oz) (((w.alloc ob).alloc (oV 1 false 0 0)).alloc oz) := Below.refl _ _
  go_enter Try.func24, Try.ntmps24
  go_wp2_with (first
    | (go_at_call 42; with_reducible refine (isn1 _).mono ?_; rintro e w1 ⟨rfl, hb1⟩; replace HB := bt2 hb1 (show Below (((w.alloc ob).alloc (oV 1 false 0 0)).alloc oz).heap.size (((w.alloc ob).alloc (oV 1 false 0 0)).alloc oz) _ from by (repeat (first | exact HB | exact Below.refl _ _ | with_reducible refine bel ?_ | with_reducible refine Below.drew ?_ | with_reducible refine bt3 ?_))); obtain ⟨x0, x1, x2, x3, x4, x5, x6⟩ := yF HB; obtain ⟨r0, r1, r2, r3, q0, q1, q2, q3⟩ := yA HB))
  refine bodyPost_ret (v := vN) (by simp [results, Try.f24, go_sem, r0, r1, r2, r3]) rfl ?_
  exact ⟨rfl, yB HB⟩
set_option maxRecDepth 100000 in
set_option maxHeartbeats 4000000 in
theorem rq_z (ma : Bool) (pa : Int) (w : World) :
    Calls Try.prog 24 #[.agg #[.int .i64 24, .int .i64 (-149), .int .i64 104], .agg #[.int .u8 3, .bool ma, .int .u64 0, .int .i64 pa]] w fun e w' => e = .returned (.agg #[.int .u8 3, .bool ma, .int .u64 0, .int .i64 pa]) ∧ Below w.heap.size w w' := by
  have HB : Below (((w.alloc ob).alloc (oV 3 ma 0 pa)).alloc oz).heap.size (((w.alloc ob).alloc (oV 3 ma 0 pa)).alloc oz) (((w.alloc ob).alloc (oV 3 ma 0 pa)).alloc oz) := Below.refl _ _
  go_enter Try.func24, Try.ntmps24
  go_wp2_with (first
    | (go_at_call 42; with_reducible refine (isn3z ma pa _).mono ?_; rintro e w1 ⟨rfl, hb1⟩; replace HB := bt2 hb1 (show Below (((w.alloc ob).alloc (oV 3 ma 0 pa)).alloc oz).heap.size (((w.alloc ob).alloc (oV 3 ma 0 pa)).alloc oz) _ from by (repeat (first | exact HB | exact Below.refl _ _ | with_reducible refine bel ?_ | with_reducible refine Below.drew ?_ | with_reducible refine bt3 ?_))); obtain ⟨x0, x1, x2, x3, x4, x5, x6⟩ := yF HB; obtain ⟨r0, r1, r2, r3, q0, q1, q2, q3⟩ := yA HB))
  refine bodyPost_ret (v := .agg #[.int .u8 3, .bool ma, .int .u64 0, .int .i64 pa]) (by simp [results, Try.f24, go_sem, r0, r1, r2, r3]) rfl ?_
  exact ⟨rfl, yB HB⟩
set_option maxRecDepth 100000 in
set_option maxHeartbeats 4000000 in
theorem rq_em  (w : World) :
    Calls Try.prog 24 #[.agg #[.int .i64 24, .int .i64 (-149), .int .i64 104], .agg #[.int .u8 2, .bool true, .int .u64 0, .int .i64 0]] w fun e w' => e = .returned (vN) ∧ Below w.heap.size w w' := by
  have HB : Below (((w.alloc ob).alloc (oV 2 true 0 0)).alloc oz).heap.size (((w.alloc ob).alloc (oV 2 true 0 0)).alloc oz) (((w.alloc ob).alloc (oV 2 true 0 0)).alloc oz) := Below.refl _ _
  go_enter Try.func24, Try.ntmps24
  go_wp2_with (first
    | (go_at_call 42; with_reducible refine (isn2 true _).mono ?_; rintro e w1 ⟨rfl, hb1⟩; replace HB := bt2 hb1 (show Below (((w.alloc ob).alloc (oV 2 true 0 0)).alloc oz).heap.size (((w.alloc ob).alloc (oV 2 true 0 0)).alloc oz) _ from by (repeat (first | exact HB | exact Below.refl _ _ | with_reducible refine bel ?_ | with_reducible refine Below.drew ?_ | with_reducible refine bt3 ?_))); obtain ⟨x0, x1, x2, x3, x4, x5, x6⟩ := yF HB; obtain ⟨r0, r1, r2, r3, q0, q1, q2, q3⟩ := yA HB)
    | (go_at_call 40; with_reducible refine (vnone_b _).mono ?_; rintro e w1 ⟨rfl, hb1⟩; replace HB := bt2 hb1 (show Below (((w.alloc ob).alloc (oV 2 true 0 0)).alloc oz).heap.size (((w.alloc ob).alloc (oV 2 true 0 0)).alloc oz) _ from by (repeat (first | exact HB | exact Below.refl _ _ | with_reducible refine bel ?_ | with_reducible refine Below.drew ?_ | with_reducible refine bt3 ?_))); obtain ⟨x0, x1, x2, x3, x4, x5, x6⟩ := yF HB; obtain ⟨r0, r1, r2, r3, q0, q1, q2, q3⟩ := yA HB))
  refine bodyPost_ret (v := vN) (by simp [results, Try.f24, go_sem, r0, r1, r2, r3]) rfl ?_
  exact ⟨rfl, yB HB⟩
set_option maxRecDepth 100000 in
set_option maxHeartbeats 4000000 in
theorem rq_e  (w : World) :
    Calls Try.prog 24 #[.agg #[.int .i64 24, .int .i64 (-149), .int .i64 104], .agg #[.int .u8 2, .bool false, .int .u64 0, .int .i64 0]] w fun e w' => e = .returned (vE false) ∧ Below w.heap.size w w' := by
  have HB : Below (((w.alloc ob).alloc (oV 2 false 0 0)).alloc oz).heap.size (((w.alloc ob).alloc (oV 2 false 0 0)).alloc oz) (((w.alloc ob).alloc (oV 2 false 0 0)).alloc oz) := Below.refl _ _
  go_enter Try.func24, Try.ntmps24
  go_wp2_with (first
    | (go_at_call 42; with_reducible refine (isn2 false _).mono ?_; rintro e w1 ⟨rfl, hb1⟩; replace HB := bt2 hb1 (show Below (((w.alloc ob).alloc (oV 2 false 0 0)).alloc oz).heap.size (((w.alloc ob).alloc (oV 2 false 0 0)).alloc oz) _ from by (repeat (first | exact HB | exact Below.refl _ _ | with_reducible refine bel ?_ | with_reducible refine Below.drew ?_ | with_reducible refine bt3 ?_))); obtain ⟨x0, x1, x2, x3, x4, x5, x6⟩ := yF HB; obtain ⟨r0, r1, r2, r3, q0, q1, q2, q3⟩ := yA HB))
  refine bodyPost_ret (v := vE false) (by simp [results, Try.f24, go_sem, r0, r1, r2, r3]) rfl ?_
  exact ⟨rfl, yB HB⟩
set_option maxRecDepth 100000 in
set_option maxHeartbeats 4000000 in
theorem rq_fm (na : Nat) (pa : Int) (g : ((na : Int) == 0) = false) (w : World) :
    Calls Try.prog 24 #[.agg #[.int .i64 24, .int .i64 (-149), .int .i64 104], .agg #[.int .u8 3, .bool true, .int .u64 (na : Nat), .int .i64 pa]] w fun e w' => e = .returned (vN) ∧ Below w.heap.size w w' := by
  have HB : Below (((w.alloc ob).alloc (oV 3 true (na : Nat) pa)).alloc oz).heap.size (((w.alloc ob).alloc (oV 3 true (na : Nat) pa)).alloc oz) (((w.alloc ob).alloc (oV 3 true (na : Nat) pa)).alloc oz) := Below.refl _ _
  go_enter Try.func24, Try.ntmps24
  go_wp2_with (first
    | (go_at_call 42; with_reducible refine (isn3 true na pa _ g).mono ?_; rintro e w1 ⟨rfl, hb1⟩; replace HB := bt2 hb1 (show Below (((w.alloc ob).alloc (oV 3 true (na : Nat) pa)).alloc oz).heap.size (((w.alloc ob).alloc (oV 3 true (na : Nat) pa)).alloc oz) _ from by (repeat (first | exact HB | exact Below.refl _ _ | with_reducible refine bel ?_ | with_reducible refine Below.drew ?_ | with_reducible refine bt3 ?_))); obtain ⟨x0, x1, x2, x3, x4, x5, x6⟩ := yF HB; obtain ⟨r0, r1, r2, r3, q0, q1, q2, q3⟩ := yA HB)
    | (go_at_call 40; with_reducible refine (vnone_b _).mono ?_; rintro e w1 ⟨rfl, hb1⟩; replace HB := bt2 hb1 (show Below (((w.alloc ob).alloc (oV 3 true (na : Nat) pa)).alloc oz).heap.size (((w.alloc ob).alloc (oV 3 true (na : Nat) pa)).alloc oz) _ from by (repeat (first | exact HB | exact Below.refl _ _ | with_reducible refine bel ?_ | with_reducible refine Below.drew ?_ | with_reducible refine bt3 ?_))); obtain ⟨x0, x1, x2, x3, x4, x5, x6⟩ := yF HB; obtain ⟨r0, r1, r2, r3, q0, q1, q2, q3⟩ := yA HB))
  refine bodyPost_ret (v := vN) (by simp [results, Try.f24, go_sem, r0, r1, r2, r3]) rfl ?_
  exact ⟨rfl, yB HB⟩
set_option maxRecDepth 100000 in
set_option maxHeartbeats 4000000 in
theorem rq_f (na sh V S r : Nat) (mo : Bool) (pa p : Int) (w : World) (hna : na < 16777216) (g : ((na : Int) == 0) = false) (h1 : -149 ≤ pa) (h2 : pa ≤ 104) (hs : sh = 128 ∧ (pa - 128) % 2 = 0 ∨ sh = 129 ∧ (pa - 128) % 2 = 1) (hp : pa - sh = 2 * p) (hV : na * 2 ^ sh = V) (hS : isq V = S) (hmo : (S * S != V) = mo) (hr : rg Ieee.single (2 * S + mo.toNat) (p - 1) = r) :
    Calls Try.prog 24 #[.agg #[.int .i64 24, .int .i64 (-149), .int .i64 104], .agg #[.int .u8 3, .bool false, .int .u64 na, .int .i64 pa]] w fun e w' => (∃ n q, e = .returned (hdV false n q) ∧ Fits n q r) ∧ Below w.heap.size w w' := by
  have hVl : V < 2 ^ 160 := by
    rw [← hV]
    have a1 : na * 2 ^ sh < 2 ^ 24 * 2 ^ sh := Nat.mul_lt_mul_of_pos_right hna (Nat.two_pow_pos _)
    rw [← Nat.pow_add] at a1
    exact Nat.lt_of_lt_of_le a1 (Nat.pow_le_pow_right (by decide) (by omega))
  have HU : ∀ v w, NatV w v na → Calls Try.prog 29 #[v, .int .i64 (sh : Int)] w fun e w' => (∃ v', e = .returned v' ∧ NatV w' v' V) ∧ Below w.heap.size w w' := fun v w h => by
    have := up_nv v na sh w h (by omega) (by omega)
    rw [hV] at this
    exact this
  have hag : (ag (S * S) V != 0) = mo := by
    rw [← hmo]; unfold ag
    by_cases e1 : S * S < V
    · rw [if_pos e1, show (S * S != V) = true by simp; omega]; rfl
    · by_cases e2 : S * S = V
      · rw [if_neg e1, if_pos e2, show (S * S != V) = false by simp [e2]]; rfl
      · rw [if_neg e1, if_neg e2, show (S * S != V) = true by simp [e2]]; rfl
  have HRT : ∀ v w, NatV w v V → Calls Try.prog 46 #[v] w fun e w' => (∃ v', e = .returned (.tuple #[v', .bool mo]) ∧ NatV w' v' S) ∧ Below w.heap.size w w' := fun v w h => by
    have := root_nv v V w h hVl
    rw [hS, hag] at this
    exact this
  have hSl : S < 2 ^ (32 * 6) := by rw [← hS]; exact Nat.lt_of_lt_of_le (isq_lt80 V hVl) (Nat.pow_le_pow_right (by decide) (by decide))
  have HRD := fun v w (h : NatV w v S) => rnd_q false v S p mo r w h hSl (by omega) (by omega) hr
  have hx1 : (pa - (sh : Int)).tdiv 2 = p := by rw [hp, Int.mul_tdiv_cancel_left _ (by decide)]
  clear hV hS hmo hr hSl hag hVl
  have HB : Below (((w.alloc ob).alloc (oV 3 false (na : Nat) pa)).alloc oz).heap.size (((w.alloc ob).alloc (oV 3 false (na : Nat) pa)).alloc oz) (((w.alloc ob).alloc (oV 3 false (na : Nat) pa)).alloc oz) := Below.refl _ _
  rcases hs with ⟨rfl, hev⟩ | ⟨rfl, hod⟩
  · have hx0 : (pa - 128).tmod 2 = 0 := Int.tmod_eq_zero_of_dvd (Int.dvd_of_emod_eq_zero hev)
    clear hev
    have HU' : ∀ v w, NatV w v na → Calls Try.prog 29 #[v, .int .i64 128] w fun e w' => (∃ v', e = .returned v' ∧ NatV w' v' V) ∧ Below w.heap.size w w' := HU
    have hx2 : (pa - 128).tdiv 2 = p := hx1
    clear HU hx1
    go_enter Try.func24, Try.ntmps24
    go_wp2_with (first
      | (go_at_call 42; with_reducible refine (isn3 false na pa _ g).mono ?_; rintro e w1 ⟨rfl, hb1⟩; replace HB := bt2 hb1 (show Below (((w.alloc ob).alloc (oV 3 false (na : Nat) pa)).alloc oz).heap.size (((w.alloc ob).alloc (oV 3 false (na : Nat) pa)).alloc oz) _ from by (repeat (first | exact HB | exact Below.refl _ _ | with_reducible refine bel ?_ | with_reducible refine Below.drew ?_ | with_reducible refine bt3 ?_))); obtain ⟨x0, x1, x2, x3, x4, x5, x6⟩ := yF HB; obtain ⟨r0, r1, r2, r3, q0, q1, q2, q3⟩ := yA HB; clear hb1)
      | (go_at_call 18; with_reducible refine (nat_any na _ (by omega)).mono ?_; rintro e w2 ⟨⟨v2, rfl, hv2⟩, hb2⟩; replace HB : Below (((w.alloc ob).alloc (oV 3 false (na : Nat) pa)).alloc oz).heap.size (((w.alloc ob).alloc (oV 3 false (na : Nat) pa)).alloc oz) w2 := bt2 hb2 (by (repeat (first | exact HB | exact Below.refl _ _ | with_reducible refine bel ?_ | with_reducible refine Below.drew ?_ | with_reducible refine bt3 ?_))); clear x0 x1 x2 x3 x4 x5 x6 r0 r1 r2 r3 q0 q1 q2 q3 hb2; obtain ⟨x0, x1, x2, x3, x4, x5, x6⟩ := yF HB; obtain ⟨r0, r1, r2, r3, q0, q1, q2, q3⟩ := yA HB)
      | (go_at_call 29; with_reducible refine (HU' v2 _ (hv2.on (by (repeat (first | exact Below.refl _ _ | with_reducible refine bel ?_ | with_reducible refine Below.drew ?_ | with_reducible refine bt3 ?_))))).mono ?_; rintro e w3 ⟨⟨v3, rfl, hv3⟩, hb3⟩; replace HB : Below (((w.alloc ob).alloc (oV 3 false (na : Nat) pa)).alloc oz).heap.size (((w.alloc ob).alloc (oV 3 false (na : Nat) pa)).alloc oz) w3 := bt2 hb3 (by (repeat (first | exact HB | exact Below.refl _ _ | with_reducible refine bel ?_ | with_reducible refine Below.drew ?_ | with_reducible refine bt3 ?_))); clear x0 x1 x2 x3 x4 x5 x6 r0 r1 r2 r3 q0 q1 q2 q3 hb3 hv2; obtain ⟨x0, x1, x2, x3, x4, x5, x6⟩ := yF HB; obtain ⟨r0, r1, r2, r3, q0, q1, q2, q3⟩ := yA HB)
      | (go_at_call 46; with_reducible refine (HRT v3 _ (hv3.on (by (repeat (first | exact Below.refl _ _ | with_reducible refine bel ?_ | with_reducible refine Below.drew ?_ | with_reducible refine bt3 ?_))))).mono ?_; rintro e w4 ⟨⟨v4, rfl, hv4⟩, hb4⟩; replace HB : Below (((w.alloc ob).alloc (oV 3 false (na : Nat) pa)).alloc oz).heap.size (((w.alloc ob).alloc (oV 3 false (na : Nat) pa)).alloc oz) w4 := bt2 hb4 (by (repeat (first | exact HB | exact Below.refl _ _ | with_reducible refine bel ?_ | with_reducible refine Below.drew ?_ | with_reducible refine bt3 ?_))); clear x0 x1 x2 x3 x4 x5 x6 r0 r1 r2 r3 q0 q1 q2 q3 hb4 hv3; obtain ⟨x0, x1, x2, x3, x4, x5, x6⟩ := yF HB; obtain ⟨r0, r1, r2, r3, q0, q1, q2, q3⟩ := yA HB)
      | (go_at_call 16; with_reducible refine (HRD v4 _ (hv4.on (by (repeat (first | exact Below.refl _ _ | with_reducible refine bel ?_ | with_reducible refine Below.drew ?_ | with_reducible refine bt3 ?_))))).mono ?_; rintro e w9 ⟨⟨n9, p9, rfl, hf9⟩, hb9⟩; rw [hdV_agg]; replace HB : Below (((w.alloc ob).alloc (oV 3 false (na : Nat) pa)).alloc oz).heap.size (((w.alloc ob).alloc (oV 3 false (na : Nat) pa)).alloc oz) w9 := bt2 hb9 (by (repeat (first | exact HB | exact Below.refl _ _ | with_reducible refine bel ?_ | with_reducible refine Below.drew ?_ | with_reducible refine bt3 ?_))); clear x0 x1 x2 x3 x4 x5 x6 r0 r1 r2 r3 q0 q1 q2 q3 hb9; obtain ⟨r0, r1, r2, r3, q0, q1, q2, q3⟩ := yA HB))
    refine bodyPost_ret (v := .agg #[.int .u8 (vS p9), .bool false, .int .u64 (vM n9 p9), .int .i64 (vP p9)]) (by simp [results, Try.f24, go_sem, r0, r1, r2, r3]) rfl ?_
    exact ⟨⟨n9, p9, by rw [hdV_agg], hf9⟩, yB HB⟩
  · have hx0 : ((pa - 128).tmod 2 != 0) = true := by
      rw [bne_iff_ne]
      intro h
      have := Int.emod_eq_zero_of_dvd (Int.dvd_of_tmod_eq_zero h)
      omega
    clear hod
    have HU' : ∀ v w, NatV w v na → Calls Try.prog 29 #[v, .int .i64 129] w fun e w' => (∃ v', e = .returned v' ∧ NatV w' v' V) ∧ Below w.heap.size w w' := HU
    have hx2 : (pa - 129).tdiv 2 = p := hx1
    clear HU hx1
    go_enter Try.func24, Try.ntmps24
    go_wp2_with (first
      | (go_at_call 42; with_reducible refine (isn3 false na pa _ g).mono ?_; rintro e w1 ⟨rfl, hb1⟩; replace HB := bt2 hb1 (show Below (((w.alloc ob).alloc (oV 3 false (na : Nat) pa)).alloc oz).heap.size (((w.alloc ob).alloc (oV 3 false (na : Nat) pa)).alloc oz) _ from by (repeat (first | exact HB | exact Below.refl _ _ | with_reducible refine bel ?_ | with_reducible refine Below.drew ?_ | with_reducible refine bt3 ?_))); obtain ⟨x0, x1, x2, x3, x4, x5, x6⟩ := yF HB; obtain ⟨r0, r1, r2, r3, q0, q1, q2, q3⟩ := yA HB; clear hb1)
      | (go_at_call 18; with_reducible refine (nat_any na _ (by omega)).mono ?_; rintro e w2 ⟨⟨v2, rfl, hv2⟩, hb2⟩; replace HB : Below (((w.alloc ob).alloc (oV 3 false (na : Nat) pa)).alloc oz).heap.size (((w.alloc ob).alloc (oV 3 false (na : Nat) pa)).alloc oz) w2 := bt2 hb2 (by (repeat (first | exact HB | exact Below.refl _ _ | with_reducible refine bel ?_ | with_reducible refine Below.drew ?_ | with_reducible refine bt3 ?_))); clear x0 x1 x2 x3 x4 x5 x6 r0 r1 r2 r3 q0 q1 q2 q3 hb2; obtain ⟨x0, x1, x2, x3, x4, x5, x6⟩ := yF HB; obtain ⟨r0, r1, r2, r3, q0, q1, q2, q3⟩ := yA HB)
      | (go_at_call 29; with_reducible refine (HU' v2 _ (hv2.on (by (repeat (first | exact Below.refl _ _ | with_reducible refine bel ?_ | with_reducible refine Below.drew ?_ | with_reducible refine bt3 ?_))))).mono ?_; rintro e w3 ⟨⟨v3, rfl, hv3⟩, hb3⟩; replace HB : Below (((w.alloc ob).alloc (oV 3 false (na : Nat) pa)).alloc oz).heap.size (((w.alloc ob).alloc (oV 3 false (na : Nat) pa)).alloc oz) w3 := bt2 hb3 (by (repeat (first | exact HB | exact Below.refl _ _ | with_reducible refine bel ?_ | with_reducible refine Below.drew ?_ | with_reducible refine bt3 ?_))); clear x0 x1 x2 x3 x4 x5 x6 r0 r1 r2 r3 q0 q1 q2 q3 hb3 hv2; obtain ⟨x0, x1, x2, x3, x4, x5, x6⟩ := yF HB; obtain ⟨r0, r1, r2, r3, q0, q1, q2, q3⟩ := yA HB)
      | (go_at_call 46; with_reducible refine (HRT v3 _ (hv3.on (by (repeat (first | exact Below.refl _ _ | with_reducible refine bel ?_ | with_reducible refine Below.drew ?_ | with_reducible refine bt3 ?_))))).mono ?_; rintro e w4 ⟨⟨v4, rfl, hv4⟩, hb4⟩; replace HB : Below (((w.alloc ob).alloc (oV 3 false (na : Nat) pa)).alloc oz).heap.size (((w.alloc ob).alloc (oV 3 false (na : Nat) pa)).alloc oz) w4 := bt2 hb4 (by (repeat (first | exact HB | exact Below.refl _ _ | with_reducible refine bel ?_ | with_reducible refine Below.drew ?_ | with_reducible refine bt3 ?_))); clear x0 x1 x2 x3 x4 x5 x6 r0 r1 r2 r3 q0 q1 q2 q3 hb4 hv3; obtain ⟨x0, x1, x2, x3, x4, x5, x6⟩ := yF HB; obtain ⟨r0, r1, r2, r3, q0, q1, q2, q3⟩ := yA HB)
      | (go_at_call 16; with_reducible refine (HRD v4 _ (hv4.on (by (repeat (first | exact Below.refl _ _ | with_reducible refine bel ?_ | with_reducible refine Below.drew ?_ | with_reducible refine bt3 ?_))))).mono ?_; rintro e w9 ⟨⟨n9, p9, rfl, hf9⟩, hb9⟩; rw [hdV_agg]; replace HB : Below (((w.alloc ob).alloc (oV 3 false (na : Nat) pa)).alloc oz).heap.size (((w.alloc ob).alloc (oV 3 false (na : Nat) pa)).alloc oz) w9 := bt2 hb9 (by (repeat (first | exact HB | exact Below.refl _ _ | with_reducible refine bel ?_ | with_reducible refine Below.drew ?_ | with_reducible refine bt3 ?_))); clear x0 x1 x2 x3 x4 x5 x6 r0 r1 r2 r3 q0 q1 q2 q3 hb9; obtain ⟨r0, r1, r2, r3, q0, q1, q2, q3⟩ := yA HB))
    refine bodyPost_ret (v := .agg #[.int .u8 (vS p9), .bool false, .int .u64 (vM n9 p9), .int .i64 (vP p9)]) (by simp [results, Try.f24, go_sem, r0, r1, r2, r3]) rfl ?_
    exact ⟨⟨n9, p9, by rw [hdV_agg], hf9⟩, yB HB⟩
end Go.Proofs.Ytkmefmgicbohnaa
namespace Go.Proofs.Ytkmefmgicbohnaa
open Go.RowKit

theorem froot_z {a : Nat} (h : a < 4294967296) (hz : a % 2147483648 = 0) : froot a = a := by
  have : a = 0 ∨ a = 2147483648 := by omega
  rcases this with rfl | rfl <;> decide +kernel
theorem froot_i {a : Nat} (h : a < 4294967296) (hi : a % 2147483648 = 2139095040) : froot a = if sg a = true then 2143289344 else a := by
  have : a = 2139095040 ∨ a = 4286578688 := by omega
  rcases this with rfl | rfl <;> decide +kernel
theorem froot_m {a : Nat} (hf : a % 2147483648 < 2139095040) (h0 : 0 < a % 2147483648) (hs : sn a = true) : froot a = 2143289344 := by
  have oa : ok a = true := mod_ok (by omega)
  obtain ⟨r, e, v, l⟩ := wide_fin a hf
  rw [hs] at e
  obtain ⟨f1, f2⟩ := word_facts64 true r (by omega)
  rw [← e] at f1 f2
  obtain ⟨M, K, eR, vR, hM, hK⟩ := read_fin64 (wide a) (by rw [f1]; exact l)
  rw [f1, v] at vR
  rw [f2] at eR
  have hv0 : 0 < val (a % 2147483648) := by have := val_lt h0; rwa [show val 0 = 0 from rfl] at this
  have hM0 : M ≠ 0 := by
    intro hz
    rw [hz, Nat.zero_mul] at vR
    have := Nat.mul_pos hv0 (Nat.two_pow_pos 925)
    omega
  have hq : Ieee.double.sqrt (wide a) = none := by
    unfold Ieee.Format.sqrt
    rw [eR]
    simp [Ieee.Datum.root, hM0]
  unfold froot
  rw [if_pos oa, hq]
theorem rootv_any (a : Nat) (w : World) (ha : a < 4294967296) :
    Calls Try.prog 24 #[.agg #[.int .i64 24, .int .i64 (-149), .int .i64 104], tv a] w fun e w' => (∃ v, e = .returned v ∧ LayV v (froot a)) ∧ Below w.heap.size w w' := by
  rcases ok_cases a with ca | ca | ca
  · rw [tv_none ca, froot_nan ca]
    exact (rq_n w).mono fun e w' ⟨he, h⟩ => ⟨⟨_, he, layV_none⟩, h⟩
  · rw [tv_inf ca, froot_i ha ca]
    have hl := layV_inf ha ca
    cases hs : sg a
    · rw [hs] at hl
      rw [if_neg (by decide)]
      exact (rq_e w).mono fun e w' ⟨he, h⟩ => ⟨⟨_, he, hl⟩, h⟩
    · rw [if_pos rfl]
      exact (rq_em w).mono fun e w' ⟨he, h⟩ => ⟨⟨_, he, layV_none⟩, h⟩
  · rw [tv_fin ca]
    obtain ⟨ka, na⟩ := rd_k ca
    by_cases hz : rdm a = 0
    · have hz2 : a % 2147483648 = 0 := by
        have := hz
        unfold rdm at this
        split at this <;> omega
      have hk : rdk a = 0 := by unfold rdk; rw [if_pos (by omega)]
      rw [hz, hk, froot_z ha hz2]
      refine (rq_z _ _ w).mono fun e w' ⟨he, h⟩ => ⟨⟨_, he, ?_⟩, h⟩
      have hfit : Fits 0 (-149) 0 := ⟨0, by omega, by omega, Or.inl rfl, rfl⟩
      have hw : a = wrd (sg a) (min 0 2139095040) := by
        rw [Nat.zero_min]
        have : a = 0 ∨ a = 2147483648 := by omega
        rcases this with rfl | rfl <;> decide
      have h9 := layV_fit (m := sg a) (x := a) hfit hw
      rw [show hdV (sg a) 0 (-149) = .agg #[.int .u8 3, .bool (sg a), .int .u64 ((0 : Nat) : Int), .int .i64 (-149)] from if_neg (by decide)] at h9
      exact h9
    · have hg : ((rdm a : Int) == 0) = false := by rw [beq_eq_false_iff_ne]; omega
      have h0 : 0 < a % 2147483648 := by
        apply Nat.pos_of_ne_zero
        intro h
        apply hz
        unfold rdm; rw [if_pos (by omega)]; exact h
      have hss := sg_sn a ha
      cases hs : sg a
      · rw [hs] at hss
        have ha31 : a < 2147483648 := by
          have : sn a = false := hss.symm ▸ rfl
          unfold sn at this
          have h2 : a / 2147483648 % 2 ≠ 1 := by simpa using this
          omega
        have hmod : a % 2147483648 = a := Nat.mod_eq_of_lt ha31
        rw [hmod] at ca h0
        obtain ⟨sh, p, hsh, hp⟩ : ∃ (sh : Nat) (p : Int), (sh = 128 ∧ (-149 + (rdk a : Int) - 128) % 2 = 0 ∨ sh = 129 ∧ (-149 + (rdk a : Int) - 128) % 2 = 1) ∧ -149 + (rdk a : Int) - sh = 2 * p := by
          by_cases hev : (-149 + (rdk a : Int) - 128) % 2 = 0
          · exact ⟨128, (-149 + (rdk a : Int) - 128) / 2, Or.inl ⟨rfl, hev⟩, by omega⟩
          · exact ⟨129, (-149 + (rdk a : Int) - 129) / 2, Or.inr ⟨rfl, by omega⟩, by omega⟩
        have hf := froot_rg a sh p h0 ca (by omega) (by omega) hp _ _ rfl rfl
        rw [word_wrd _ _ (Nat.lt_of_le_of_lt (Nat.min_le_right _ _) (by decide))] at hf
        exact (rq_f _ sh _ _ _ _ _ p w na hg (by omega) (by omega) hsh hp rfl rfl rfl rfl).mono fun e w' ⟨⟨n, q, he, hq⟩, hbl⟩ => ⟨⟨_, he, layV_fit hq hf⟩, hbl⟩
      · rw [hs] at hss
        rw [froot_m ca h0 (hss.symm ▸ rfl)]
        exact (rq_fm _ _ hg w).mono fun e w' ⟨he, h⟩ => ⟨⟨_, he, layV_none⟩, h⟩
set_option maxRecDepth 100000 in
set_option maxHeartbeats 1000000 in
theorem roots_any (a : Nat) (w : World) (ha : a < 4294967296) :
    Calls Try.prog 11 #[.int .u32 a] w fun e w' => e = .returned (.int .u32 (froot a)) ∧ Below w.heap.size w w' := by
  have HB : Below w.heap.size w w := Below.refl _ _
  go_enter Try.func11, Try.ntmps11
  go_wp2_with (first
    | (go_at_call 17; refine (form_any _).mono ?_; rintro e wq ⟨rfl, hq⟩; subst wq)
    | (go_at_call 22; with_reducible refine (take_any a _ ha).mono ?_; rintro e w1 ⟨rfl, h1⟩; replace HB : Below w.heap.size w w1 := bt2 h1 (by (repeat (first | exact HB | exact Below.refl _ _ | with_reducible refine bel ?_ | with_reducible refine Below.drew ?_ | with_reducible refine bt3 ?_))))
    | (go_at_call 24; with_reducible refine (rootv_any a _ ha).mono ?_; rintro e w2 ⟨⟨v, rfl, hv⟩, h2⟩; replace HB : Below w.heap.size w w2 := bt2 h2 (by (repeat (first | exact HB | exact Below.refl _ _ | with_reducible refine bel ?_ | with_reducible refine Below.drew ?_ | with_reducible refine bt3 ?_))))
    | (go_at_call 15; with_reducible refine (layAt hv _).mono ?_; rintro e w3 ⟨rfl, h3⟩; replace HB : Below w.heap.size w w3 := bt2 h3 (by (repeat (first | exact HB | exact Below.refl _ _ | with_reducible refine bel ?_ | with_reducible refine Below.drew ?_ | with_reducible refine bt3 ?_)))))
  go_ret
  exact ⟨rfl, HB⟩
set_option maxRecDepth 100000 in
set_option maxHeartbeats 1000000 in
theorem singleroots (a : Nat) (w : World) (ha : a < 4294967296) :
    Calls Try.prog 5 #[.int .u32 a] w fun e w' => e = .returned (.bool true) ∧ Below w.heap.size w w' := by
  have HB : Below w.heap.size w w := Below.refl _ _
  go_enter Try.func5, Try.ntmps5
  go_wp2_with (first
    | (go_at_call 10; with_reducible refine (root_any a _ (rfine_all a)).mono ?_; rintro e wq ⟨rfl, m, hq⟩; subst wq)
    | (go_at_call 11; with_reducible refine (roots_any a _ ha).mono ?_; rintro e w1 ⟨rfl, h1⟩; replace HB : Below w.heap.size w w1 := bt2 h1 (by (repeat (first | exact HB | exact Below.refl _ _ | with_reducible refine bel ?_ | with_reducible refine Below.drew ?_ | with_reducible refine bt3 ?_)))))
  go_ret
  exact ⟨rfl, HB⟩
end Go.Proofs.Ytkmefmgicbohnaa
