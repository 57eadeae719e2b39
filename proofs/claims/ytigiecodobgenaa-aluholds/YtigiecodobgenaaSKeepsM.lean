import Derived.Test.YtigiecodobgenaaSRootM
namespace Go.Proofs.Ytigiecodobgenaa
open Go.RowKit

/-- x is not above y, or one is no number -/
def na (x y : Nat) : Prop := ok x = true → ok y = true → key x ≤ key y
theorem inf_read {z : Nat} (h : z % 2147483648 = 2139095040) : Ieee.single.read z = .infinity (sn z) := by
  rw [read_single, if_neg (by omega), if_neg (by omega), if_pos h]; rfl
theorem inf_write {z : Nat} (hz : z < 4294967296) (h : z % 2147483648 = 2139095040) : Ieee.single.write (.infinity (sn z)) = z := by
  have := word_sn z hz
  rw [h] at this; exact this
theorem fin_or {z : Nat} (h : ok z = true) : z % 2147483648 < 2139095040 ∨ z % 2147483648 = 2139095040 := by have := ok_mod h; omega
theorem nan_ok : ok 2143289344 = false := by decide
theorem sum_comm' (d e : Ieee.Datum) : d.sum e = e.sum d := by
  cases d <;> cases e <;> simp only [Ieee.Datum.sum]
  · rename_i s m i t n j
    rw [Int.min_comm i j, Int.add_comm (Ieee.signed s _ _), Bool.and_comm]
  · rename_i s t
    by_cases h : s = t
    · subst h; rfl
    · rw [if_neg h, if_neg (Ne.symm h)]
theorem fsum_inf_l {x c : Nat} (hx : x < 4294967296) (hi : x % 2147483648 = 2139095040) (oc : ok c = true) (ho : ok (fsum x c) = true) : fsum x c = x := by
  have h0 : Ieee.single.add x c = ((Ieee.single.read x).sum (Ieee.single.read c)).map Ieee.single.write := rfl
  rw [inf_read hi] at h0
  unfold fsum at ho ⊢
  rw [h0] at ho ⊢
  rcases fin_or oc with hf | hf
  · obtain ⟨m, k, e, -⟩ := read_fin c hf
    rw [e]
    exact inf_write hx hi
  · rw [inf_read hf] at ho ⊢
    by_cases e : sn x = sn c
    · simp only [Ieee.Datum.sum, if_pos e]; exact inf_write hx hi
    · simp only [Ieee.Datum.sum, if_neg e] at ho
      exact absurd (show ok 2143289344 = true from ho) (by decide)
theorem fsum_inf_r {x c : Nat} (hc : c < 4294967296) (hi : c % 2147483648 = 2139095040) (ox : ok x = true) (ho : ok (fsum x c) = true) : fsum x c = c := by
  have e : fsum x c = fsum c x := by unfold fsum Ieee.Format.add; rw [sum_comm']
  rw [e] at ho ⊢
  exact fsum_inf_l hc hi ox ho
theorem sum_args {x c : Nat} (ho : ok (fsum x c) = true) : ok x = true ∧ ok c = true := by
  cases h1 : ok x
  · rw [fsum_nan (Or.inl h1)] at ho; exact absurd ho (by decide)
  · cases h2 : ok c
    · rw [fsum_nan (Or.inr h2)] at ho; exact absurd ho (by decide)
    · exact ⟨rfl, rfl⟩
theorem mul_args {x c : Nat} (ho : ok (fmul x c) = true) : ok x = true ∧ ok c = true := by
  cases h1 : ok x
  · rw [fmul_nan (Or.inl h1)] at ho; exact absurd ho (by decide)
  · cases h2 : ok c
    · rw [fmul_nan (Or.inr h2)] at ho; exact absurd ho (by decide)
    · exact ⟨rfl, rfl⟩
theorem near_zero {d r : Nat} (h : Near 8388608 d 0 r) : r = 0 := by
  have := near_self 8388608 d 0 (by decide)
  rw [show vl 8388608 0 = 0 from rfl, Nat.zero_mul] at this
  exact h.unique (by decide) this
theorem signed_mono {d C r r' : Nat} {S S' : Int} {neg neg' : Bool} (h : S ≤ S') (hr : Near 8388608 d (S.natAbs * C) r) (hr' : Near 8388608 d (S'.natAbs * C) r') (hn : S ≠ 0 → neg = decide (S < 0)) (hn' : S' ≠ 0 → neg' = decide (S' < 0)) :
    key (Ieee.single.word neg (min r 2139095040)) ≤ key (Ieee.single.word neg' (min r' 2139095040)) := by
  rw [key_word _ _ (by omega), key_word _ _ (by omega)]
  have z1 : S = 0 → r = 0 := fun e => near_zero (d := d) (by rw [e, Int.natAbs_zero, Nat.zero_mul] at hr; exact hr)
  have z2 : S' = 0 → r' = 0 := fun e => near_zero (d := d) (by rw [e, Int.natAbs_zero, Nat.zero_mul] at hr'; exact hr')
  by_cases e1 : S = 0
  · rw [z1 e1]
    by_cases e2 : S' = 0
    · rw [z2 e2]; split <;> split <;> simp
    · rw [hn' e2, decide_eq_false (by omega)]; simp only [Bool.false_eq_true, if_false]; split <;> simp <;> omega
  · by_cases e2 : S' = 0
    · rw [z2 e2, hn e1, decide_eq_true (by omega)]; simp only [if_true]; split <;> simp <;> omega
    · rw [hn e1, hn' e2]
      by_cases n1 : S < 0 <;> by_cases n2 : S' < 0
      · have := hr'.mono (by decide) hr (Nat.mul_le_mul_right _ (by omega))
        rw [decide_eq_true n1, decide_eq_true n2]; simp only [if_true]; omega
      · rw [decide_eq_true n1, decide_eq_false n2]; simp only [if_true, Bool.false_eq_true, if_false]; omega
      · omega
      · have := hr.mono (by decide) hr' (Nat.mul_le_mul_right _ (by omega))
        rw [decide_eq_false n1, decide_eq_false n2]; simp only [Bool.false_eq_true, if_false]; omega
theorem key_inf {z : Nat} (hz : z < 4294967296) (h : z % 2147483648 = 2139095040) : key z = 2139095040 ∨ key z = -2139095040 := by
  by_cases h' : z < 2147483648
  · rw [key_pos h']; omega
  · rw [key_neg (by omega)]; omega
theorem key_fin {z : Nat} (h : z % 2147483648 < 2139095040) : -2139095040 < key z ∧ key z < 2139095040 := by
  by_cases h' : z < 2147483648
  · rw [key_pos h']; omega
  · rw [key_neg (by omega)]; omega
theorem sum_keeps {x y c : Nat} (hx : x < 4294967296) (hy : y < 4294967296) (hc : c < 4294967296) (h : na x y) : na (fsum x c) (fsum y c) := by
  intro o1 o2
  obtain ⟨ox, oc⟩ := sum_args o1
  obtain ⟨oy, -⟩ := sum_args o2
  have hk := h ox oy
  rcases fin_or oc with fc | fc
  · rcases fin_or ox with fx | fx <;> rcases fin_or oy with fy | fy
    · obtain ⟨n1, r1, e1, q1, p1, -⟩ := fsum_fin x c fx fc
      obtain ⟨n2, r2, e2, q2, p2, -⟩ := fsum_fin y c fy fc
      rw [e1, e2]
      have hs : sval x ≤ sval y := by
        have hsk := sval_key y x hy hx
        apply Int.le_of_not_gt
        intro hlt
        have := hsk.1.1 hlt
        omega
      exact signed_mono (C := 1) (by omega) (by rw [Nat.mul_one]; exact q1) (by rw [Nat.mul_one]; exact q2) p1 p2
    · rw [fsum_inf_l hy fy oc o2]
      have b := key_bound (fsum_lt x c) o1
      have k1 := key_fin fx
      rcases key_inf hy fy with e | e <;> omega
    · rw [fsum_inf_l hx fx oc o1]
      have b := key_bound (fsum_lt y c) o2
      have k1 := key_fin fy
      rcases key_inf hx fx with e | e <;> omega
    · rw [fsum_inf_l hx fx oc o1, fsum_inf_l hy fy oc o2]; exact hk
  · rw [fsum_inf_r hc fc ox o1, fsum_inf_r hc fc oy o2]; exact Int.le_refl _
theorem sval_zero {z : Nat} (h : z % 2147483648 = 0) : sval z = 0 := by unfold sval; rw [h]; split <;> rfl
theorem sval_abs (z : Nat) : (sval z).natAbs = val (z % 2147483648) := by unfold sval; split <;> simp
theorem sval_sign {z : Nat} (hz : z < 4294967296) (h : sval z ≠ 0) : sn z = decide (sval z < 0) := by
  have hv : 0 < val (z % 2147483648) := by
    rcases Nat.eq_zero_or_pos (val (z % 2147483648)) with e | e
    · exfalso; apply h; unfold sval; rw [e]; split <;> rfl
    · exact e
  by_cases h' : z < 2147483648
  · rw [sval_pos h', decide_eq_false (by omega)]; unfold sn; rw [show z / 2147483648 % 2 = 0 by omega]; rfl
  · rw [sval_neg (by omega) hz, decide_eq_true (by omega)]; unfold sn; rw [show z / 2147483648 % 2 = 1 by omega]; rfl
theorem mul_keeps {x y c : Nat} (hx : x < 4294967296) (hy : y < 4294967296) (hc : c < 2147483648) (hc0 : 0 < c) (h : na x y) : na (fmul x c) (fmul y c) := by
  intro o1 o2
  obtain ⟨ox, oc⟩ := mul_args o1
  obtain ⟨oy, -⟩ := mul_args o2
  have hk := h ox oy
  have sc : sn c = false := by unfold sn; rw [show c / 2147483648 % 2 = 0 by omega]; rfl
  have hm : c % 2147483648 = c := Nat.mod_eq_of_lt hc
  have infx : ∀ z, z < 4294967296 → z % 2147483648 = 2139095040 → fmul z c = z := by
    intro z hz fz
    have h0 : Ieee.single.mul z c = ((Ieee.single.read z).product (Ieee.single.read c)).map Ieee.single.write := rfl
    rw [inf_read fz] at h0
    unfold fmul
    rw [h0]
    rcases fin_or oc with fc | fc
    · obtain ⟨m, k, e, v, -⟩ := read_fin c fc
      have hm0 : m ≠ 0 := by
        intro e0
        rw [e0, Nat.zero_mul, hm] at v
        have := val_lt hc0
        rw [show val 0 = 0 from rfl] at this
        omega
      rw [e]
      simp only [Ieee.Datum.product, if_neg hm0]
      have : (c / 2147483648 % 2 == 1) = false := sc
      rw [this, Bool.xor_false]; exact inf_write hz fz
    · rw [inf_read fc, sc]
      simp only [Ieee.Datum.product, Bool.xor_false]; exact inf_write hz fz
  rcases fin_or oc with fc | fc
  · rcases fin_or ox with fx | fx <;> rcases fin_or oy with fy | fy
    · obtain ⟨r1, e1, q1⟩ := fmul_fin x c fx fc
      obtain ⟨r2, e2, q2⟩ := fmul_fin y c fy fc
      rw [e1, e2, sc, Bool.xor_false, Bool.xor_false]
      rw [← sval_abs] at q1 q2
      have hs : sval x ≤ sval y := by
        have hsk := sval_key y x hy hx
        apply Int.le_of_not_gt
        intro hlt
        have := hsk.1.1 hlt
        omega
      exact signed_mono hs q1 q2 (sval_sign hx) (sval_sign hy)
    · rw [infx y hy fy]
      have b := key_bound (fmul_lt x c) o1
      have k1 := key_fin fx
      rcases key_inf hy fy with e | e <;> omega
    · rw [infx x hx fx]
      have b := key_bound (fmul_lt y c) o2
      have k1 := key_fin fy
      rcases key_inf hx fx with e | e <;> omega
    · rw [infx x hx fx, infx y hy fy]; exact hk
  · -- times what is without end
    have hci : c = 2139095040 := by omega
    have fz : ∀ z, z < 4294967296 → ok z = true → ok (fmul z c) = true → fmul z c = Ieee.single.word (sn z) 2139095040 ∧ z % 2147483648 ≠ 0 := by
      intro z hz oz o
      rcases fin_or oz with fz | fz
      · obtain ⟨m, k, e, v, -⟩ := read_fin z fz
        have h0 : Ieee.single.mul z c = ((Ieee.single.read z).product (Ieee.single.read c)).map Ieee.single.write := rfl
        rw [e, inf_read fc, sc] at h0
        by_cases hm0 : m = 0
        · simp only [Ieee.Datum.product, if_pos hm0] at h0
          unfold fmul at o
          rw [h0] at o
          exact absurd (show ok 2143289344 = true from o) (by decide)
        · simp only [Ieee.Datum.product, if_neg hm0] at h0
          refine ⟨by unfold fmul; rw [h0, Bool.false_xor]; rfl, fun e0 => hm0 ?_⟩
          rw [e0, show val 0 = 0 from rfl] at v
          rcases Nat.mul_eq_zero.1 v with h | h
          · exact h
          · have := Nat.two_pow_pos k; omega
      · have := word_sn z hz
        rw [fz] at this
        exact ⟨by rw [infx z hz fz, this], by omega⟩
    obtain ⟨e1, z1⟩ := fz x hx ox o1
    obtain ⟨e2, z2⟩ := fz y hy oy o2
    rw [e1, e2, key_word _ _ (by decide), key_word _ _ (by decide)]
    have kx : sn x = decide (key x < 0) := by
      by_cases h' : x < 2147483648
      · rw [key_pos h', decide_eq_false (by omega)]; unfold sn; rw [show x / 2147483648 % 2 = 0 by omega]; rfl
      · rw [key_neg (by omega), decide_eq_true (by omega)]; unfold sn; rw [show x / 2147483648 % 2 = 1 by omega]; rfl
    have ky : sn y = decide (key y < 0) := by
      by_cases h' : y < 2147483648
      · rw [key_pos h', decide_eq_false (by omega)]; unfold sn; rw [show y / 2147483648 % 2 = 0 by omega]; rfl
      · rw [key_neg (by omega), decide_eq_true (by omega)]; unfold sn; rw [show y / 2147483648 % 2 = 1 by omega]; rfl
    rw [kx, ky]
    by_cases n1 : key x < 0 <;> by_cases n2 : key y < 0
    · rw [decide_eq_true n1, decide_eq_true n2]; exact Int.le_refl _
    · rw [decide_eq_true n1, decide_eq_false n2]; decide
    · omega
    · rw [decide_eq_false n1, decide_eq_false n2]; exact Int.le_refl _
theorem of_keeps {n m : Int} (h : n ≤ m) : na (fof n) (fof m) := by
  intro _ _
  obtain ⟨r, e, hr⟩ := fof_near n
  obtain ⟨r', e', hr'⟩ := fof_near m
  rw [e, e']
  exact signed_mono (C := 2 ^ 149) h hr hr' (fun _ => rfl) (fun _ => rfl)
theorem froot_neg {x : Nat} (hx : x < 4294967296) (ox : ok x = true) (h : key x < 0) : froot x = 2143289344 := by
  have hs : 2147483648 ≤ x := by
    apply Nat.le_of_not_lt
    intro h'
    rw [key_pos h'] at h; omega
  have hk := key_neg hs
  rcases fin_or ox with f | f
  · obtain ⟨r, e, v, l⟩ := wide_fin x f
    have s1 : sn x = true := by unfold sn; rw [show x / 2147483648 % 2 = 1 by omega]; rfl
    rw [s1] at e
    obtain ⟨f1, f2⟩ := word_facts64 true r (by omega)
    obtain ⟨M, K, eR, vR, -, -⟩ := read_fin64 (wide x) (by rw [e, f1]; exact l)
    have f1' : wide x % 9223372036854775808 = r := by rw [e]; exact f1
    have f2' : (wide x / 9223372036854775808 % 2 == 1) = true := by rw [e]; exact f2
    rw [f1', v] at vR
    rw [f2'] at eR
    have hv0 : 0 < val (x % 2147483648) := by have := val_lt (show 0 < x % 2147483648 by omega); rwa [show val 0 = 0 from rfl] at this
    have hM0 : M ≠ 0 := by
      intro hz
      rw [hz, Nat.zero_mul] at vR
      have := Nat.mul_pos hv0 (Nat.two_pow_pos 925)
      omega
    have hsq : Ieee.double.sqrt (wide x) = none := by
      unfold Ieee.Format.sqrt
      rw [eR]
      simp [Ieee.Datum.root, hM0]
    unfold froot
    rw [if_pos ox, hsq]
  · have : x = 4286578688 := by omega
    subst this
    decide +kernel
theorem root_keeps {x y : Nat} (hx : x < 4294967296) (hy : y < 4294967296) (h : na x y) : na (froot x) (froot y) := by
  intro o1 o2
  have ox : ok x = true := by
    cases h1 : ok x
    · rw [froot_nan h1] at o1; exact absurd o1 (by decide)
    · rfl
  have oy : ok y = true := by
    cases h1 : ok y
    · rw [froot_nan h1] at o2; exact absurd o2 (by decide)
    · rfl
  have hk := h ox oy
  have kx : 0 ≤ key x := by
    apply Int.le_of_not_gt
    intro hlt
    rw [froot_neg hx ox hlt] at o1; exact absurd o1 (by decide)
  have zero : ∀ z, z < 4294967296 → key z = 0 → key (froot z) = 0 := by
    intro z hz e
    have : z = 0 ∨ z = 2147483648 := by
      by_cases h' : z < 2147483648
      · rw [key_pos h'] at e; omega
      · rw [key_neg (by omega)] at e; omega
    rcases this with rfl | rfl <;> decide +kernel
  have pos : ∀ z, z < 4294967296 → ok z = true → 0 < key z → z < 2147483648 ∧ 0 < z ∧ z ≤ 2139095040 := by
    intro z hz oz e
    have := ok_mod oz
    by_cases h' : z < 2147483648
    · rw [key_pos h'] at e; omega
    · rw [key_neg (by omega)] at e; omega
  have inf : key (froot 2139095040) = 2139095040 := by decide +kernel
  by_cases ex : key x = 0
  · rw [zero x hx ex]
    by_cases ey : key y = 0
    · rw [zero y hy ey]; exact Int.le_refl _
    · obtain ⟨p1, p2, p3⟩ := pos y hy oy (by omega)
      by_cases ei : y = 2139095040
      · rw [ei, inf]; decide
      · obtain ⟨_, s, _, e, _⟩ := froot_mono y y p2 (Nat.le_refl _) (by omega)
        rw [e, key_word _ _ (by omega)]; simp only [Bool.false_eq_true, if_false]; omega
  · obtain ⟨p1, p2, p3⟩ := pos x hx ox (by omega)
    obtain ⟨q1, q2, q3⟩ := pos y hy oy (by omega)
    rw [key_pos p1, key_pos q1] at hk
    by_cases ei : y = 2139095040
    · rw [ei, inf]
      exact (key_bound (froot_lt x) o1).2
    · obtain ⟨r, s, e1, e2, hrs⟩ := froot_mono x y p2 (by omega) (by omega)
      rw [e1, e2, key_word _ _ (by omega), key_word _ _ (by omega)]
      simp only [Bool.false_eq_true, if_false]; omega
end Go.Proofs.Ytigiecodobgenaa
