import Derived.Test.YtghhjebacnodcaaPWaveR
namespace Go.Proofs.Ytghhjebacnodcaa
open Go.RowKit
/-- the four roots that are whole -/
def rt (e : Nat) : Int × Int := if e = 0 then (1, 0) else if e = 2 then (0, -1) else if e = 4 then (-1, 0) else (0, 1)
def Tri (x : Int) : Prop := x = 0 ∨ x = 1 ∨ x = -1
theorem rt_wh (e : Nat) (he : e % 2 = 0) (h8 : e < 8) : Wh (rb e).1 (rt e).1 ∧ Wh (rb e).2 (rt e).2 ∧ Tri (rt e).1 ∧ Tri (rt e).2 := by
  have : e = 0 ∨ e = 2 ∨ e = 4 ∨ e = 6 := by omega
  rcases this with rfl | rfl | rfl | rfl
  · exact ⟨wh_1, wh_0, Or.inr (Or.inl rfl), Or.inl rfl⟩
  · exact ⟨wh_0, wh_m1, Or.inl rfl, Or.inr (Or.inr rfl)⟩
  · exact ⟨wh_m1, wh_0, Or.inr (Or.inr rfl), Or.inl rfl⟩
  · exact ⟨wh_0, wh_1, Or.inl rfl, Or.inr (Or.inl rfl)⟩
theorem tri_le {u x : Int} {M : Nat} (hu : u.natAbs ≤ M) (hx : Tri x) : (u * x).natAbs ≤ M := by
  rcases hx with rfl | rfl | rfl <;> simp <;> omega
theorem mul_wh {a b c d r i : Nat} {u v x y : Int} {M : Nat} (ha : Wh a u) (hb : Wh b v) (hc : Wh c x) (hd : Wh d y) (hu : u.natAbs ≤ M) (hv : v.natAbs ≤ M) (hx : Tri x) (hy : Tri y) (hM : M ≤ 17592186044416) (h : MulV a b c d r i) :
    Wh r (u * x - v * y) ∧ Wh i (u * y + v * x) := by
  have b1 := tri_le hu hx
  have b2 := tri_le hv hy
  have b3 := tri_le hu hy
  have b4 := tri_le hv hx
  obtain ⟨⟨w0, w1, w2, rfl⟩, ⟨w3, w4, w5, rfl⟩⟩ := h
  obtain ⟨p1, e1, q1⟩ := wh_mul ha hc (by omega)
  obtain ⟨p2, e2, q2⟩ := wh_mul hb hd (by omega)
  obtain ⟨p3, e3, q3⟩ := wh_mul ha hd (by omega)
  obtain ⟨p4, e4, q4⟩ := wh_mul hb hc (by omega)
  rw [fv_of e1, fv_of e2, fv_of e3, fv_of e4]
  obtain ⟨p5, e5, q5⟩ := wh_sub q1 q2 (by omega)
  obtain ⟨p6, e6, q6⟩ := wh_add q3 q4 (by omega)
  rw [fv_of e5, fv_of e6]
  exact ⟨q5, q6⟩
/-- the sum of the first k -/
def sumv (n j : Nat) (back : Bool) (vs : Nat → Int × Int) : Nat → Int × Int
  | 0 => (0, 0)
  | k + 1 => ((sumv n j back vs k).1 + ((vs k).1 * (rt (ex n j k back)).1 - (vs k).2 * (rt (ex n j k back)).2), (sumv n j back vs k).2 + ((vs k).1 * (rt (ex n j k back)).2 + (vs k).2 * (rt (ex n j k back)).1))
theorem ex_even (n j k : Nat) (back : Bool) (hn : n = 1 ∨ n = 2 ∨ n = 4) : ex n j k back % 2 = 0 := by
  unfold ex
  rcases hn with rfl | rfl | rfl <;> generalize j * k = x <;> split <;> omega
def InvS (n j : Nat) (back : Bool) (vs : Nat → Int × Int) (M k r i : Nat) : Prop :=
  Wh r (sumv n j back vs k).1 ∧ Wh i (sumv n j back vs k).2 ∧ (sumv n j back vs k).1.natAbs ≤ k * (2 * M) ∧ (sumv n j back vs k).2.natAbs ≤ k * (2 * M)
theorem inv_step {n j k : Nat} {back : Bool} {vs : Nat → Int × Int} {M : Nat} {pt : Nat × Nat} (hn : n = 1 ∨ n = 2 ∨ n = 4) (hk : k < n) (hM : M ≤ 17592186044416) (hp1 : Wh pt.1 (vs k).1) (hp2 : Wh pt.2 (vs k).2) (hb1 : (vs k).1.natAbs ≤ M) (hb2 : (vs k).2.natAbs ≤ M) {r i : Nat}
    (hI : InvS n j back vs M k r i) {pr pi r' i' : Nat} (hm : MulV pt.1 pt.2 (rb (ex n j k back)).1 (rb (ex n j k back)).2 pr pi) (ha : AddV r i pr pi r' i') : InvS n j back vs M (k + 1) r' i' := by
  obtain ⟨i1, i2, i3, i4⟩ := hI
  obtain ⟨r1, r2, t1, t2⟩ := rt_wh (ex n j k back) (ex_even n j k back hn) (ex_lt n j k back)
  obtain ⟨m1, m2⟩ := mul_wh hp1 hp2 r1 r2 hb1 hb2 t1 t2 hM hm
  have c1 := tri_le hb1 t1
  have c2 := tri_le hb2 t2
  have c3 := tri_le hb1 t2
  have c4 := tri_le hb2 t1
  have hs : (k + 1) * (2 * M) = k * (2 * M) + 2 * M := Nat.succ_mul _ _
  have hk4 : k * (2 * M) ≤ 4 * (2 * M) := Nat.mul_le_mul_right _ (by omega)
  obtain ⟨w0, w1, rfl, rfl⟩ := ha
  unfold InvS
  simp only [sumv]
  generalize (vs k).1 * (rt (ex n j k back)).1 = A at *
  generalize (vs k).2 * (rt (ex n j k back)).2 = B at *
  generalize (vs k).1 * (rt (ex n j k back)).2 = C at *
  generalize (vs k).2 * (rt (ex n j k back)).1 = D at *
  obtain ⟨p1, e1, q1⟩ := wh_add i1 m1 (by omega)
  obtain ⟨p2, e2, q2⟩ := wh_add i2 m2 (by omega)
  rw [fv_of e1, fv_of e2, hs]
  exact ⟨q1, q2, by omega, by omega⟩
theorem sum_back (n j : Nat) (vs : Nat → Int × Int) (hn : n = 1 ∨ n = 2 ∨ n = 4) (hj : j < n) :
    (sumv n j true (fun k => sumv n k false vs n) n).1 = (vs j).1 * (n : Int) ∧ (sumv n j true (fun k => sumv n k false vs n) n).2 = (vs j).2 * (n : Int) := by
  rcases hn with rfl | rfl | rfl
  · obtain rfl : j = 0 := by omega
    simp [sumv, ex, rt]
  · have : j = 0 ∨ j = 1 := by omega
    rcases this with rfl | rfl <;> simp [sumv, ex, rt] <;> omega
  · have : j = 0 ∨ j = 1 ∨ j = 2 ∨ j = 3 := by omega
    rcases this with rfl | rfl | rfl | rfl <;> simp [sumv, ex, rt] <;> omega
end Go.Proofs.Ytghhjebacnodcaa
