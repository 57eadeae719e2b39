import Derived.Test.YtelddclhoojjmaaLSum
namespace Go.Proofs.Ytelddclhoojjmaa
open Go.RowKit

def tot (L : List Int) : Int := L.foldr (fun a s => a + s) 0
def hh : List Int → Int
  | [] => 0
  | a :: L => ((L.length : Int) + 1) * a + hh L
theorem tot_cons (a : Int) (L : List Int) : tot (a :: L) = a + tot L := rfl
theorem modp {X Y : Int} (t : Int) (h : X = Y + 65521 * t) : X % 65521 = Y % 65521 := by subst h; omega

theorem alg1 (p1 p2 a q q2 H n : Int) : p2 + (p1 + a - 65521 * q) - 65521 * q2 + n * (p1 + a - 65521 * q) + H = p2 + (n + 1) * p1 + ((n + 1) * a + H) + 65521 * -(q + q2 + n * q) := by grind
theorem alg2 (hx lx n H q q2 : Int) : hx + (n + H - 65521 * q) + (n - 65521 * q2) * (lx + 65520) = hx + n * lx + H + 65521 * (-q + n - q2 * (lx + 65520)) := by grind

theorem fold_low (L : List Int) : ∀ p : Int × Int, 0 ≤ p.1 ∧ p.1 ≤ 65520 → (L.foldl stp p).1 = (p.1 + tot L) % 65521 := by
  induction L with
  | nil => intro p h; simp only [List.foldl_nil, tot, List.foldr_nil]; omega
  | cons a L ih =>
    intro p h
    rw [List.foldl_cons, ih _ (stp_range p a).1, tot_cons]
    simp only [stp]
    omega
theorem fold_high (L : List Int) : ∀ p : Int × Int, 0 ≤ p.2 ∧ p.2 ≤ 65520 → (L.foldl stp p).2 = (p.2 + (L.length : Int) * p.1 + hh L) % 65521 := by
  induction L with
  | nil => intro p h; simp only [List.foldl_nil, hh, List.length_nil]; omega
  | cons a L ih =>
    intro p h
    rw [List.foldl_cons, ih _ (stp_range p a).2]
    simp only [stp, hh, List.length_cons]
    obtain ⟨q, hq⟩ : ∃ q, (p.1 + a) % 65521 = p.1 + a - 65521 * q := ⟨(p.1 + a) / 65521, by omega⟩
    obtain ⟨q2, hq2⟩ : ∃ q2, (p.2 + (p.1 + a) % 65521) % 65521 = p.2 + (p.1 + a) % 65521 - 65521 * q2 := ⟨(p.2 + (p.1 + a) % 65521) / 65521, by omega⟩
    rw [hq2, hq]
    exact modp (-(q + q2 + (L.length : Int) * q)) (alg1 _ _ _ _ _ _ _)
theorem st_low (L : List Int) : (st L).1 = (1 + tot L) % 65521 := fold_low L (1, 0) (by decide)
theorem st_high (L : List Int) : (st L).2 = ((L.length : Int) + hh L) % 65521 := by
  have := fold_high L (1, 0) (by decide)
  simp only at this
  rw [st, this]; congr 1; omega

/-- the sum that is joined of two -/
def jn (a b n : Int) : Int :=
  (a / 65536 + b / 65536 + (max n 0) % 65521 * (a % 65536 + 65520)) % 65521 * 65536 + (a % 65536 + b % 65536 + 65520) % 65521

theorem adl_parts (L : List Int) : adl L % 65536 = (st L).1 ∧ adl L / 65536 = (st L).2 := by
  have := st_range L; unfold adl; omega

theorem jn_adl (x y : List Int) : jn (adl x) (adl y) (y.length : Int) = adl (x ++ y) := by
  obtain ⟨x1, x2⟩ := adl_parts x
  obtain ⟨y1, y2⟩ := adl_parts y
  have rx := st_range x
  have e : st (x ++ y) = y.foldl stp (st x) := by simp [st]
  have l1 := fold_low y (st x) rx.1
  have h1 := fold_high y (st x) rx.2
  have l2 := st_low y
  have h2 := st_high y
  simp only [jn, x1, x2, y1, y2, show max (y.length : Int) 0 = y.length by omega]
  rw [show adl (x ++ y) = (st (x ++ y)).2 * 65536 + (st (x ++ y)).1 from rfl, e, l1, h1, l2, h2]
  generalize (y.length : Int) = n
  generalize (st x).1 = lx
  generalize (st x).2 = hx
  generalize tot y = t
  generalize hh y = H
  have hl : (lx + (1 + t) % 65521 + 65520) % 65521 = (lx + t) % 65521 := by omega
  have hhg : (hx + (n + H) % 65521 + n % 65521 * (lx + 65520)) % 65521 = (hx + n * lx + H) % 65521 := by
    obtain ⟨q, hq⟩ : ∃ q, (n + H) % 65521 = n + H - 65521 * q := ⟨(n + H) / 65521, by omega⟩
    obtain ⟨q2, hq2⟩ : ∃ q2, n % 65521 = n - 65521 * q2 := ⟨n / 65521, by omega⟩
    rw [hq, hq2]
    exact modp (-q + n - q2 * (lx + 65520)) (alg2 _ _ _ _ _ _)
  rw [hl, hhg]

theorem jn_range (a b n : Int) : 0 ≤ jn a b n ∧ jn a b n ≤ 4294967295 := by
  unfold jn
  have h1 := Int.emod_nonneg (a / 65536 + b / 65536 + (max n 0) % 65521 * (a % 65536 + 65520)) (show (65521 : Int) ≠ 0 by decide)
  have h2 := Int.emod_lt_of_pos (a / 65536 + b / 65536 + (max n 0) % 65521 * (a % 65536 + 65520)) (show (0 : Int) < 65521 by decide)
  omega

theorem tot_set (L : List Int) : ∀ (k : Nat), k < L.length → ∀ x, tot (L.set k x) = tot L + x - L.getD k 0 := by
  induction L with
  | nil => intro k h; simp at h
  | cons a L ih =>
    intro k h x
    cases k with
    | zero => simp only [List.set_cons_zero, tot_cons, List.getD_cons_zero]; omega
    | succ k =>
      have := ih k (by simpa using h) x
      simp only [List.set_cons_succ, tot_cons, List.getD_cons_succ, this]; omega

theorem turned_ne (L : List Int) (k : Nat) (h : k < L.length) (x : Int) (hx : 0 ≤ x ∧ x ≤ 255) (ho : 0 ≤ L.getD k 0 ∧ L.getD k 0 ≤ 255) (hne : x ≠ L.getD k 0) : adl L ≠ adl (L.set k x) := by
  intro he
  have h1 := (adl_parts L).1
  have h2 := (adl_parts (L.set k x)).1
  rw [← he, h1, st_low, st_low, tot_set L k h x] at h2
  omega
end Go.Proofs.Ytelddclhoojjmaa
