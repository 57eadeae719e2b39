import Derived.Test.YtnlfgijmkgihcaaDoorPAi
namespace Go.Proofs.YtnlfgijmkgihcaaDoor
open Go.RowKit Go.WideShapes Go.Shelf
set_option maxRecDepth 100000

/-- where a number stands, or would stand -/
def atN (p : Nat → Bool) (n y : Nat) : Nat := (rng p 0 (min y n)).length
theorem els_two (p : Nat → Bool) (n y : Nat) : els n p = rng p 0 (min y n) ++ rng p (min y n) n := by
  rw [← rng_els, ← rng_cut (Nat.zero_le _) (Nat.min_le_right _ _)]
theorem at_le (p : Nat → Bool) (n y : Nat) : atN p n y ≤ (els n p).length := by
  rw [els_two p n y, List.length_append]
  exact Nat.le_add_right _ _
theorem els_take (p : Nat → Bool) (n y : Nat) : (els n p).take (atN p n y) = rng p 0 (min y n) := by
  rw [els_two p n y]
  exact List.take_left
theorem els_drop (p : Nat → Bool) (n y : Nat) : (els n p).drop (atN p n y) = rng p (min y n) n := by
  rw [els_two p n y]
  exact List.drop_left
theorem at_lt {p : Nat → Bool} {n y i : Nat} (hi : i < atN p n y) : (els n p).getD i 0 < y := by
  have h1 : (els n p).getD i 0 ∈ rng p 0 (min y n) := by
    rw [els_two p n y, List.getD_eq_getElem?_getD, List.getElem?_append_left hi, List.getElem?_eq_getElem hi]
    exact List.getElem_mem hi
  have := (mem_rng.1 h1).1.2
  omega
theorem at_get {p : Nat → Bool} {n y : Nat} (h : atN p n y < (els n p).length) : (els n p).getD (atN p n y) 0 ∈ rng p (min y n) n ∧ (rng p (min y n) n).head? = some ((els n p).getD (atN p n y) 0) := by
  have hd := els_drop p n y
  have hh : (rng p (min y n) n).head? = some ((els n p).getD (atN p n y) 0) := by
    rw [← hd, List.head?_drop, List.getD_eq_getElem?_getD, List.getElem?_eq_getElem h]
    rfl
  exact ⟨List.mem_of_mem_head? hh, hh⟩
theorem at_ge {p : Nat → Bool} {n y : Nat} (h : atN p n y < (els n p).length) : y ≤ (els n p).getD (atN p n y) 0 := by
  have h1 := (mem_rng.1 (at_get h).1).1
  omega
theorem at_there {p : Nat → Bool} {n y : Nat} (hp : ∀ z, p z = true → z < n) : decide (atN p n y < (els n p).length ∧ (els n p).getD (atN p n y) 0 = y) = p y := by
  rw [Bool.eq_iff_iff, decide_eq_true_eq]
  constructor
  · rintro ⟨h1, h2⟩
    have := (mem_rng.1 (at_get h1).1).2
    rw [h2] at this
    exact this
  · intro h
    have hy := hp y h
    have hr : rng p (min y n) n = y :: rng p (y + 1) n := by rw [Nat.min_eq_left (by omega)]; exact rng_one hy h
    have hl : atN p n y < (els n p).length := by
      rw [els_two p n y, List.length_append, hr, List.length_cons]
      unfold atN
      omega
    refine ⟨hl, ?_⟩
    have := (at_get hl).2
    rw [hr] at this
    simp only [List.head?_cons, Option.some.injEq] at this
    exact this.symm
theorem rng_congr {p q : Nat → Bool} {a b : Nat} (h : ∀ z, a ≤ z → z < b → p z = q z) : rng p a b = rng q a b := by
  unfold rng
  apply List.filter_congr
  intro x hx
  rw [List.mem_range'_1] at hx
  exact h x hx.1 (by omega)
theorem els_putL {p q : Nat → Bool} {n y : Nat} (hq : ∀ z, q z = (p z || decide (z = y))) (hy : y < n) (hn : p y = false) : els n q = (els n p).take (atN p n y) ++ y :: (els n p).drop (atN p n y) := by
  rw [els_take, els_drop, els_two q n y, Nat.min_eq_left (by omega)]
  rw [rng_congr (p := q) (q := p) (a := 0) (b := y) (fun z _ hz => by rw [hq]; simp [show z ≠ y by omega])]
  congr 1
  rw [rng_one hy (by rw [hq]; simp)]
  congr 1
  rw [rng_cut (p := p) (a := y) (c := y + 1) (b := n) (by omega) (by omega), rng_nil (p := p) (a := y) (b := y + 1) (fun z h1 h2 => by rw [show z = y by omega]; exact hn), List.nil_append]
  exact rng_congr (fun z h1 _ => by rw [hq]; simp [show z ≠ y by omega])
theorem els_dropL {p q : Nat → Bool} {n y : Nat} (hq : ∀ z, q z = (p z && !decide (z = y))) (hy : y < n) (hp : p y = true) : els n q = (els n p).take (atN p n y) ++ (els n p).drop (atN p n y + 1) := by
  have hd : (els n p).drop (atN p n y + 1) = rng p (y + 1) n := by
    rw [← List.drop_drop, els_drop, Nat.min_eq_left (by omega), rng_one hy hp]
    rfl
  rw [els_take, hd, els_two q n y, Nat.min_eq_left (by omega)]
  rw [rng_congr (p := q) (q := p) (a := 0) (b := y) (fun z _ hz => by rw [hq]; simp [show z ≠ y by omega])]
  congr 1
  rw [rng_cut (p := q) (a := y) (c := y + 1) (b := n) (by omega) (by omega), rng_nil (p := q) (a := y) (b := y + 1) (fun z h1 h2 => by rw [hq, show z = y by omega]; simp), List.nil_append]
  exact rng_congr (fun z h1 _ => by rw [hq]; simp [show z ≠ y by omega])

theorem put_same {bound : Nat} {ws : List Nat} {y : Nat} (h : hasW ws y = true) : putW bound ws y = ws := if_neg (fun q => by rw [h] at q; exact absurd q.2 (by decide))
theorem put_big {bound : Nat} {ws : List Nat} {y : Nat} (h : ¬ y < bound) : putW bound ws y = ws := if_neg (fun q => h q.1)
theorem drop_same {ws : List Nat} {y : Nat} (h : hasW ws y = false) : dropW ws y = ws := if_neg (fun q => by rw [h] at q; exact absurd q (by decide))
theorem has_putQ {bound : Nat} {ws : List Nat} {x : Nat} (hl : ws.length = (bound + 63) / 64) (hx : x < bound) (y : Nat) : hasW (putW bound ws x) y = (hasW ws y || decide (y = x)) := by
  unfold putW
  by_cases h : hasW ws x = false
  · rw [if_pos ⟨hx, h⟩, hasW_flip (by omega)]
    by_cases he : y = x
    · subst he; simp [h]
    · simp [he]
  · rw [if_neg (fun q => h q.2)]
    by_cases he : y = x
    · subst he; simpa using h
    · simp [he]
theorem has_dropQ {bound : Nat} {ws : List Nat} {x : Nat} (hl : ws.length = (bound + 63) / 64) (hx : x < bound) (y : Nat) : hasW (dropW ws x) y = (hasW ws y && !decide (y = x)) := by
  unfold dropW
  by_cases h : hasW ws x = true
  · rw [if_pos h, hasW_flip (by omega)]
    by_cases he : y = x
    · subst he; simp [h]
    · simp [he]
  · rw [if_neg h]
    by_cases he : y = x
    · subst he; simpa using h
    · simp [he]
end Go.Proofs.YtnlfgijmkgihcaaDoor
