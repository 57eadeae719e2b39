import Derived.Test.YtgfgdkeeonolcaaIIu
import Derived.Shelf.Abstract
import Derived.Shelf.RegionOpen
namespace Go.Proofs.Ytgfgdkeeonolcaa
open Go.RowKit Go.Shelf
attribute [local go_sem] Oper.semAt_some

theorem rds_stops (n : Nat) (hn1 : 1 ≤ n) (Bs : Nat) (ao : Option Addr) (cap : Nat) (zs : List Int) (w : World) (B0 : Nat) (hn : zs.length ≤ 140737488355328) (hcp : zs.length ≤ cap) (hwf : ∀ z ∈ zs, 0 ≤ z ∧ z ≤ 255)
    (hc : Boxed w Bs 22 (.slice ao zs.length cap)) (hr : Reads w ao zs B0) (hB0 : B0 ≤ w.heap.size) :
    SeqStopsK Fence.wide n Try.prog 16 #[.pointer (some ⟨Bs, 0, none⟩)] encI2 (Kd Bs ao cap zs B0) (fun ys => ys = items zs) (fun pre => pre <+: items zs) 16385 w :=
  fun l J Jx W hW hJ _ hY h0 => rds1_in n hn1 l Bs B0 ao cap zs J Jx W hJ hn hcp hwf hY ((hW.block Bs hc.lt).trans hc) (hr.below (hW.mono hB0)) (Nat.le_trans hB0 hW.size) h0
theorem Kd_refl (Bs : Nat) (ao : Option Addr) (cap : Nat) (zs : List Int) (B0 : Nat) (W : World) : Kd Bs ao cap zs B0 W W := ⟨id, id, fun _ _ h => h⟩
def gIt (x : It) : Nat × Nat := (x.2.1, x.2.2.1)
def okD (zs : List Int) : Bool := (items zs).all fun x => x.2.2.2.2 == 0
def dcB (zs : List Int) : List (Nat × Nat) := if okD zs then (items zs).map gIt else []
def dcI (zs : List Int) : Nat := if okD zs then 0 else ((items zs).getLastD (0, (0, 0, 0, 0))).1
def dcX (zs : List Int) : Nat := if okD zs then 0 else ((items zs).getLastD (0, (0, 0, 0, 0))).2.2.2.2
theorem boxed_step {A B : World} {row : Option Nat} {b t : Nat} {v : Value} (h : Boxed A b t v) (hg : A.grownBy B row) (hr : ∀ r, row = some r → ∃ o : Obj, A.heap[r]? = some o ∧ o.isCells = false) : Boxed B b t v :=
  h.kept hg (fun e => by
    obtain ⟨o, ho, hc⟩ := hr b e.symm
    have h' : A.heap[b]? = some (.cells #[v] t (0, 0)) := h
    rw [h'] at ho
    cases ho
    cases hc)
theorem grow_step2 {A B : World} {row : Option Nat} {b e sz n : Nat} {v : Value} {xs : List Value} (h : A.ownsRow b e sz v n xs) (hg : A.grownBy B row) (hr : ∀ r, row = some r → ∃ o : Obj, A.heap[r]? = some o ∧ o.isCells = false) : B.ownsRow b e sz v n xs := by
  refine h.kept hg ?_
  rcases h.2 with ⟨rfl, _⟩ | ⟨g, cap, cur, rfl, _, hh, _⟩
  · exact .inl rfl
  · right
    intro e
    obtain ⟨o, ho, hc⟩ := hr g e.symm
    rw [hh] at ho
    cases ho
    cases hc
theorem row_step {A B : World} {row : Option Nat} {b t : Nat} {cs : Array Value} (h : A.heap[b]? = some (.cells cs t)) (hg : A.grownBy B row) (hr : ∀ r, row = some r → ∃ o : Obj, A.heap[r]? = some o ∧ o.isCells = false) : B.heap[b]? = some (.cells cs t) := by
  refine (hg.block b (Array.getElem?_eq_some_iff.1 h).1 (fun e => ?_)).trans h
  obtain ⟨o, ho, hc⟩ := hr b e.symm
  rw [h] at ho
  cases ho
  cases hc
theorem rd_keep {W W1 : World} {o1 : Obj} {B n : Nat} {v : Value} {xs : List Value} (own : W.ownsRow B 37 2 v n xs) (hg : (W.alloc o1).grownBy W1 v.ownBlock) {b : Nat} {cs : Array Value} (h : W.heap[b]? = some (Obj.cells cs 48)) : W1.heap[b]? = some (Obj.cells cs 48) := by
  have hb := (Array.getElem?_eq_some_iff.1 h).1
  refine (hg.block b (by simp; omega) (fun e => ?_)).trans ((Below.heap_alloc _ _ _ hb).trans h)
  rcases own.2 with ⟨rfl, _⟩ | ⟨g, cap, cur, rfl, _, hh, _⟩
  · cases e
  · cases e
    rw [hh] at h
    cases h
theorem rd_set {W : World} {t c b : Nat} {u u' : Value} {cs : Array Value} (hx : Boxed W c t u) (ht : t ≠ 48) (h : W.heap[b]? = some (Obj.cells cs 48)) : (W.setCell ⟨c, 0, none⟩ u').heap[b]? = some (Obj.cells cs 48) := by
  refine ((grownBy_setCell' W c u').block b (Array.getElem?_eq_some_iff.1 h).1 (fun e => ?_)).trans h
  cases e
  have hx' : W.heap[c]? = some (.cells #[u] t (0, 0)) := hx
  rw [hx'] at h
  cases h
  exact ht rfl
theorem getLastD_snoc {α : Type} (l : List α) (x d : α) : (l ++ [x]).getLastD d = x := by simp
theorem dec_ok {zs : List Int} {ys : List It} (h : ys = items zs) (ha : ∀ x ∈ ys, x.2.2.2.2 = 0) : dcB zs = ys.map gIt ∧ dcI zs = 0 ∧ dcX zs = 0 := by
  subst h
  have : okD zs = true := by rw [okD, List.all_eq_true]; intro x hx; simp [ha x hx]
  simp [dcB, dcI, dcX, this]
theorem rds_bad (zs : List Int) : ∀ (f k p : Nat) (q : List It) (x : It) (t : List It), rds zs f k p = q ++ x :: t → ¬ x.2.2.2.2 = 0 → t = []
  | 0, _, _, q, x, t, h, _ => by rw [rds] at h; simp at h
  | f + 1, k, p, q, x, t, h, hx => by
    by_cases hp : p < zs.length
    · rw [rds_step zs f k p hp] at h
      cases q with
      | nil =>
        simp only [List.nil_append, List.cons.injEq] at h
        obtain ⟨rfl, h2⟩ := h
        rw [if_neg hx] at h2
        exact h2.symm
      | cons y q =>
        simp only [List.cons_append, List.cons.injEq] at h
        obtain ⟨rfl, h2⟩ := h
        split at h2
        · exact rds_bad zs f _ _ q x t h2 hx
        · simp at h2
    · rw [rds_end zs _ k p hp] at h; simp at h
theorem dec_bad {zs : List Int} {q : List It} {x : It} (h : q ++ [x] <+: items zs) (hx : ¬ x.2.2.2.2 = 0) : dcB zs = [] ∧ dcI zs = x.1 ∧ dcX zs = x.2.2.2.2 := by
  obtain ⟨t, ht⟩ := h
  have ht' : items zs = q ++ x :: t := by rw [← ht]; simp
  have h0 : t = [] := rds_bad zs _ _ _ q x t ht' hx
  subst h0
  have hI : items zs = q ++ [x] := ht'
  have : okD zs = false := by rw [okD, hI]; simp [hx]
  simp [dcB, dcI, dcX, this, hI]
theorem gbox2 {B b t e sz n : Nat} {w w1 : World} {v v0 : Value} {ys : List Value} {o : Obj} (h : Boxed w b t v) (hb : b < B) (own : w.ownsRow B e sz v0 n ys) (hg : (w.alloc o).grownBy w1 v0.ownBlock) : Boxed w1 b t v :=
  (h.alloc o).kept hg (fun e => by have := (own.lt b e.symm).1; omega)
theorem own_any {w : World} {B e sz n : Nat} {v : Value} {xs : List Value} (h : w.ownsRow B e sz v n xs) : ∃ a c, v = .slice a n c := by
  rcases h.2 with ⟨rfl, rfl⟩ | ⟨g, cap, cur, rfl, _⟩
  · exact ⟨_, _, rfl⟩
  · exact ⟨_, _, rfl⟩
def BoxAny (W : World) (b t : Nat) : Prop := ∃ v, Boxed W b t v
theorem any_set {W : World} {b t : Nat} {v : Value} (h : BoxAny W b t) : Boxed (W.setCell ⟨b, 0, none⟩ v) b t v := by obtain ⟨u, hu⟩ := h; exact hu.set v
theorem any_other {W : World} {b c t : Nat} {v : Value} (h : BoxAny W b t) (hne : b ≠ c) : BoxAny (W.setCell ⟨c, 0, none⟩ v) b t := by obtain ⟨u, hu⟩ := h; exact ⟨u, hu.other hne v⟩
theorem any_drew {W : World} {b t : Nat} (h : BoxAny W b t) : BoxAny W.drew b t := h
theorem own_nt {w : World} {B e sz n b : Nat} {v : Value} {xs : List Value} (h : w.ownsRow B e sz v n xs) (ha : b < B) : v.ownBlock ≠ some (⟨b, 0, none⟩ : Addr).block := fun e => by have := (h.lt b e).1; omega
theorem heap_set_ne {W : World} {b D : Nat} {v : Value} (h : D ≠ b) : (W.setCell ⟨b, 0, none⟩ v).heap[D]? = W.heap[D]? := Below.heap_setCell _ _ _ _ h
theorem keeps_drew {W X : World} (h : KeepsOthers W X) : KeepsOthers W X.drew := ⟨h.size, h.same⟩
theorem boxed_drew {X : World} {b t : Nat} {v : Value} (h : Boxed X b t v) : Boxed X.drew b t v := h
theorem below_ge {B b : Nat} (h : B ≤ b) : B ≤ (⟨b, 0, none⟩ : Addr).block := h
end Go.Proofs.Ytgfgdkeeonolcaa
