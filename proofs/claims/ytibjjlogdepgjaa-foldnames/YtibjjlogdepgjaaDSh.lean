import Derived.Test.YtibjjlogdepgjaaDAw
import Derived.Laws.AppendOwnNone
namespace Go.Proofs.Ytibjjlogdepgjaa
open Go.RowKit Go.WideShapes
set_option maxRecDepth 100000

theorem infoDI : ∃ i : TypeInfo, Try.prog.info? 26 = some i ∧ i.zero = some (.agg #[.int .u8 0, .int .u32 0]) ∧ i.size = 2 ∧ i.bytes = 8 := by
  have h : (Try.prog.info? 26).map (fun i => (i.zero, i.size, i.bytes)) = some (some (.agg #[.int .u8 0, .int .u32 0]), 2, 8) := by kernel_rfl
  cases hi : Try.prog.info? 26 with
  | none => rw [hi] at h; simp at h
  | some i =>
    rw [hi] at h
    simp only [Option.map_some, Option.some.injEq, Prod.mk.injEq] at h
    exact ⟨i, rfl, h.1, h.2.1, h.2.2⟩
theorem cvD_one (L : List (Nat × Nat)) : ∀ u ∈ cv L, u.oneCell' = true := by
  intro u hu
  simp [cv] at hu
  obtain ⟨a, b, _, h | h⟩ := hu <;> subst h <;> rfl
/-- code that is read is put behind a row -/
theorem append_crd {w : World} {ops : Array Oper} {rest : List Oper} {o : Oper} {a : Act} {Q : Exit → Act → World → Prop} (hgd : o.guard = none) (s x : Operand)
    (ho : o.op = .call { callee := .builtin .append, args := #[s, x], argTypes := #[27, 27] })
    (base : Nat) (v : Value) (A : List (Nat × Nat)) (hs : a.eval s = v) (hown : w.ownsRow base 26 2 v A.length (cv A))
    (ao : Option Addr) (cap : Nat) (L : List (Nat × Nat)) (hx : a.eval x = .slice ao L.length cap) (hn : ao = none → cap = 0) (hr : CRd w ao L w.heap.size)
    (hb : A.length + L.length ≤ 4000000) (hbase : base ≤ w.heap.size)
    (h : ∀ v' w', w'.ownsRow base 26 2 v' (A ++ L).length (cv (A ++ L)) → w.grownBy w' v.ownBlock → wpList Try.prog ops Q rest (a.put o.dst v') w') : wpList Try.prog ops Q (o :: rest) a w := by
  obtain ⟨i, hi, hz0, hz1, hz2⟩ := infoDI
  cases ao with
  | none =>
    have hL : L = [] := by
      cases L with
      | nil => rfl
      | cons p L => obtain ⟨b, off, e, _⟩ := hr (by simp); cases e
    subst hL
    rw [hn rfl] at hx
    refine wpList_append_own_none hgd s x 27 ho base 26 i 2 Try.underlying27 hi v A.length (cv A) hs hown hx ?_
    exact h v w (by simpa using hown) (World.grownBy.refl _ _)
  | some ad =>
    refine wpList_append_own w hgd s x 27 ho base 26 i (.agg #[.int .u8 0, .int .u32 0]) 2 8 Try.underlying27 hi hz0 hz1 hz2 rfl (by decide) v A.length (cv A) hs hown ad L.length cap (cv L) hx (cv_len L) ?_ (cvD_one L) (by unfold maxLen; omega) (by omega) hbase (fun v' w' h1 h2 _ => h v' w' (by rw [List.length_append, cv_append]; exact h1) h2)
    intro j u hj
    have hjl : j < L.length * 2 := by
      have := (List.getElem?_eq_some_iff.1 hj).1
      rwa [cv_len] at this
    obtain ⟨b, off, e, hlt, hc⟩ := hr (by omega)
    cases e
    have hd := hc (j / 2) (by omega)
    have hg := cvD_get L (j / 2) (by omega)
    rw [show w.cell? ((⟨b, off, none⟩ : Addr).add j) = w.cell? ⟨b, off + j, none⟩ by rw [Go.WideShapes.add_plain]]
    rcases Nat.mod_two_eq_zero_or_one j with hm | hm
    · rw [show (cv L)[j]? = (cv L)[j / 2 * 2]? from congrArg (fun k => (cv L)[k]?) (by omega), hg.1] at hj
      cases hj
      rw [show off + j = off + j / 2 * 2 by omega]
      exact hd.1
    · rw [show (cv L)[j]? = (cv L)[j / 2 * 2 + 1]? from congrArg (fun k => (cv L)[k]?) (by omega), hg.2] at hj
      cases hj
      rw [show off + j = off + j / 2 * 2 + 1 by omega]
      exact hd.2
/-- a row that is owned is read -/
theorem own_crdD {w : World} {B : Nat} {v : Value} {L : List (Nat × Nat)} (h : w.ownsRow B 26 2 v L.length (cv L)) : ∃ ao cap, v = .slice ao L.length cap ∧ L.length ≤ cap ∧ CRd w ao L w.heap.size := by
  rcases h.2 with ⟨rfl, h0⟩ | ⟨g, cap, cur, rfl, hh⟩
  · exact ⟨none, 0, by rw [h0], by omega, fun hp => absurd hp (by omega)⟩
  · refine ⟨some ⟨g, 0, none⟩, cap, rfl, ?_, fun _ => ⟨g, 0, rfl, (h.lt g rfl).2, fun j hj => ?_⟩⟩
    · exact hh.2.2.1
    · obtain ⟨c0, c1⟩ := cvD_get L j hj
      have a0 := h.cells (g := g) rfl _ _ c0
      have a1 := h.cells (g := g) rfl _ _ c1
      rw [Go.WideShapes.add_plain] at a0 a1
      exact ⟨a0, by rw [Nat.add_assoc]; exact a1⟩
theorem lnE_mid (X Y Z : List (Nat × Nat)) (h : 0 < Y.length) : lnE (X ++ Y ++ Z) X.length (X.length + Y.length) = lnE Y 0 Y.length := by
  have e : (X ++ Y ++ Z).getD X.length (0, 0) = Y.getD 0 (0, 0) := by
    simp only [List.getD]
    rw [List.append_assoc, List.getElem?_append_right (Nat.le_refl _), Nat.sub_self, List.getElem?_append_left h]
  simp only [lnE, e]
  rw [if_pos ⟨by omega, by simp⟩, if_pos ⟨h, Nat.le_refl _⟩]
theorem lnP_mid (X Y Z : List (Nat × Nat)) (h : 0 < Y.length) (h0 : lnE Y 0 Y.length = 0) : lnP (X ++ Y ++ Z) X.length (X.length + Y.length) = (X.length, (lnP Y 0 Y.length).2) := by
  have e : (X ++ Y ++ Z).getD X.length (0, 0) = Y.getD 0 (0, 0) := by
    simp only [List.getD]
    rw [List.append_assoc, List.getElem?_append_right (Nat.le_refl _), Nat.sub_self, List.getElem?_append_left h]
  have hE : erV (Y.getD 0 (0, 0)).1 (Y.getD 0 (0, 0)).2 = 0 := by
    rw [lnE, if_pos ⟨h, Nat.le_refl _⟩] at h0; exact h0
  have e2 : ((X ++ Y ++ Z).drop X.length).take (X.length + Y.length - X.length) = Y := by
    rw [List.append_assoc, List.drop_left, Nat.add_sub_cancel_left, List.take_left]
  simp only [lnP, e, e2]
  rw [if_pos ⟨by omega, by simp, hE⟩, if_pos ⟨h, Nat.le_refl _, hE⟩]
  simp
theorem lnP_bad (L : List (Nat × Nat)) (a e : Nat) (h0 : ¬ lnE L a e = 0) : lnP L a e = (0, 0, 0, 0) := by
  unfold lnP
  rw [if_neg]
  rintro ⟨h1, h2, h3⟩
  exact h0 (by rw [lnE, if_pos ⟨h1, h2⟩]; exact h3)
end Go.Proofs.Ytibjjlogdepgjaa
