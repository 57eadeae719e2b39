import Derived.Test.YtgfgdkeeonolcaaIFit
import Derived.Test.YtgfgdkeeonolcaaLSame
import Derived.Laws.AppendOwnNone
namespace Go.Proofs.Ytgfgdkeeonolcaa
open Go.RowKit
set_option maxRecDepth 100000

theorem wpList_append_row {P : Program} {w : World} {ops : Array Oper} {rest : List Oper} {o : Oper} {a : Act} {Q : Exit → Act → World → Prop} (hgd : o.guard = none) (s x : Operand) (t : TypeId)
    (ho : o.op = .call { callee := .builtin .append, args := #[s, x], argTypes := #[t, t] })
    (base : Nat) (e : TypeId) (i : TypeInfo) (z : Value) (size bytes : Nat) (ht : P.underlying t = some (.slice e)) (hi : P.info? e = some i) (hz : i.zero = some z)
    (hsize : i.size = size) (hby : i.bytes = bytes) (hzs : z.cells.size = size) (hsz : 0 < size)
    (v : Value) (n : Nat) (xs : List Value) (hs : a.eval s = v) (hown : w.ownsRow base e size v n xs)
    (u : Value) (m B : Nat) (news : List Value) (hx : a.eval x = u) (hou : w.ownsRow B e size u m news) (h1 : ∀ u ∈ news, u.oneCell' = true)
    (h63 : n + m ≤ maxLen) (hbytes : (n + m) * bytes ≤ 140737488355328) (hbase : base ≤ w.heap.size)
    (h : ∀ v' w', w'.ownsRow base e size v' (n + m) (xs ++ news) → w.grownBy w' v.ownBlock → wpList P ops Q rest (a.put o.dst v') w') : wpList P ops Q (o :: rest) a w := by
  rcases hou.2 with ⟨rfl, rfl⟩ | ⟨g, cap, cur, rfl, _⟩
  · have hnl : news = [] := List.eq_nil_of_length_eq_zero (by simpa using hou.1)
    subst hnl
    refine wpList_append_own_none hgd s x t ho base e i size ht hi v n xs hs hown hx ?_
    exact h v w (by simpa using hown) (World.grownBy.refl _ _)
  · exact wpList_append_own w hgd s x t ho base e i z size bytes ht hi hz hsize hby hzs hsz v n xs hs hown ⟨g, 0, none⟩ m cap news hx hou.1 (hou.cells rfl) h1 h63 hbytes hbase (fun v' w' h1 h2 _ => h v' w' h1 h2)
theorem cv_one' (L : List (Nat × Nat)) : ∀ u ∈ cv L, u.oneCell' = true := by
  intro u hu
  simp [cv] at hu
  obtain ⟨a, b, _, h | h⟩ := hu <;> subst h <;> rfl
theorem bv_one' (L : List Int) : ∀ u ∈ bv L, u.oneCell' = true := by
  intro u hu; simp [bv] at hu; obtain ⟨z, _, rfl⟩ := hu; rfl
theorem cv_get (L : List (Nat × Nat)) : ∀ j, j < L.length → (cv L)[j * 2]? = some (.int .u8 (L.getD j (0, 0)).1) ∧ (cv L)[j * 2 + 1]? = some (.int .u32 (L.getD j (0, 0)).2) := by
  induction L with
  | nil => intro j hj; simp at hj
  | cons p L ih =>
    intro j hj
    have e : cv (p :: L) = .int .u8 p.1 :: .int .u32 p.2 :: cv L := rfl
    cases j with
    | zero => rw [e]; exact ⟨rfl, rfl⟩
    | succ j =>
      have := ih j (by simpa using hj)
      rw [e, show (j + 1) * 2 = j * 2 + 1 + 1 by omega]
      exact this
theorem own_crd {w : World} {B : Nat} {v : Value} {L : List (Nat × Nat)} (h : w.ownsRow B 37 2 v L.length (cv L)) : ∃ ao cap, v = .slice ao L.length cap ∧ CRd w ao L w.heap.size := by
  rcases h.2 with ⟨rfl, h0⟩ | ⟨g, cap, cur, rfl, hh⟩
  · exact ⟨none, 0, by rw [h0], fun hp => absurd hp (by omega)⟩
  · refine ⟨some ⟨g, 0, none⟩, cap, rfl, fun _ => ⟨g, 0, rfl, (h.lt g rfl).2, fun j hj => ?_⟩⟩
    obtain ⟨c0, c1⟩ := cv_get L j hj
    have a0 := h.cells (g := g) rfl _ _ c0
    have a1 := h.cells (g := g) rfl _ _ c1
    rw [Go.WideShapes.add_plain] at a0 a1
    exact ⟨a0, by rw [Nat.add_assoc]; exact a1⟩
theorem own_crd2 {w : World} {B : Nat} {ao : Option Addr} {cap : Nat} {L : List (Nat × Nat)} (h : w.ownsRow B 37 2 (.slice ao L.length cap) L.length (cv L)) : CRd w ao L w.heap.size := by
  obtain ⟨a, c, e, hr⟩ := own_crd h
  simp only [Value.slice.injEq] at e
  rw [e.1]; exact hr
theorem own_reads5 {w : World} {B : Nat} {v : Value} {zs : List Int} (h : w.ownsRow B 5 1 v zs.length (bv zs)) : ∃ ao cap, v = .slice ao zs.length cap ∧ Reads w ao zs w.heap.size := own_reads h
theorem ones_apart {w : World} {B C e e' s s' n n' : Nat} {v v' : Value} {xs xs' : List Value} {wl : World} (h : wl.ownsRow B e s v n xs) (h' : w.ownsRow C e' s' v' n' xs') (hl : wl.heap.size ≤ C) : v.ownBlock = none ∨ v.ownBlock ≠ v'.ownBlock := by
  cases hb : v.ownBlock with
  | none => exact .inl rfl
  | some b =>
    right
    intro e
    have h1 := (h.lt b hb).2
    have h2 := (h'.lt b e.symm).1
    omega
theorem encB_ok (L : List (Nat × Nat)) (h : allOk L = true) (hl : L.length ≤ 16384) : encB L = encF L ∧ encI L = 0 ∧ encX L = 0 := by
  simp [encB, encI, encX, h, show ¬ 16384 < L.length by omega]
theorem below_drew0 {w : World} (n : Nat) : Below w.heap.size w (w.drewN n) := below_drewN (Below.refl _ _) n
end Go.Proofs.Ytgfgdkeeonolcaa
