import Derived.Test.YtnalnlbainghoaaGreatDoorFWs
namespace Go.Proofs.YtnalnlbainghoaaGreatDoor
open Go.RowKit Go.WideShapes Go.Shelf
set_option maxRecDepth 100000

/-- what abides while ways are gone through -/
def RgI (L : List (Nat × Nat)) (J : List Nat) (k : Nat) (w0 w : World) (gd cp kr B1 m x : Nat) (D0 D : List Int) (Ds : List Nat) (nd jd r : Int) (pre : List Nat) (U : World) : Prop :=
  ∃ (E : List Int) (Wt : List Nat) (g c : Nat), WkS w0 w gd cp 0 E Wt Ds U ∧ HpW U w.heap.size (w.heap.size + 1 + 1 + 1) g c Wt ∧ (g < B1 ∨ B1 + 3 ≤ g) ∧ WkM L J k D0 E Wt nd jd x pre ∧ Boxed U kr 3 (.int .i64 r) ∧ 2 * unr E (bAt L k) (bAt L (k + 1)) + Wt.length < m ∧ E.getD x (-1) = D.getD x (-1)
def RgX (L : List (Nat × Nat)) (J : List Nat) (k x : Nat) (w0 w : World) (gd cp : Nat) (Ds : List Nat) (c : Code) (U : World) : Prop := c = .exit 0 ∧ ∃ (E : List Int) (Wt : List Nat), WkS w0 w gd cp 142 E Wt Ds U ∧ FltP L J k x 142
theorem RgI.step {L : List (Nat × Nat)} {J : List Nat} {k : Nat} {w0 w : World} {gd cp kr B1 m x : Nat} {D0 D : List Int} {Ds : List Nat} {nd jd r : Int} {pre : List Nat} {A C : World} {row : Option Nat} (h : RgI L J k w0 w gd cp kr B1 m x D0 D Ds nd jd r pre A) (hg : A.grownBy C row) (hr : ∀ r, row = some r → (∀ d ∈ Ds, d ≠ r) ∧ w.heap.size ≤ r ∧ ∃ o : Obj, A.heap[r]? = some o ∧ o.isCells = false) : RgI L J k w0 w gd cp kr B1 m x D0 D Ds nd jd r pre C := by
  obtain ⟨E, Wt, g, c, h1, h2, h3, h4, h5, h6⟩ := h
  have hk : Kp (fun k => row = some k) A C := Kp.ofGrown hg (fun i e _ => e)
  have no : ∀ b cs t fr, A.heap[b]? = some (.cells cs t fr) → ¬ row = some b := fun b cs t fr hb e => by
    obtain ⟨_, _, o, ho, hc⟩ := hr b e
    rw [hb] at ho
    cases ho
    cases hc
  obtain ⟨_, cur, ho⟩ := h2.obj
  exact ⟨E, Wt, g, c, h1.step hg hr, h2.kept hk (no _ _ _ _ h2.bx) (no _ _ _ _ ho), h3, h4, boxed_stepP h5 hg (fun r q => (hr r q).2.2), h6⟩
theorem RgX.step {L : List (Nat × Nat)} {J : List Nat} {k x : Nat} {w0 w : World} {gd cp : Nat} {Ds : List Nat} {c : Code} {A C : World} {row : Option Nat} (h : RgX L J k x w0 w gd cp Ds c A) (hg : A.grownBy C row) (hr : ∀ r, row = some r → (∀ d ∈ Ds, d ≠ r) ∧ w.heap.size ≤ r ∧ ∃ o : Obj, A.heap[r]? = some o ∧ o.isCells = false) : RgX L J k x w0 w gd cp Ds c C := by
  obtain ⟨h0, E, Wt, h1, h2⟩ := h
  exact ⟨h0, E, Wt, h1.step hg hr, h2⟩
theorem KeW.refl (w0 : World) (gd kw f e kc b1 b2 b3 : Nat) (U : World) : KeW w0 gd kw f e kc b1 b2 b3 U U := ⟨Nat.le_refl _, fun x => x, fun _ _ _ _ h1 h2 => ⟨h1, h2⟩⟩
theorem ke_kp {w0 w : World} {gd cp y g c g' c' f e kc b1 b2 b3 : Nat} {E : List Int} {Wt Wp Ds : List Nat} {U U' : World} (hw : HpW U w.heap.size (w.heap.size + 1 + 1 + 1) g c Wt) (hS' : WkS w0 w gd cp y E Wp Ds U') (hw' : HpW U' w.heap.size (w.heap.size + 1 + 1 + 1) g' c' Wp) (hk : Kp (fun i => i = gd ∨ i = g ∨ i = w.heap.size + 1 + 1 + 1) U U') (hg : g' = g ∨ U.heap.size ≤ g') (hb0 : Below w0.heap.size w0 w) (hb : ∀ b, b = b1 ∨ b = b2 ∨ b = b3 → ¬ (b = gd ∨ b = g ∨ b = w.heap.size + 1 + 1 + 1)) : KeW w0 gd (w.heap.size + 1 + 1 + 1) f e kc b1 b2 b3 U U' := by
  refine ⟨hk.size, fun q => ⟨hS'.base hb0, (hk.block b1 q.x1.lt (hb b1 (.inl rfl))).trans q.x1, (hk.block b2 q.x2.lt (hb b2 (.inr (.inl rfl)))).trans q.x2, (hk.block b3 q.x3.lt (hb b3 (.inr (.inr rfl)))).trans q.x3⟩, fun i cs t fr h1 h2 => ?_⟩
  have n1 : i ≠ gd := fun q => h2 (.inl q)
  have n2 : i ≠ w.heap.size + 1 + 1 + 1 := fun q => h2 (.inr (.inl q))
  have n3 : i ≠ g := fun q => h2 (.inr (.inr ⟨Wt.length, c, by rw [q]; exact hw.bx⟩))
  have hlt := (Array.getElem?_eq_some_iff.1 h1).1
  refine ⟨(hk.block i hlt (fun q => by rcases q with q | q | q <;> contradiction)).trans h1, fun q => ?_⟩
  rcases q with q | q | ⟨n, c2, q⟩
  · exact n1 q
  · exact n2 q
  · have h3 : U'.heap[w.heap.size + 1 + 1 + 1]? = _ := hw'.bx
    rw [h3] at q
    cases q
    rcases hg with q | q
    · exact n3 q
    · omega
theorem upon_kp {S : Nat → Prop} {B : Nat} {U U' : World} (hk : Kp S U U') (hs : ∀ i, S i → ∃ cs t fr, U.heap[i]? = some (.cells cs t fr)) : Upon B U U' :=
  ⟨hk.size, fun i o _ hi hc => (hk.block i (Array.getElem?_eq_some_iff.1 hi).1 (fun q => by
    obtain ⟨cs, t, fr, h⟩ := hs i q
    rw [h] at hi
    cases hi
    cases hc)).trans hi⟩
end Go.Proofs.YtnalnlbainghoaaGreatDoor
