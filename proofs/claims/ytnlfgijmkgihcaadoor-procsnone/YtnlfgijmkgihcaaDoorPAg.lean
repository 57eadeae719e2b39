import Derived.Test.YtnlfgijmkgihcaaDoorPLi
namespace Go.Proofs.YtnlfgijmkgihcaaDoor
open Go.RowKit Go.WideShapes Go.Shelf
set_option maxRecDepth 100000

/-- the cells that stood stand, one block aside -/
def Agree (A : World) (k : Nat) (V : World) : Prop := A.heap.size ≤ V.heap.size ∧ ∀ j o, j ≠ k → A.heap[j]? = some o → o.isCells = true → V.heap[j]? = some o
theorem Agree.refl (A : World) (k : Nat) : Agree A k A := ⟨Nat.le_refl _, fun _ _ _ h _ => h⟩
theorem Agree.alloc {A V : World} {k : Nat} (h : Agree A k V) (o : Obj) : Agree A k (V.alloc o) :=
  ⟨by simp; exact Nat.le_succ_of_le h.1, fun j o' hj ho hc => by have := h.2 j o' hj ho hc; exact (Below.heap_alloc _ _ _ (Array.getElem?_eq_some_iff.1 this).1).trans this⟩
theorem Agree.set {A V : World} {k : Nat} (h : Agree A k V) (v : Value) : Agree A k (V.setCell ⟨k, 0, none⟩ v) :=
  ⟨by simp; exact h.1, fun j o hj ho hc => (heap_setP hj).trans (h.2 j o hj ho hc)⟩
theorem Agree.high {A V : World} {k b : Nat} (h : Agree A k V) (hb : A.heap.size ≤ b) (v : Value) : Agree A k (V.setCell ⟨b, 0, none⟩ v) :=
  ⟨by simp; exact h.1, fun j o hj ho hc => (heap_setP (by have := (Array.getElem?_eq_some_iff.1 ho).1; omega)).trans (h.2 j o hj ho hc)⟩
theorem Agree.step {A V C : World} {k : Nat} {row : Option Nat} (h : Agree A k V) (hg : V.grownBy C row) (hr : ∀ r, row = some r → ∃ o : Obj, V.heap[r]? = some o ∧ o.isCells = false) : Agree A k C := by
  refine ⟨Nat.le_trans h.1 hg.size, fun j o hj ho hc => ?_⟩
  have h1 := h.2 j o hj ho hc
  refine (hg.block j (Array.getElem?_eq_some_iff.1 h1).1 (fun e => ?_)).trans h1
  obtain ⟨o2, h2, h3⟩ := hr j e.symm
  rw [h1] at h2
  cases h2
  rw [hc] at h3
  cases h3
theorem Agree.put {A V : World} {k l : Nat} {o o' : Obj} (h : Agree A k V) (hl : V.heap[l]? = some o) (hc : o.isCells = false) : Agree A k (V.putObj l o') := h.step (grownBy_putObj' V l o') (fun r e => by cases e; exact ⟨o, hl, hc⟩)
theorem Agree.box {A V : World} {k b t : Nat} {v : Value} (h : Agree A k V) (hb : Boxed A b t v) (hk : b ≠ k) : Boxed V b t v := h.2 b _ hk hb rfl
theorem Agree.cell {A V : World} {k : Nat} {p : Addr} {v : Value} (h : Agree A k V) (hp : A.cell? p = some v) (hk : p.block ≠ k) : V.cell? p = some v := by
  cases ho : A.heap[p.block]? with
  | none => simp [World.cell?, ho] at hp
  | some o =>
    have hc : o.isCells = true := by cases o <;> simp_all [World.cell?, Obj.isCells]
    exact (World.cell?_of_block ((h.2 _ o hk ho hc).trans ho.symm)).trans hp
theorem with_tmps {F : Fence} {n : Nat} {P : Program} {c : Code} {Q : Exit → Act → World → Prop} {ts : Array Value} {ds : List Deferred} {w : World} (h : ∀ T, T = ts → c.wpIn F n P Q { tmps := T, defers := ds } w) : c.wpIn F n P Q { tmps := ts, defers := ds } w := h _ rfl
theorem Upon.drewN (B : Nat) (W : World) (n : Nat) : Upon B W (W.drewN n) := ⟨Nat.le_refl _, fun _ _ _ => rfl⟩
theorem Agree.drewN {A V : World} {k : Nat} (h : Agree A k V) (n : Nat) : Agree A k (V.drewN n) := h
theorem Boxed.drewN {V : World} {b t : Nat} {v : Value} (h : Boxed V b t v) (n : Nat) : Boxed (V.drewN n) b t v := h
theorem calls_wideP {n m l0 : Nat} {P : Program} {f : FuncId} {args : Array Value} {w : World} {R : Ending → World → Prop} (h : CallsIn Fence.wide n P f args w R) : CallsIn (Fence.wide.inRound l0) m P f args w R :=
  ⟨trivial, fun cs _ => h.2 cs (fun _ hd => by cases hd)⟩
theorem Agree.inP {A V : World} {k : Nat} {ws : List Nat} {Bw Bf Be : Nat} {ao : Option Addr} {cap f e B0 : Nat} (h : Agree A k V) (hP : InP ws Bw Bf Be ao cap f e B0 A) (h1 : Bw ≠ k) (h2 : Bf ≠ k) (h3 : Be ≠ k) (h4 : B0 ≤ k) (h5 : 0 ≠ k) : InP ws Bw Bf Be ao cap f e B0 V :=
  ⟨h.box hP.bw h1, h.box hP.bf h2, h.box hP.be h3, fun hp => by
    obtain ⟨b, off, e1, hb, hc⟩ := hP.ws hp
    exact ⟨b, off, e1, hb, fun i hi => h.cell (hc i hi) (by show b ≠ k; omega)⟩, fun j hj => h.cell (hP.tab j hj) h5⟩
theorem wrap_smallP {k : Nat} (h : k < 1048577) : wrap64 ((k : Int) + 1) = (k : Int) + 1 := by unfold wrap64; omega
end Go.Proofs.YtnlfgijmkgihcaaDoor
