import Derived.Test.YtfeiigfcihdimaaHGb
import Derived.Deep.AppendLies
import Derived.Deep.RegionWith
import Derived.WideShapes
namespace Go.Proofs.Ytfeiigfcihdimaa
open Go.RowKit
set_option maxRecDepth 100000
theorem rows_type {w : World} {B B' e e' s s' n n' : Nat} {v v' : Value} {xs xs' : List Value} (he : e ≠ e') (h : w.ownsRow B e s v n xs) (h' : w.ownsRow B' e' s' v' n' xs') : v.ownBlock = none ∨ v.ownBlock ≠ v'.ownBlock := by
  rcases h.2 with ⟨rfl, _⟩ | ⟨g, cap, cur, rfl, _, hg, _⟩
  · exact .inl rfl
  · right
    rcases h'.2 with ⟨rfl, _⟩ | ⟨g', cap', cur', rfl, _, hg', _⟩
    · simp [Value.ownBlock]
    · intro e1
      simp only [Value.ownBlock, Option.some.injEq] at e1
      subst e1
      rw [hg] at hg'
      simp only [Option.some.injEq, Obj.cells.injEq] at hg'
      exact he hg'.2.1
theorem own_form0' {w : World} {B e sz : Nat} {v : Value} {n : Nat} {xs : List Value} (h : w.ownsRow B e sz v n xs) : ∃ a c, v = .slice a n c := by
  rcases h.2 with ⟨rfl, hz⟩ | ⟨g, cap, cur, rfl, _⟩
  · exact ⟨none, 0, by rw [hz]⟩
  · exact ⟨_, _, rfl⟩
theorem own_pos' {w : World} {B e sz : Nat} {a : Option Addr} {n c : Nat} {xs : List Value} (h : w.ownsRow B e sz (.slice a n c) n xs) (hn : 0 < n) : ∃ g, a = some ⟨g, 0, none⟩ := by
  rcases h.2 with ⟨_, hz⟩ | ⟨g, cap, cur, e, _⟩
  · omega
  · simp only [Value.slice.injEq] at e; exact ⟨g, e.1⟩
theorem own_at {w : World} {B e g n c : Nat} {vals : Nat → Value} (h : w.ownsRow B e 1 (.slice (some ⟨g, 0, none⟩) n c) n ((List.range n).map vals)) {k : Nat} (hk : k < n) : w.cell? ⟨g, k, none⟩ = some (vals k) := by
  have := h.cells (g := g) rfl k (vals k) (by simp [hk])
  rwa [Go.WideShapes.add_plain, Nat.zero_add] at this

/-- nothing but the lists' own memory has changed -/
structure Touch (n : Nat) (vals : Nat → Value) (w w' : World) : Prop where
  os : w'.os = w.os
  tape : w'.tape = w.tape
  output : w'.output = w.output
  size : w.heap.size ≤ w'.heap.size
  block : ∀ b, b < w.heap.size → (∀ i, i < n → (vals i).ownBlock ≠ some b) → w'.heap[b]? = w.heap[b]?
theorem Touch.refl (n : Nat) (vals : Nat → Value) (w : World) : Touch n vals w w := ⟨rfl, rfl, rfl, Nat.le_refl _, fun _ _ _ => rfl⟩
theorem Touch.trans {n : Nat} {vals : Nat → Value} {w w1 w2 : World} (h : Touch n vals w w1) (h' : Touch n vals w1 w2) : Touch n vals w w2 :=
  ⟨h'.os.trans h.os, h'.tape.trans h.tape, h'.output.trans h.output, Nat.le_trans h.size h'.size, fun b hb hn => (h'.block b (Nat.lt_of_lt_of_le hb h.size) hn).trans (h.block b hb hn)⟩
theorem Touch.of_below {n : Nat} {vals : Nat → Value} {w w1 : World} (h : Below w.heap.size w w1) : Touch n vals w w1 := ⟨h.os, h.tape, h.output, h.size, fun b hb _ => h.block b hb⟩
theorem Touch.below {n B : Nat} {vals : Nat → Value} {w w1 : World} (h : Touch n vals w w1) (hB : B ≤ w.heap.size) (hv : ∀ i b, i < n → (vals i).ownBlock = some b → B ≤ b) : Below B w w1 :=
  ⟨h.os, h.tape, h.output, h.size, fun b hb => h.block b (Nat.lt_of_lt_of_le hb hB) (fun i hi e => by have := hv i b hi e; omega)⟩
theorem Touch.of_grown {n k : Nat} {vals : Nat → Value} {w w1 : World} (hk : k < n) (h : w.grownBy w1 (vals k).ownBlock) : Touch n vals w w1 :=
  ⟨h.os, h.tape, h.output, h.size, fun b hb hn => h.block b hb (fun e => hn k hk e.symm)⟩

theorem Touch.alloc_grown {n : Nat} {vals : Nat → Value} {w0 wr w5 : World} {o : Obj} {row : Option Nat} (hT : Touch n vals w0 wr) (hg : (wr.alloc o).grownBy w5 row) (hrow : ∀ b, row = some b → (∃ i, i < n ∧ (vals i).ownBlock = some b) ∨ w0.heap.size ≤ b) : Touch n vals w0 w5 := by
  refine ⟨hg.os.trans hT.os, hg.tape.trans hT.tape, hg.output.trans hT.output, Nat.le_trans hT.size (Nat.le_trans (by simp) hg.size), fun b hb hn => ?_⟩
  have hb' : b < wr.heap.size := Nat.lt_of_lt_of_le hb hT.size
  refine ((hg.block b (by simp; omega) (fun e => ?_)).trans (heap_alloc_old wr o hb')).trans (hT.block b hb hn)
  rcases hrow b e.symm with ⟨i, hi, hv⟩ | h
  · exact hn i hi hv
  · omega

theorem own_form {w : World} {B e sz : Nat} {v : Value} {n : Nat} {xs : List Value} (h : w.ownsRow B e sz v n xs) (hn : 0 < n) : ∃ g c, v = .slice (some ⟨g, 0, none⟩) n c ∧ n ≤ c := by
  rcases h.2 with ⟨_, rfl⟩ | ⟨g, cap, cur, rfl, _, _, hc, _⟩
  · omega
  · exact ⟨g, cap, rfl, hc⟩
theorem obj_cell {w : World} {a : Nat} {cs : Array Value} {t : TypeId} {fr : Nat × Nat} (h : w.heap[a]? = some (.cells cs t fr)) (i : Nat) : w.cell? ⟨a, i, none⟩ = cs[i]? := by
  simp [World.cell?, h]
end Go.Proofs.Ytfeiigfcihdimaa
