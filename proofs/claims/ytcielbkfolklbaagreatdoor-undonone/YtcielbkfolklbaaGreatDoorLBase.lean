import Derived.Test.YtcielbkfolklbaaGreatDoorRows
import Derived.WalkKit
import Derived.Laws.BitsAllLaws
import Derived.Deep.QuietTactic
import Derived.BigQuiet
import Derived.WalkSmall
namespace Go.Proofs.YtcielbkfolklbaaGreatDoor
open Go.RowKit
set_option maxRecDepth 100000

theorem Tryz.info5 : (Tryz.prog.info? 5).map (fun i => (i.zero, i.size, i.bytes)) = some (some (.int .u8 0), 1, 1) := by kernel_rfl

/-- bytes as values -/
def bv (L : List Int) : List Value := L.map (Value.int .u8)
theorem bv_append (L M : List Int) : bv (L ++ M) = bv L ++ bv M := by simp [bv]
theorem bv_len (L : List Int) : (bv L).length = L.length := by simp [bv]
theorem bv_one (x : Int) : bv [x] = [.int .u8 x] := rfl

/-- what a slice of bytes that is read holds -/
def Reads (w : World) (ao : Option Addr) (zs : List Int) (B : Nat) : Prop :=
  0 < zs.length → ∃ b off, ao = some ⟨b, off, none⟩ ∧ b < B ∧ ∀ j, j < zs.length → w.cell? ⟨b, off + j, none⟩ = some (.int .u8 (zs.getD j 0))

theorem Reads.below {w w' : World} {ao : Option Addr} {zs : List Int} {B : Nat} (h : Reads w ao zs B) (hb : Below B w w') : Reads w' ao zs B := by
  intro hl
  obtain ⟨b, off, e, hlt, hc⟩ := h hl
  exact ⟨b, off, e, hlt, fun j hj => (hb.cell (p := ⟨b, off + j, none⟩) hlt).trans (hc j hj)⟩
theorem Reads.mono {w : World} {ao : Option Addr} {zs : List Int} {B C : Nat} (h : Reads w ao zs B) (hb : B ≤ C) : Reads w ao zs C := by
  intro hl
  obtain ⟨b, off, e, hlt, hc⟩ := h hl
  exact ⟨b, off, e, Nat.lt_of_lt_of_le hlt hb, hc⟩
theorem Reads.nil (w : World) (ao : Option Addr) (B : Nat) : Reads w ao [] B := fun h => by simp at h

theorem take_snoc (zs : List Int) (k : Nat) (h : k < zs.length) : zs.take (k + 1) = zs.take k ++ [zs.getD k 0] := by
  rw [List.take_succ_eq_append_getElem h]
  simp [List.getD, List.getElem?_eq_getElem h]
theorem getD_mem {zs : List Int} {k : Nat} (h : k < zs.length) : zs.getD k 0 ∈ zs := by
  simp [List.getD, List.getElem?_eq_getElem h]

theorem own_snoc {w1 : World} {B : Nat} {v' : Value} {L M : List Int} {n : Nat} {x : Int} (hM : M = L ++ [x])
    (h : w1.ownsRow B 5 1 v' (n + 1) (bv L ++ [.int .u8 x])) : w1.ownsRow B 5 1 v' (n + 1) (bv M) := by
  rw [hM, bv_append]; exact h
theorem grown_below {B e sz : Nat} {a w w' : World} {xs : List Value} {v : Value} {n : Nat} {o : Obj} (h : Below B a w) (hB : B ≤ w.heap.size) (hown : w.ownsRow B e sz v n xs) (hg : (w.alloc o).grownBy w' v.ownBlock) : Below B a w' :=
  (h.alloc hB o).grown hg (by simp; omega) (fun k e => (hown.lt k e).1)
theorem own_cell {w1 : World} {B g n cap : Nat} {L : List Int} (h : w1.ownsRow B 5 1 (.slice (some ⟨g, 0, none⟩) n cap) L.length (bv L)) {i : Nat} (hi : i < L.length) : w1.cell? ⟨g, 0 + i, none⟩ = some (.int .u8 (L.getD i 0)) := by
  have := h.cells (g := g) rfl i (.int .u8 (L.getD i 0)) (by simp [bv, List.getD, List.getElem?_eq_getElem hi])
  have hadd : (⟨g, 0, none⟩ : Addr).add i = ⟨g, 0 + i, none⟩ := by unfold Addr.add; split <;> simp_all
  rw [← hadd]; exact this
theorem own_reads {w : World} {B : Nat} {v : Value} {zs : List Int} (h : w.ownsRow B 5 1 v zs.length (bv zs)) : ∃ ao cap, v = .slice ao zs.length cap ∧ Reads w ao zs w.heap.size := by
  have h' := h
  have hlt := h.lt
  rcases h.2 with ⟨rfl, hz⟩ | ⟨g, cap, cur, rfl, _⟩
  · have hl : zs.length = 0 := by simpa using hz
    exact ⟨none, 0, by rw [hl], fun hp => by omega⟩
  · exact ⟨_, cap, rfl, fun _ => ⟨g, 0, rfl, (hlt g rfl).2, fun j hj => own_cell h' hj⟩⟩
theorem ret_int {k : IntKind} {a b : Int} (h : a = b) : Ending.returned (.int k a) = .returned (.int k b) := by rw [h]
theorem below_drewN {B : Nat} {a w : World} (h : Below B a w) (n : Nat) : Below B a (w.drewN n) := h.trans ⟨rfl, rfl, rfl, Nat.le_refl _, fun _ _ => rfl⟩
end Go.Proofs.YtcielbkfolklbaaGreatDoor
