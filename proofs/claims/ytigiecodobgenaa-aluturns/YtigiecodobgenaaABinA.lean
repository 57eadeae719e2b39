import Derived.Test.YtigiecodobgenaaSOne
import Derived.Test.YtigiecodobgenaaSRest
import Derived.Defers
import Derived.Recover
import Derived.Laws.Pointers
namespace Go.Proofs.Ytigiecodobgenaa
open Go.RowKit

theorem below_two (w : World) (x y : Obj) : Below w.heap.size w ((w.alloc x).alloc y) := ((Below.refl _ _).alloc (Nat.le_refl _) _).alloc (by simp) _
theorem below_set (w : World) (x y : Obj) (m : Nat) (u v : Value) : Below w.heap.size w (((((w.alloc x).alloc y).drewN m).setCell ⟨w.heap.size, 0, none⟩ u).setCell ⟨w.heap.size + 1, 0, none⟩ v) := by
  have h1 : Below w.heap.size w (((w.alloc x).alloc y).drewN m) := (below_two w x y).trans ⟨rfl, rfl, rfl, Nat.le_refl _, fun _ _ => rfl⟩
  have h2 := h1.setCell (p := ⟨w.heap.size, 0, none⟩) (Nat.le_refl _) u
  exact h2.setCell (p := ⟨w.heap.size + 1, 0, none⟩) (Nat.le_succ _) v

/-- a word read with its sign -/
def sx (a : Nat) : Int := if a < 2147483648 then a else (a : Int) - 4294967296
theorem wrap32_sx {a : Nat} (h : a < 4294967296) : wrap32 (a : Int) = sx a := by unfold wrap32 sx; split <;> omega
theorem sx_zero {a : Nat} (h : a < 4294967296) : sx a = 0 ↔ a = 0 := by unfold sx; split <;> omega
theorem wrap32_mod (z : Int) : wrap32 z % 4294967296 = z % 4294967296 := by unfold wrap32; omega
theorem divu_le {a b : Nat} (h : a < 4294967296) : (a : Int) / (b : Int) % 4294967296 = (a : Int) / (b : Int) := by
  have := Nat.div_le_self a b
  have e : (a : Int) / (b : Int) = ((a / b : Nat) : Int) := rfl
  rw [e]
  generalize a / b = c at *
  omega
theorem sx_range {a : Nat} (h : a < 4294967296) : -2147483648 ≤ sx a ∧ sx a ≤ 2147483647 := by unfold sx; split <;> omega

/-- what a binary operation makes of two words -/
def binV (op a b : Nat) : Nat := if op = 39 then (((a + b) % 4294967296 : Nat)) else if op = 40 then (((a + 4294967296 - b) % 4294967296 : Nat)) else if op = 41 then (((a * b) % 4294967296 : Nat)) else if op = 42 then (if b = 0 then 0 else (((sx a).tdiv (sx b) % 4294967296)).toNat) else if op = 43 then (if b = 0 then 0 else (a / b : Nat)) else if op = 44 then (if b = 0 then 0 else (((sx a).tmod (sx b) % 4294967296)).toNat) else if op = 45 then (if b = 0 then 0 else (a % b : Nat)) else if op = 46 then ((a &&& b : Nat)) else if op = 47 then ((a ||| b : Nat)) else if op = 48 then ((a ^^^ b : Nat)) else if op = 50 then ((a * 2 ^ (b % 32) % 4294967296 : Nat)) else if op = 51 then ((((sx a) / 2 ^ (b % 32) % 4294967296)).toNat) else if op = 52 then ((a / 2 ^ (b % 32) : Nat)) else if op = 54 then (fsum a b) else if op = 55 then (fsum a (tn b)) else if op = 56 then (fmul a b) else if op = 57 then (fdiv a b) else 0
/-- and its error -/
def binE (op b : Nat) : Int := if op = 42 ∨ op = 43 ∨ op = 44 ∨ op = 45 then (if b = 0 then 60 else 0) else if 39 ≤ op ∧ op ≤ 57 ∧ op ≠ 49 ∧ op ≠ 53 then 0 else 61
theorem binV_39 (a b : Nat) : binV 39 a b = (((a + b) % 4294967296 : Nat)) := by
  unfold binV
  repeat (first | rw [if_pos rfl] | rw [if_neg (by decide)])
theorem binE_39 (b : Nat) : binE 39 b = 0 := by
  unfold binE
  rw [if_neg (by decide), if_pos (by decide)]
theorem binV_40 (a b : Nat) : binV 40 a b = (((a + 4294967296 - b) % 4294967296 : Nat)) := by
  unfold binV
  repeat (first | rw [if_pos rfl] | rw [if_neg (by decide)])
theorem binE_40 (b : Nat) : binE 40 b = 0 := by
  unfold binE
  rw [if_neg (by decide), if_pos (by decide)]
theorem binV_41 (a b : Nat) : binV 41 a b = (((a * b) % 4294967296 : Nat)) := by
  unfold binV
  repeat (first | rw [if_pos rfl] | rw [if_neg (by decide)])
theorem binE_41 (b : Nat) : binE 41 b = 0 := by
  unfold binE
  rw [if_neg (by decide), if_pos (by decide)]
theorem binV_42 (a b : Nat) : binV 42 a b = (if b = 0 then 0 else (((sx a).tdiv (sx b) % 4294967296)).toNat) := by
  unfold binV
  repeat (first | rw [if_pos rfl] | rw [if_neg (by decide)])
theorem binE_42 (b : Nat) : binE 42 b = if b = 0 then 60 else 0 := by
  unfold binE
  rw [if_pos (by decide)]
theorem binV_43 (a b : Nat) : binV 43 a b = (if b = 0 then 0 else (a / b : Nat)) := by
  unfold binV
  repeat (first | rw [if_pos rfl] | rw [if_neg (by decide)])
theorem binE_43 (b : Nat) : binE 43 b = if b = 0 then 60 else 0 := by
  unfold binE
  rw [if_pos (by decide)]
theorem binV_44 (a b : Nat) : binV 44 a b = (if b = 0 then 0 else (((sx a).tmod (sx b) % 4294967296)).toNat) := by
  unfold binV
  repeat (first | rw [if_pos rfl] | rw [if_neg (by decide)])
theorem binE_44 (b : Nat) : binE 44 b = if b = 0 then 60 else 0 := by
  unfold binE
  rw [if_pos (by decide)]
theorem binV_45 (a b : Nat) : binV 45 a b = (if b = 0 then 0 else (a % b : Nat)) := by
  unfold binV
  repeat (first | rw [if_pos rfl] | rw [if_neg (by decide)])
theorem binE_45 (b : Nat) : binE 45 b = if b = 0 then 60 else 0 := by
  unfold binE
  rw [if_pos (by decide)]
theorem binV_46 (a b : Nat) : binV 46 a b = ((a &&& b : Nat)) := by
  unfold binV
  repeat (first | rw [if_pos rfl] | rw [if_neg (by decide)])
theorem binE_46 (b : Nat) : binE 46 b = 0 := by
  unfold binE
  rw [if_neg (by decide), if_pos (by decide)]
theorem binV_47 (a b : Nat) : binV 47 a b = ((a ||| b : Nat)) := by
  unfold binV
  repeat (first | rw [if_pos rfl] | rw [if_neg (by decide)])
theorem binE_47 (b : Nat) : binE 47 b = 0 := by
  unfold binE
  rw [if_neg (by decide), if_pos (by decide)]
theorem binV_48 (a b : Nat) : binV 48 a b = ((a ^^^ b : Nat)) := by
  unfold binV
  repeat (first | rw [if_pos rfl] | rw [if_neg (by decide)])
theorem binE_48 (b : Nat) : binE 48 b = 0 := by
  unfold binE
  rw [if_neg (by decide), if_pos (by decide)]
theorem binV_50 (a b : Nat) : binV 50 a b = ((a * 2 ^ (b % 32) % 4294967296 : Nat)) := by
  unfold binV
  repeat (first | rw [if_pos rfl] | rw [if_neg (by decide)])
theorem binE_50 (b : Nat) : binE 50 b = 0 := by
  unfold binE
  rw [if_neg (by decide), if_pos (by decide)]
theorem binV_51 (a b : Nat) : binV 51 a b = ((((sx a) / 2 ^ (b % 32) % 4294967296)).toNat) := by
  unfold binV
  repeat (first | rw [if_pos rfl] | rw [if_neg (by decide)])
theorem binE_51 (b : Nat) : binE 51 b = 0 := by
  unfold binE
  rw [if_neg (by decide), if_pos (by decide)]
theorem binV_52 (a b : Nat) : binV 52 a b = ((a / 2 ^ (b % 32) : Nat)) := by
  unfold binV
  repeat (first | rw [if_pos rfl] | rw [if_neg (by decide)])
theorem binE_52 (b : Nat) : binE 52 b = 0 := by
  unfold binE
  rw [if_neg (by decide), if_pos (by decide)]
theorem binV_54 (a b : Nat) : binV 54 a b = (fsum a b) := by
  unfold binV
  repeat (first | rw [if_pos rfl] | rw [if_neg (by decide)])
theorem binE_54 (b : Nat) : binE 54 b = 0 := by
  unfold binE
  rw [if_neg (by decide), if_pos (by decide)]
theorem binV_55 (a b : Nat) : binV 55 a b = (fsum a (tn b)) := by
  unfold binV
  repeat (first | rw [if_pos rfl] | rw [if_neg (by decide)])
theorem binE_55 (b : Nat) : binE 55 b = 0 := by
  unfold binE
  rw [if_neg (by decide), if_pos (by decide)]
theorem binV_56 (a b : Nat) : binV 56 a b = (fmul a b) := by
  unfold binV
  repeat (first | rw [if_pos rfl] | rw [if_neg (by decide)])
theorem binE_56 (b : Nat) : binE 56 b = 0 := by
  unfold binE
  rw [if_neg (by decide), if_pos (by decide)]
theorem binV_57 (a b : Nat) : binV 57 a b = (fdiv a b) := by
  unfold binV
  repeat (first | rw [if_pos rfl] | rw [if_neg (by decide)])
theorem binE_57 (b : Nat) : binE 57 b = 0 := by
  unfold binE
  rw [if_neg (by decide), if_pos (by decide)]
theorem nat_of {z : Int} : ((z % 4294967296).toNat : Int) = z % 4294967296 := Int.toNat_of_nonneg (Int.emod_nonneg _ (by decide))
end Go.Proofs.Ytigiecodobgenaa
