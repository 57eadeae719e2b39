import Derived.Test.YtfolcjamefgphaaRefCode
namespace Go.Proofs.Ytfolcjamefgphaa
open Go.RowKit

def escRef (s : ByteArray) (i : Nat) : Int × Int × Int :=
  if (escV (sub s (i + 1))).2.2.2 = true then ((escV (sub s (i + 1))).1, i + (escV (sub s (i + 1))).2.2.1, 0) else (0, i, 12)
def refR (x : Int × Int × Int) (b : ByteArray) : Ending := .returned (.tuple #[.string b, .int .i32 x.1, .int .i64 x.2.1, .bool false, .int .i64 x.2.2])
theorem escRef_of {s : ByteArray} {i : Nat} {x1 x3 : Int} {x2 : Bool} (h : escV (sub s (i + 1)) = (x1, x2, x3, true)) : escRef s i = (x1, i + x3, 0) := by
  rw [escRef, h]; simp
theorem escRef_no {s : ByteArray} {i : Nat} {x1 x3 : Int} {x2 : Bool} (h : escV (sub s (i + 1)) = (x1, x2, x3, false)) : escRef s i = (0, (i : Int), 12) := by
  rw [escRef, h]; simp
theorem num_yes' {s : ByteArray} {i n : Nat} (hn : 0 < n) (h : 0 ≤ hexesAt s i n) : numV (sub s i) n = hexesAt s i n ∧ numOk (sub s i) n = true := by
  unfold numV numOk
  rw [hexes_sub s i n hn, if_pos h]
  exact ⟨rfl, by simpa using h⟩
theorem num_no' {s : ByteArray} {i n : Nat} (hn : 0 < n) (h : ¬ 0 ≤ hexesAt s i n) : numOk (sub s i) n = false := by
  unfold numOk
  rw [hexes_sub s i n hn]
  simpa using h
theorem hexes_range (s : ByteArray) (i n : Nat) (hn : n ≤ 4) : -1 ≤ hexesAt s i n ∧ hexesAt s i n ≤ 65535 ∧ (n ≤ 2 → hexesAt s i n ≤ 255) := by
  unfold hexesAt
  split
  · rename_i c
    have := hx_range s i n hn c.2
    omega
  · omega

end Go.Proofs.Ytfolcjamefgphaa
