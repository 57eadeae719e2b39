import Derived.Test.YtgfgdkeeonolcaaLMark
namespace Go.Proofs.Ytgfgdkeeonolcaa
open Go.RowKit
set_option maxRecDepth 100000

theorem Try.infoInt0 : (Try.prog.info? 3).map (fun i => (i.zero, i.size, i.bytes)) = some (some (.int .i64 0), 1, 8) := by kernel_rfl
/-- numbers as values -/
def bi (L : List Int) : List Value := L.map (Value.int .i64)
theorem bi_append (L M : List Int) : bi (L ++ M) = bi L ++ bi M := by simp [bi]
theorem bi_len (L : List Int) : (bi L).length = L.length := by simp [bi]
theorem bi_one (x : Int) : bi [x] = [.int .i64 x] := rfl
def imk (k i : Int) : Int := 1000003 * (k + 1) + i
def imarks (k : Int) (m : Nat) : List Int := (List.range m).map fun (i : Nat) => imk k (i : Int)
theorem imarks_succ (k : Int) (m : Nat) : imarks k (m + 1) = imarks k m ++ [imk k (m : Int)] := by
  unfold imarks; rw [List.range_succ, List.map_append]; rfl
theorem imarks_len (k : Int) (m : Nat) : (imarks k m).length = m := by simp [imarks]
theorem imarks_take (k : Int) (n m : Nat) : imarks k n = (imarks k (n + m)).take n := by
  unfold imarks; rw [← List.map_take, List.take_range, Nat.min_eq_left (by omega)]
theorem iown_get {w1 : World} {B g n cap : Nat} {L : List Int} (h : w1.ownsRow B 3 1 (.slice (some ⟨g, 0, none⟩) n cap) n (bi L)) {i : Nat} (hi : i < L.length) : w1.cell? ⟨g, i, none⟩ = some (.int .i64 (L.getD i 0)) := by
  have := h.cells (g := g) rfl i (.int .i64 (L.getD i 0)) (by simp [bi, List.getD, List.getElem?_eq_getElem hi])
  rw [Go.WideShapes.add_plain, Nat.zero_add] at this
  exact this
end Go.Proofs.Ytgfgdkeeonolcaa
