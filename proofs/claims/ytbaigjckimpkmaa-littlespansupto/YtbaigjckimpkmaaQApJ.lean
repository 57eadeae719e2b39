import Derived.Test.YtbaigjckimpkmaaLMark
namespace Go.Proofs.Ytbaigjckimpkmaa
open Go.RowKit
set_option maxRecDepth 100000

theorem Try.infoInt0W : (Try.prog.info? 25).map (fun i => (i.zero, i.size, i.bytes)) = some (some (.int .u32 0), 1, 4) := by kernel_rfl
/-- numbers as values -/
def biW (L : List Int) : List Value := L.map (Value.int .u32)
theorem bi_appendW (L M : List Int) : biW (L ++ M) = biW L ++ biW M := by simp [biW]
theorem bi_lenW (L : List Int) : (biW L).length = L.length := by simp [biW]
theorem bi_oneW (x : Int) : biW [x] = [.int .u32 x] := rfl
def imkW (k i : Int) : Int := (1000003 * (k + 1) + i) % 4294967296
set_option maxHeartbeats 400000 in
theorem imark_anyW (k i : Int) (w : World) (hk : -1 ≤ k ∧ k ≤ 1000000000) (hi : 0 ≤ i ∧ i ≤ 1000000000000) :
    Calls Try.prog 40 #[.int .i64 k, .int .i64 i] w fun e w' => e = .returned (.int .u32 (imkW k i)) ∧ w' = w := by
  obtain ⟨hk0, hk1⟩ := hk
  obtain ⟨hi0, hi1⟩ := hi
  go_enter Try.func40, Try.ntmps40
  go_wp2
  go_ret
  exact ⟨ret_int (by rw [imkW]), rfl⟩
def imarksW (k : Int) (m : Nat) : List Int := (List.range m).map fun (i : Nat) => imkW k (i : Int)
theorem imarks_succW (k : Int) (m : Nat) : imarksW k (m + 1) = imarksW k m ++ [imkW k (m : Int)] := by
  unfold imarksW; rw [List.range_succ, List.map_append]; rfl
theorem imarks_lenW (k : Int) (m : Nat) : (imarksW k m).length = m := by simp [imarksW]
theorem imarks_takeW (k : Int) (n m : Nat) : imarksW k n = (imarksW k (n + m)).take n := by
  unfold imarksW; rw [← List.map_take, List.take_range, Nat.min_eq_left (by omega)]
theorem iown_getW {w1 : World} {B g n cap : Nat} {L : List Int} (h : w1.ownsRow B 25 1 (.slice (some ⟨g, 0, none⟩) n cap) n (biW L)) {i : Nat} (hi : i < L.length) : w1.cell? ⟨g, i, none⟩ = some (.int .u32 (L.getD i 0)) := by
  have := h.cells (g := g) rfl i (.int .u32 (L.getD i 0)) (by simp [biW, List.getD, List.getElem?_eq_getElem hi])
  rw [Go.WideShapes.add_plain, Nat.zero_add] at this
  exact this
end Go.Proofs.Ytbaigjckimpkmaa
