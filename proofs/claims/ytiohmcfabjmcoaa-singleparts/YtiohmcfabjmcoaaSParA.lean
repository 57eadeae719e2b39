import Derived.Test.YtiohmcfabjmcoaaSBackB
namespace Go.Proofs.Ytiohmcfabjmcoaa
open Go.RowKit

theorem pcf {w W : World} {x y z u : Value} {ty : TypeId} (h : Below (w.alloc (.cells #[x, y, z, u] ty)).heap.size (w.alloc (.cells #[x, y, z, u] ty)) W) :
    W.cell? ⟨w.heap.size, 0, none⟩ = some x ∧ W.cell? ⟨w.heap.size, 1, none⟩ = some y ∧ W.cell? ⟨w.heap.size, 2, none⟩ = some z ∧ W.cell? ⟨w.heap.size, 3, none⟩ = some u ∧
    W.frozen? ⟨w.heap.size, 0, none⟩ = false ∧ W.frozen? ⟨w.heap.size, 1, none⟩ = false ∧ W.frozen? ⟨w.heap.size, 2, none⟩ = false ∧ W.frozen? ⟨w.heap.size, 3, none⟩ = false ∧ w.heap.size < W.heap.size := by
  have hs := h.size
  simp at hs
  refine ⟨(h.cell (p := ⟨w.heap.size, 0, none⟩) (by simp)).trans (by simp), (h.cell (p := ⟨w.heap.size, 1, none⟩) (by simp)).trans (by simp), (h.cell (p := ⟨w.heap.size, 2, none⟩) (by simp)).trans (by simp), (h.cell (p := ⟨w.heap.size, 3, none⟩) (by simp)).trans (by simp),
    (h.frozen (p := ⟨w.heap.size, 0, none⟩) (by simp)).trans (by simp), (h.frozen (p := ⟨w.heap.size, 1, none⟩) (by simp)).trans (by simp), (h.frozen (p := ⟨w.heap.size, 2, none⟩) (by simp)).trans (by simp), (h.frozen (p := ⟨w.heap.size, 3, none⟩) (by simp)).trans (by simp), by omega⟩
theorem pcb {w W : World} {o o2 : Obj} {a b c d : Value} (h : Below (w.alloc o).heap.size (w.alloc o) W) :
    Below w.heap.size w (((((W.setCell ⟨w.heap.size, 0, none⟩ a).setCell ⟨w.heap.size, 1, none⟩ b).setCell ⟨w.heap.size, 2, none⟩ c).setCell ⟨w.heap.size, 3, none⟩ d).alloc o2) :=
  bel (((((bt (bel (Below.refl _ w)) h).setCell (p := ⟨w.heap.size, 0, none⟩) (Nat.le_refl _) _).setCell (p := ⟨w.heap.size, 1, none⟩) (Nat.le_refl _) _).setCell (p := ⟨w.heap.size, 2, none⟩) (Nat.le_refl _) _).setCell (p := ⟨w.heap.size, 3, none⟩) (Nat.le_refl _) _)
set_option maxRecDepth 100000 in
set_option maxHeartbeats 1000000 in
theorem rsplit12 (a : Nat) (s : Int) (m : Bool) (w : World) (g1 : (s != 3) = true) (t : ∀ w, Calls Try.prog 22 #[.int .u32 a] w fun e w' => e = .returned (.agg #[.int .u8 s, .bool m, .int .u64 0, .int .i64 0]) ∧ Below w.heap.size w w') :
    Calls Try.prog 8 #[.int .u32 a] w fun e w' => e = .returned (pv (s, m, 0, 0)) ∧ Below w.heap.size w w' := by
  go_enter Try.func8, Try.ntmps8
  go_wp2_with (go_at_call 22; refine (t _).mono ?_; rintro e w1 ⟨rfl, h1⟩; obtain ⟨c0, c1, c2, c3, f0, f1, f2, f3, sz⟩ := pcf h1; have hb := pcb (o2 := .cells #[.int .u8 s, .bool m, .int .u64 0, .int .i64 0] 40) (a := .int .u8 s) (b := .bool m) (c := .int .u32 0) (d := .int .i64 0) h1)
  refine bodyPost_ret (v := pv (s, m, 0, 0)) (by simp [results, Try.f8, go_sem, pv, c0, c1, c2, c3, sz]) rfl ?_
  exact ⟨rfl, hb⟩
set_option maxRecDepth 100000 in
set_option maxHeartbeats 1000000 in
theorem rsplit3 (a : Nat) (m : Bool) (n : Nat) (q : Int) (w : World) (hn : n < 16777216) (t : ∀ w, Calls Try.prog 22 #[.int .u32 a] w fun e w' => e = .returned (.agg #[.int .u8 3, .bool m, .int .u64 n, .int .i64 q]) ∧ Below w.heap.size w w') :
    Calls Try.prog 8 #[.int .u32 a] w fun e w' => e = .returned (pv (3, m, n, q)) ∧ Below w.heap.size w w' := by
  go_enter Try.func8, Try.ntmps8
  go_wp2_with (go_at_call 22; refine (t _).mono ?_; rintro e w1 ⟨rfl, h1⟩; obtain ⟨c0, c1, c2, c3, f0, f1, f2, f3, sz⟩ := pcf h1; have hb := pcb (o2 := .cells #[.int .u8 3, .bool m, .int .u64 (n : Int), .int .i64 q] 40) (a := .int .u8 3) (b := .bool m) (c := .int .u32 (n : Int)) (d := .int .i64 q) h1)
  refine bodyPost_ret (v := pv (3, m, n, q)) (by simp [results, Try.f8, go_sem, pv, c0, c1, c2, c3, sz]) rfl ?_
  exact ⟨rfl, hb⟩
theorem rsplit_any (a : Nat) (w : World) (h : a < 4294967296) :
    Calls Try.prog 8 #[.int .u32 a] w fun e w' => e = .returned (pv (prt a)) ∧ Below w.heap.size w w' := by
  unfold prt
  by_cases ho : ok a = false
  · rw [if_pos ho]; exact rsplit12 a 1 false w (by decide) fun w => take_none a w h ho
  rw [if_neg ho]
  have hm : a % 2147483648 ≤ 2139095040 := by simpa [ok] using ho
  by_cases hi : a % 2147483648 = 2139095040
  · rw [if_pos hi]; exact rsplit12 a 2 (sg a) w (by decide) fun w => take_endless a w h hi
  · rw [if_neg hi]
    obtain ⟨r1, r2, r3⟩ := rd_rung a
    exact rsplit3 a (sg a) (rdm a) _ w r2 fun w => take_fin a w h (by omega)
end Go.Proofs.Ytiohmcfabjmcoaa
