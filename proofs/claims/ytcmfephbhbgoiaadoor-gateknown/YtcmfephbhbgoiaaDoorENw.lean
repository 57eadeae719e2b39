import Derived.Test.YtcmfephbhbgoiaaDoorELd
import Derived.Laws.OwnMore
namespace Go.Proofs.YtcmfephbhbgoiaaDoor
open Go.RowKit Go.WideShapes
set_option maxRecDepth 100000

theorem own_base {w : World} {B B' e sz n : Nat} {v : Value} {xs : List Value} (h : w.ownsRow B e sz v n xs) (hb : B' ≤ B) : w.ownsRow B' e sz v n xs := by
  refine ⟨h.1, ?_⟩
  rcases h.2 with h2 | ⟨g, cap, cur, e1, e2, e3⟩
  · exact .inl h2
  · exact .inr ⟨g, cap, cur, e1, Nat.le_trans hb e2, e3⟩
set_option maxHeartbeats 1000000 in
theorem hold_any (g cap : Nat) (bs : List Int) (w : World) (hrow : w.ownsRow 0 5 1 (.slice (some ⟨g, 0, none⟩) bs.length cap) bs.length (bv bs)) (hp : Pw bs.length) (hwf : ∀ z ∈ bs, 0 ≤ z ∧ z ≤ 255) :
    Calls Tryd.prog 23 #[.slice (some ⟨g, 0, none⟩) bs.length cap] w fun e w' => e = .returned (.pointer (some ⟨w.heap.size, 0, none⟩)) ∧ MemS w' w.heap.size g cap bs false (.slice none 0 0) [] ∧ Below w.heap.size w w' := by
  go_enter Tryd.func23, Tryd.ntmps23
  go_wp2
  go_ret
  have hgl := (hrow.lt g rfl).2
  have hb : Below w.heap.size w (w.alloc (.cells #[.pointer (some ⟨w.heap.size, 0, none⟩), .slice (some ⟨g, 0, none⟩) bs.length cap, .bool false, .slice none 0 0] 36)) := (Below.refl _ _).alloc (Nat.le_refl _) _
  exact ⟨rfl, ⟨heap_alloc_new w _, (Kp.ofBelow (S := fun _ => False) hb).own hrow (fun _ _ h => h), World.ownsRow_nil _ _ _ _, by omega, by simp [Value.ownBlock], by simp [Value.ownBlock], hp, hwf, by simp⟩, hb⟩
theorem make_any (kl : IntKind) (n : Nat) (hn : n ≤ 70000) (w : World) : ∃ w', (Instr.makeSlice 33 (.int kl (n : Int)) (.int kl (n : Int))).run Tryd.prog w = .ok (.slice (some ⟨w.heap.size, 0, none⟩) n n) w' ∧
    w'.ownsRow w.heap.size 5 1 (.slice (some ⟨w.heap.size, 0, none⟩) n n) n (bv (List.replicate n 0)) ∧ Below w.heap.size w w' := by
  obtain ⟨i0, hi, hz0, hz1, hz2⟩ := info_parts Tryd.info5
  obtain ⟨w', h1, h2, h3⟩ := run_make_full (P := Tryd.prog) w w.heap.size 33 5 i0 (.int .u8 0) 1 Tryd.underlying33 hi hz0 hz1 kl kl n (by rw [hz2]; omega) (by unfold maxLen; omega) (Nat.le_refl _)
  refine ⟨w', h1, ?_, ⟨h3.os, h3.tape, h3.output, h3.size, fun k hk => h3.block k hk (by simp)⟩⟩
  rw [Nat.mul_one, show (Value.int IntKind.u8 0).cells = #[.int .u8 0] from rfl, toList_madeCells_one] at h2
  rw [show bv (List.replicate n 0) = List.replicate n (Value.int .u8 0) by simp [bv]]
  exact h2
set_option maxHeartbeats 1000000 in
theorem new8_any (w : World) :
    Calls Tryd.prog 7 #[.int .i64 8] w fun e w' => ∃ a g cap, e = .returned (.tuple #[.pointer (some ⟨a, 0, none⟩), .int .i64 0]) ∧ MemS w' a g cap (List.replicate 256 0) false (.slice none 0 0) [] ∧ Below w.heap.size w w' ∧ w.heap.size ≤ a ∧ w.heap.size ≤ g := by
  obtain ⟨w1, hm, hrow, hb⟩ := make_any .i64 256 (by decide) w
  have hz : (((256 : Nat)) : Int) = 256 := rfl
  rw [hz] at hm
  have hH := hold_any w.heap.size 256 (List.replicate 256 0) w1 (by rw [List.length_replicate]; exact own_base hrow (Nat.zero_le _)) (by rw [List.length_replicate]; exact .inl rfl) (by intro z hz; rw [List.eq_of_mem_replicate hz]; decide)
  rw [List.length_replicate] at hH
  have HH := hidS hH
  have HB := hidS hb
  clear hH hrow hb hz
  go_enter Tryd.func7, Tryd.ntmps7
  go_wp2_with (first
    | (go_at_call 23; with_reducible refine HH.out.mono ?_; rintro e w2 ⟨rfl, hq1, hq2⟩; have HQ1 := hidS hq1; have HQ2 := hidS hq2; clear hq1 hq2)
    | fail)
  go_ret2
  exact ⟨_, _, _, rfl, HQ1.out, HB.out.trans (HQ2.out.mono HB.out.size), HB.out.size, Nat.le_refl _⟩
set_option maxHeartbeats 1000000 in
theorem ones_any (n : Nat) (w : World) (h : Pw n) : Calls Tryd.prog 63 #[.int .u64 n] w fun e w' => e = .returned (.int .i64 1) ∧ w' = w := by
  rcases h with rfl | rfl | rfl | rfl | rfl | rfl | rfl | rfl | rfl
  all_goals
    go_enter Tryd.func63, Tryd.ntmps63
    go_wp2
    go_ret
    exact ⟨ret_int (by kernel_rfl), rfl⟩
end Go.Proofs.YtcmfephbhbgoiaaDoor
