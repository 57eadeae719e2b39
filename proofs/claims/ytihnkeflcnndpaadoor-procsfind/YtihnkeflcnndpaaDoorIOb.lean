import Derived.Test.YtihnkeflcnndpaaDoorIBas
namespace Go.Proofs.YtihnkeflcnndpaaDoor
open Go.RowKit
set_option maxRecDepth 100000

theorem own_lower {w : World} {B B' e sz : Nat} {v : Value} {n : Nat} {xs : List Value} (h : w.ownsRow B e sz v n xs) (hle : B' ≤ B) : w.ownsRow B' e sz v n xs :=
  ⟨h.1, h.2.imp id (fun ⟨g, cap, cur, a, b, c⟩ => ⟨g, cap, cur, a, Nat.le_trans hle b, c⟩)⟩
set_option maxHeartbeats 1000000 in
theorem ob_1 (arg : Nat) (w : World) (_ : arg < 4294967296) :
    Calls Tryd.prog 54 #[.int .u32 arg, .int .i64 1] w fun e w' => ∃ v, e = .returned v ∧ w'.ownsRow w.heap.size 5 1 v 1 (bv (nb 1 (arg : Int))) ∧ Below w.heap.size w w' := by
  have hnb : nb 1 ((arg : Int) % 256) = nb 1 (arg : Int) := nb_mod 1 (arg : Int) 1 (Nat.le_refl _)
  have hp := put_u8 (some ⟨w.heap.size, 0, none⟩) 1 [((arg : Int) % 256)] (w.alloc (.cells #[.int .u8 ((arg : Int) % 256)] 5)) (by simp) (by intro z hz; simp at hz; subst hz; omega) (lit_readsK w .u8 5 ((arg : Int) % 256))
  rw [show puts 1 [((arg : Int) % 256)] [((arg : Int) % 256)].length = nb 1 ((arg : Int) % 256) by simp [puts], hnb] at hp
  clear hnb
  go_enter Tryd.func54, Tryd.ntmps54
  go_wp2_with (go_at_call 68; refine hp.mono ?_; rintro e wq ⟨v, rfl, ho, hq⟩)
  go_ret
  exact ⟨_, rfl, own_lower (by simpa using ho) (by simp), bt (bel (Below.refl _ _)) hq⟩
set_option maxHeartbeats 1000000 in
theorem ob_2 (arg : Nat) (w : World) (_ : arg < 4294967296) :
    Calls Tryd.prog 54 #[.int .u32 arg, .int .i64 2] w fun e w' => ∃ v, e = .returned v ∧ w'.ownsRow w.heap.size 5 1 v 2 (bv (nb 2 (arg : Int))) ∧ Below w.heap.size w w' := by
  have hnb : nb 2 ((arg : Int) % 65536) = nb 2 (arg : Int) := nb_mod 2 (arg : Int) 2 (Nat.le_refl _)
  have hp := put_u16 (some ⟨w.heap.size, 0, none⟩) 1 [((arg : Int) % 65536)] (w.alloc (.cells #[.int .u16 ((arg : Int) % 65536)] 123)) (by simp) (by intro z hz; simp at hz; subst hz; omega) (lit_readsK w .u16 123 ((arg : Int) % 65536))
  rw [show puts 2 [((arg : Int) % 65536)] [((arg : Int) % 65536)].length = nb 2 ((arg : Int) % 65536) by simp [puts], hnb] at hp
  clear hnb
  go_enter Tryd.func54, Tryd.ntmps54
  go_wp2_with (go_at_call 69; refine hp.mono ?_; rintro e wq ⟨v, rfl, ho, hq⟩)
  go_ret
  exact ⟨_, rfl, own_lower (by simpa using ho) (by simp), bt (bel (Below.refl _ _)) hq⟩
set_option maxHeartbeats 1000000 in
theorem ob_4 (arg : Nat) (w : World) (ha : arg < 4294967296) :
    Calls Tryd.prog 54 #[.int .u32 arg, .int .i64 4] w fun e w' => ∃ v, e = .returned v ∧ w'.ownsRow w.heap.size 5 1 v 4 (bv (nb 4 (arg : Int))) ∧ Below w.heap.size w w' := by
  have hnb : nb 4 (arg : Int) = nb 4 (arg : Int) := rfl
  have hp := put_u32 (some ⟨w.heap.size, 0, none⟩) 1 [(arg : Int)] (w.alloc (.cells #[.int .u32 (arg : Int)] 32)) (by simp) (by intro z hz; simp at hz; subst hz; omega) (lit_readsK w .u32 32 (arg : Int))
  rw [show puts 4 [(arg : Int)] [(arg : Int)].length = nb 4 (arg : Int) by simp [puts], hnb] at hp
  clear hnb
  go_enter Tryd.func54, Tryd.ntmps54
  go_wp2_with (go_at_call 70; refine hp.mono ?_; rintro e wq ⟨v, rfl, ho, hq⟩)
  go_ret
  exact ⟨_, rfl, own_lower (by simpa using ho) (by simp), bt (bel (Below.refl _ _)) hq⟩
set_option maxHeartbeats 1000000 in
theorem ob_0 (arg : Nat) (w : World) :
    Calls Tryd.prog 54 #[.int .u32 arg, .int .i64 0] w fun e w' => e = .returned (.slice none 0 0) ∧ w' = w := by
  go_enter Tryd.func54, Tryd.ntmps54
  go_wp2
  go_ret
  exact ⟨rfl, rfl⟩
theorem ob_any (arg wi : Nat) (w : World) (ha : arg < 4294967296) (hw : wi = 0 ∨ wi = 1 ∨ wi = 2 ∨ wi = 4) :
    Calls Tryd.prog 54 #[.int .u32 arg, .int .i64 wi] w fun e w' => ∃ v, e = .returned v ∧ w'.ownsRow w.heap.size 5 1 v wi (bv (nb wi (arg : Int))) ∧ Below w.heap.size w w' := by
  rcases hw with rfl | rfl | rfl | rfl
  · refine (ob_0 arg w).mono ?_
    rintro e w' ⟨rfl, rfl⟩
    exact ⟨_, rfl, World.ownsRow_nil _ _ _ _, Below.refl _ _⟩
  · exact ob_1 arg w ha
  · exact ob_2 arg w ha
  · exact ob_4 arg w ha
end Go.Proofs.YtihnkeflcnndpaaDoor
