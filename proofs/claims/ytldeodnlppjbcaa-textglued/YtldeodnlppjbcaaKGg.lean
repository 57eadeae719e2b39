import Derived.Test.YtldeodnlppjbcaaKGd
import Derived.Test.YtldeodnlppjbcaaKAw
namespace Go.Proofs.Ytldeodnlppjbcaa
open Go.RowKit
set_option maxRecDepth 100000

set_option maxHeartbeats 2000000 in
theorem alone_any (K at_ : Nat) (T : ByteArray) (ao : Option Addr) (c : Nat) (G : List ByteArray) (w : World) (hG : Gd G (K, T)) (hz : T.size ≤ 524288) (hc : G.length ≤ c) (hl : G.length ≤ 64) (hr : GRd w ao G w.heap.size) :
    Calls Try.prog 21 #[.agg #[.int .u8 K, .int .i64 at_, .string T], .slice ao G.length c] w fun e w' => e = .returned (.bool true) ∧ Below w.heap.size w w' := by
  have hV := gd_alone hG hz
  simp only at hV
  have HC : Hid (∀ w1, Below w.heap.size w w1 → Calls Try.prog 17 #[.string T, .slice ao G.length c] w1 fun e w' => ∃ v, e = .returned (.tuple #[v, .int .i64 0, .int .i64 0]) ∧ w'.ownsRow w1.heap.size 36 3 v 1 (tv T [(K, 0, T.size)]) ∧ Below w1.heap.size w1 w') := fun w1 h1 => by
    have h := cut_all T ao c G w1 hc hl (by omega) ((hr.below h1).mono h1.size)
    rw [hV] at h
    exact h
  clear hV hG hr
  have HB : Below w.heap.size w (w.alloc (.cells #[.int .u8 (K : Int), .int .i64 (at_ : Int), .string T] 36)) := (Below.refl _ _).alloc (Nat.le_refl _) _
  have HX : T.extract 0 T.size = T := by simp
  go_enter Try.func21, Try.ntmps21
  go_wp2_with (first
    | (go_at_call 17; with_reducible refine (HC.out _ HB).mono ?_; rintro e wq ⟨v, rfl, hown, hq⟩; obtain ⟨g, cap, rfl, hg, hcap, hcl⟩ := tok_cells (L := [(K, 0, T.size)]) hown (by simp); have d0 : wq.cell? ⟨g, 0, none⟩ = some (.int .u8 K) := (hcl 0 _ rfl).1; have d2 : wq.cell? ⟨g, 2, none⟩ = some (.string T) := HX ▸ (hcl 0 _ rfl).2.2; have t0 : wq.cell? ⟨w.heap.size, 0, none⟩ = some (.int .u8 K) := (hq.cell (by simp)).trans (by simp); have t2 : wq.cell? ⟨w.heap.size, 2, none⟩ = some (.string T) := (hq.cell (by simp)).trans (by simp); clear hcl hown)
    | fail)
  go_quiet (fail)
  go_wp2_with fail
  go_ret
  exact ⟨rfl, below_drewN (HB.trans (hq.mono (by simp))) nq⟩
end Go.Proofs.Ytldeodnlppjbcaa
