import Derived.Test.YtldeodnlppjbcaaKCt
namespace Go.Proofs.Ytldeodnlppjbcaa
open Go.RowKit
set_option maxRecDepth 100000

set_option maxHeartbeats 2000000 in
theorem cut_all (s : ByteArray) (ao : Option Addr) (c : Nat) (G : List ByteArray) (w : World) (hc : G.length ≤ c) (hl : G.length ≤ 64) (hz : s.size ≤ 9223372036854775807) (hr : GRd w ao G w.heap.size) :
    Calls Try.prog 17 #[.string s, .slice ao G.length c] w fun e w' => ∃ v, e = .returned (.tuple #[v, .int .i64 (cutV s G).2.1, .int .i64 (cutV s G).2.2]) ∧ w'.ownsRow w.heap.size 36 3 v (cutV s G).1.length (tv s (cutV s G).1) ∧ Below w.heap.size w w' := by
  by_cases hs : s.size ≤ 524288
  · exact cut_any s ao c G w hc hl hs hr
  · have e : cutV s G = ([], 524288, 15) := by rw [cutV, if_pos (by omega)]
    rw [e]
    have hsI : (524288 : Int) < (s.size : Int) := by omega
    go_enter Try.func17, Try.ntmps17
    go_wp2_with fail
    go_step3
    go_wp2_with fail
    change bodyPost Try.prog Try.f17 (fun e w' => ∃ v, e = .returned (.tuple #[v, .int .i64 524288, .int .i64 15]) ∧ w'.ownsRow w.heap.size 36 3 v 0 [] ∧ Below w.heap.size w w') Exit.ret _ _
    refine bodyPost_ret (results_tmp3 rfl _ _ _) rfl ?_
    exact ⟨_, rfl, World.ownsRow_nil _ _ _ _, Below.refl _ _⟩
/-- what Tokens gives -/
def toV (s : ByteArray) (G : List ByteArray) : List Tk × Int × Int := if mayB G = true then cutV s G else ([], 0, 14)
set_option maxHeartbeats 2000000 in
theorem tokens_any (s : ByteArray) (ao : Option Addr) (c : Nat) (G : List ByteArray) (w : World) (hc : G.length ≤ c) (hl : G.length ≤ 9223372036854775807) (hg : ∀ x ∈ G, x.size ≤ 9223372036854775807) (hz : s.size ≤ 9223372036854775807) (hr : GRd w ao G w.heap.size) :
    Calls Try.prog 7 #[.string s, .slice ao G.length c] w fun e w' => ∃ v, e = .returned (.tuple #[v, .int .i64 (toV s G).2.1, .int .i64 (toV s G).2.2]) ∧ w'.ownsRow w.heap.size 36 3 v (toV s G).1.length (tv s (toV s G).1) ∧ Below w.heap.size w w' := by
  have hM := mayBe_any ao c G w hc hl hg hr
  cases hm : mayB G with
  | false =>
    have e : toV s G = ([], 0, 14) := by rw [toV, hm, if_neg (by simp)]
    rw [e]
    rw [hm] at hM
    clear hr hg
    go_enter Try.func7, Try.ntmps7
    go_wp2_with (first
      | (go_at_call 16; with_reducible refine hM.mono ?_; rintro e wq ⟨rfl, hq⟩; subst wq)
      | fail)
    refine bodyPost_ret (results_tmp3 rfl _ _ _) rfl ?_
    exact ⟨_, rfl, World.ownsRow_nil _ _ _ _, Below.refl _ _⟩
  | true =>
    have e : toV s G = cutV s G := by rw [toV, hm, if_pos rfl]
    have h64 : G.length ≤ 64 := by
      unfold mayB at hm
      simp only [Bool.and_eq_true, decide_eq_true_eq] at hm
      exact hm.1
    have hC := cut_all s ao c G w hc h64 hz hr
    rw [e]
    rw [hm] at hM
    generalize cutV s G = R at *
    clear hr hg e
    go_enter Try.func7, Try.ntmps7
    go_wp2_with (first
      | (go_at_call 16; with_reducible refine hM.mono ?_; rintro e wq ⟨rfl, hq⟩; subst wq)
      | (go_at_call 17; with_reducible refine hC.mono ?_; rintro e wq ⟨v, rfl, hown, hq⟩)
      | fail)
    refine bodyPost_ret (results_tmp3 rfl _ _ _) rfl ?_
    exact ⟨_, rfl, hown, hq⟩
end Go.Proofs.Ytldeodnlppjbcaa
