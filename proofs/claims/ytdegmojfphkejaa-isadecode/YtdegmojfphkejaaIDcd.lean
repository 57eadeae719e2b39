import Derived.Test.YtdegmojfphkejaaIRWk
import Derived.Test.YtdegmojfphkejaaIOnM
import Derived.Test.YtdegmojfphkejaaLKept
namespace Go.Proofs.Ytdegmojfphkejaa
open Go.RowKit
set_option maxRecDepth 100000

theorem okItems_ok (zs : List Int) (h : okD zs = true) : dcB zs = (okItems zs).map gIt ∧ (okItems zs).length = (dcB zs).length ∧ dcX zs = 0 ∧ dcI zs = 0 := by
  have ha : ∀ x ∈ items zs, x.2.2.2.2 = 0 := by
    intro x hx; rw [okD, List.all_eq_true] at h; simpa using h x hx
  obtain ⟨e1, e2, e3⟩ := ok_done (zs := zs) rfl ha
  refine ⟨by rw [dcB, if_pos h, e1], ?_, e3, e2⟩
  rw [dcB, if_pos h, List.length_map, e1]
set_option maxHeartbeats 1000000 in
theorem rdecode_any (ao : Option Addr) (cap : Nat) (zs : List Int) (w : World) (hn : zs.length ≤ 140737488355328) (hwf : ∀ z ∈ zs, 0 ≤ z ∧ z ≤ 255) (hr : Reads w ao zs w.heap.size) :
    Calls Try.prog 34 #[.slice ao zs.length cap] w fun e w' => ∃ v, e = .returned (.tuple #[v, .int .i64 (dcI zs), .int .i64 (dcX zs)]) ∧ w'.ownsRow w.heap.size 32 2 v (dcB zs).length (cv (dcB zs)) ∧ Below w.heap.size w w' := by
  have hW := rwalk_any ao cap zs w hn hwf hr
  cases hok : okD zs
  · obtain ⟨e1, e2, e3⟩ := dec_fault zs hok
    rw [e1]
    have h' : ¬ ((dcX zs : Nat) : Int) = 0 := by omega
    generalize dcX zs = ex at *
    generalize dcI zs = ix at *
    clear e1 e2 e3 hok hwf hr
    go_enter Try.func34, Try.ntmps34
    go_wp2_with (go_at_call 20; with_reducible refine hW.mono ?_; rintro e w1 ⟨vp, vc, rfl, op1, oc1, _, hb1⟩)
    refine bodyPost_ret (results_tmp3 rfl _ _ _) rfl ?_
    exact ⟨_, rfl, World.ownsRow_nil _ _ _ _, hb1⟩
  · obtain ⟨e1, e2, e3, e4⟩ := okItems_ok zs hok
    rw [e3, e4, e2, ← e1] at hW
    rw [e3, e4]
    clear e1 e2 e3 e4 hok hwf hr
    generalize dcB zs = L at *
    go_enter Try.func34, Try.ntmps34
    go_wp2_with (go_at_call 20; with_reducible refine hW.mono ?_; rintro e w1 ⟨vp, vc, rfl, op1, oc1, _, hb1⟩)
    refine bodyPost_ret (results_tmp3 rfl _ _ _) rfl ?_
    exact ⟨_, rfl, oc1, hb1⟩
set_option maxRecDepth 100000 in
set_option maxHeartbeats 2000000 in
theorem decoded_any (ao : Option Addr) (cap g cg : Nat) (zs : List Int) (w : World) (hn : zs.length ≤ 140737488351232) (hwf : ∀ z ∈ zs, 0 ≤ z ∧ z ≤ 255) (hcg : zs.length + 64 ≤ cg) (hl : ∀ i, i < zs.length + 64 → w.cell? ⟨g, i, none⟩ = some (.int .u8 ((zs ++ marks 0 64).getD i 0))) (hg : g < w.heap.size) (hr : Reads w ao zs w.heap.size) :
    Calls Try.prog 13 #[.slice (some ⟨g, 0, none⟩) (zs.length + 64) cg, .slice ao zs.length cap] w fun e w' => ∃ v, e = .returned (.tuple #[v, .bool true]) ∧ w'.ownsRow w.heap.size 32 2 v (dcB zs).length (cv (dcB zs)) ∧ Below w.heap.size w w' := by
  have hrl : Reads w (some ⟨g, 0, none⟩) zs w.heap.size := fun hp => ⟨g, 0, rfl, hg, fun j hj => by
    rw [Nat.zero_add, hl j (by omega)]
    simp [List.getElem?_append_left hj]⟩
  have hD := decode_any (some ⟨g, 0, none⟩) cg zs w (by omega) (by omega) hwf hrl
  have hD2 := fun W (h : Below w.heap.size w W) => rdecode_any ao cap zs W (by omega) hwf ((hr.below h).mono h.size)
  have hK := fun W (h : Below w.heap.size w W) => kept_any ao cap zs g cg W hn ((hr.below h).mono h.size) (fun i hi => (h.cell (p := ⟨g, i, none⟩) hg).trans (hl i hi))
  have hlen : (dcB zs).length ≤ 140737488355328 := by
    cases hok : okD zs
    · rw [(dec_fault zs hok).1]; simp
    · have := (dec_back zs hwf hok).2.2.2.1; omega
  have hlc : (zs.length : Int) ≤ (cg : Int) := by omega
  clear hl hr hwf hrl
  generalize dcB zs = B at *
  generalize dcI zs = at_ at *
  generalize dcX zs = er at *
  go_enter Try.func13, Try.ntmps13
  go_wp2_with (first
    | (go_at_call 28; with_reducible refine hD.mono ?_; rintro e w1 ⟨v1, rfl, own1, hq1⟩; have hD2' := hD2 w1 hq1)
    | (go_at_call 34; with_reducible refine hD2'.mono ?_; rintro e w2 ⟨v2, rfl, own2, hq2⟩; replace own1 := own_below own1 hq2; have R2 := bt hq1 hq2; obtain ⟨a1, c1, rfl, rd1⟩ := own_crd own1; obtain ⟨a2, c2, rfl, rd2⟩ := own_crd own2)
    | (go_at_call 29; with_reducible refine (samec_any a1 a2 c1 c2 B B _ hlen rd1 rd2).mono ?_; rintro e w3 ⟨rfl, m, hm⟩; subst w3; rw [decide_eq_true rfl])
    | (go_at_call 22; with_reducible refine (hK _ (bt R2 (below_drew0 _))).mono ?_; rintro e w4 ⟨rfl, m4, hm4⟩; subst w4))
  go_ret2
  have hz := below_drew0 (w := w2) (m + m4)
  exact ⟨_, rfl, own_below own1 hz, bt R2 hz⟩
end Go.Proofs.Ytdegmojfphkejaa
