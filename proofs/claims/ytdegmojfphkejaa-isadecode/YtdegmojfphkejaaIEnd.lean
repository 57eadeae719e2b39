import Derived.Test.YtdegmojfphkejaaIKep
import Derived.Test.YtdegmojfphkejaaIREn
namespace Go.Proofs.Ytdegmojfphkejaa
open Go.RowKit
set_option maxRecDepth 100000

theorem crd_take {w : World} {ao : Option Addr} {L M : List (Nat × Nat)} {B : Nat} (h : CRd w ao (L ++ M) B) : CRd w ao L B := by
  intro hp
  obtain ⟨b, off, e, hb, hc⟩ := h (by rw [List.length_append]; omega)
  refine ⟨b, off, e, hb, fun j hj => ?_⟩
  have := hc j (by rw [List.length_append]; omega)
  rw [getD_app_left hj] at this
  exact this
set_option maxRecDepth 100000 in
set_option maxHeartbeats 2000000 in
theorem encoded_any (ao : Option Addr) (cap g cg : Nat) (L : List (Nat × Nat)) (w : World) (hn : L.length ≤ 17592186044352) (hwf : Wfc L) (hcg : L.length + 64 ≤ cg) (hl : CRd w (some ⟨g, 0, none⟩) (L ++ mksC 64) w.heap.size) (hr : CRd w ao L w.heap.size) :
    Calls Try.prog 10 #[.slice (some ⟨g, 0, none⟩) (L.length + 64) cg, .slice ao L.length cap] w fun e w' => ∃ v, e = .returned (.tuple #[v, .bool true]) ∧ w'.ownsRow w.heap.size 5 1 v (encB L).length (bv (encB L)) ∧ Below w.heap.size w w' := by
  have hE := encode_any (some ⟨g, 0, none⟩) cg L w (by omega) hwf (crd_take hl)
  have hE2 := fun W (h : Below w.heap.size w W) => rencode_any ao cap L W (by omega) hwf ((hr.below h).mono h.size)
  have hK := fun W (h : Below w.heap.size w W) => keptc_any ao cap L g cg W hn ((hr.below h).mono h.size) ((hl.below h).mono h.size)
  have hlen : (encB L).length ≤ 140737488355328 := by
    unfold encB
    split
    · simp
    · split
      · have := encF_le L; omega
      · simp
  have hlc : (L.length : Int) ≤ (cg : Int) := by omega
  clear hl hr hwf
  generalize encB L = B at *
  generalize encI L = at_ at *
  generalize encX L = er at *
  go_enter Try.func10, Try.ntmps10
  go_wp2_with (first
    | (go_at_call 26; with_reducible refine hE.mono ?_; rintro e w1 ⟨v1, rfl, own1, hq1⟩; have hE2' := hE2 w1 hq1)
    | (go_at_call 32; with_reducible refine hE2'.mono ?_; rintro e w2 ⟨v2, rfl, own2, hq2⟩; replace own1 := own_below own1 hq2; have R2 := bt hq1 hq2; obtain ⟨a1, c1, rfl, rd1⟩ := own_reads5 own1; obtain ⟨a2, c2, rfl, rd2⟩ := own_reads5 own2)
    | (go_at_call 30; with_reducible refine (same_any a1 a2 c1 c2 B B _ hlen rd1 rd2).mono ?_; rintro e w3 ⟨rfl, m, hm⟩; subst w3; rw [decide_eq_true rfl])
    | (go_at_call 18; with_reducible refine (hK _ (bt R2 (below_drew0 _))).mono ?_; rintro e w4 ⟨rfl, hq4⟩))
  go_ret2
  have hz := bt (below_drew0 (w := w2) _) hq4
  exact ⟨_, rfl, own_below own1 hz, bt R2 hz⟩
end Go.Proofs.Ytdegmojfphkejaa
