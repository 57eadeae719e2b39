import Derived.Test.YtecbdjhhdhpmhaaOver
namespace Go.Proofs.Ytecbdjhhdhpmhaa
open Go.RowKit

theorem grown_of_below {w w' : World} (h : Below w.heap.size w w') : w.grownBy w' none := ⟨h.os, h.tape, h.output, h.size, fun k hk _ => h.block k hk⟩
theorem own_below {w w' : World} {B : Nat} {v : Value} {n : Nat} {xs : List Value} (h : w.ownsRow B 5 1 v n xs) (hb : Below w.heap.size w w') : w'.ownsRow B 5 1 v n xs :=
  h.kept (grown_of_below hb) (by cases hv : v.ownBlock <;> simp)
theorem own_form {w : World} {B : Nat} {v : Value} {n : Nat} {xs : List Value} (h : w.ownsRow B 5 1 v n xs) (hn : 0 < n) : ∃ g c, v = .slice (some ⟨g, 0, none⟩) n c ∧ n ≤ c := by
  rcases h.2 with ⟨_, rfl⟩ | ⟨g, cap, cur, rfl, _, _, hc, _⟩
  · omega
  · exact ⟨g, cap, rfl, hc⟩
theorem reads_own {w : World} {B g m cap : Nat} {L zs : List Int} (h : w.ownsRow B 5 1 (.slice (some ⟨g, 0, none⟩) m cap) m (bv L)) (hz : zs = L.take zs.length) : Reads w (some ⟨g, 0, none⟩) zs w.heap.size := by
  intro _
  refine ⟨g, 0, rfl, (h.lt g rfl).2, fun j hj => ?_⟩
  have hl : zs.length ≤ L.length := by
    have := congrArg List.length hz
    simp at this
    omega
  rw [Nat.zero_add, own_get h (by omega)]
  rw [hz]
  simp [hj]

theorem Reads.mono {w : World} {ao : Option Addr} {zs : List Int} {B B' : Nat} (h : Reads w ao zs B) (hB : B ≤ B') : Reads w ao zs B' := by
  intro hl
  obtain ⟨b, off, e, hlt, hc⟩ := h hl
  exact ⟨b, off, e, by omega, hc⟩

theorem show_n (n : Nat) (ao : Option Addr) (cap : Nat) (zs : List Int) (w : World) (hz : zs.length = n) (hn : n ≤ 1048576) (hwf : ∀ z ∈ zs, 0 ≤ z ∧ z ≤ 255) (hr : Reads w ao zs w.heap.size) :
    Calls Try.prog 8 #[.slice ao n cap] w fun e w' => e = .returned (.string (strOfNums (sh zs n ++ [34]))) ∧ Below w.heap.size w w' := by
  subst hz; exact show_any ao cap zs w hn hwf hr
theorem rshow_n (n : Nat) (ao : Option Addr) (cap : Nat) (zs : List Int) (w : World) (hz : zs.length = n) (hn : n ≤ 1048576) (hwf : ∀ z ∈ zs, 0 ≤ z ∧ z ≤ 255) (hr : Reads w ao zs w.heap.size) :
    Calls Try.prog 9 #[.slice ao n cap] w fun e w' => e = .returned (.string (strOfNums (sh zs n ++ [34]))) ∧ Below w.heap.size w w' := by
  subst hz; exact rshow_any ao cap zs w hn hwf hr
theorem over_n (n g cap B : Nat) (L : List Int) (w : World) (hL : L.length = n) (hn : n ≤ 1048640)
    (hown : w.ownsRow B 5 1 (.slice (some ⟨g, 0, none⟩) n cap) n (bv L)) :
    Calls Try.prog 11 #[.slice (some ⟨g, 0, none⟩) n cap] w fun e w' => e = .returned (.tuple #[]) ∧
      w'.ownsRow B 5 1 (.slice (some ⟨g, 0, none⟩) n cap) n (bv (marks (-1) n)) ∧ Below B w w' ∧ w'.heap.size = w.heap.size := by
  subst hL; exact over_any g cap B L w hn hown
theorem marks_wf (k : Int) (n : Nat) : ∀ z ∈ marks k n, 0 ≤ z ∧ z ≤ 255 := by
  intro z hz
  simp only [marks, List.mem_map] at hz
  obtain ⟨i, _, rfl⟩ := hz
  exact mk_range _ _
theorem marks_take (k : Int) (n m : Nat) : marks k n = (marks k (n + m)).take n := by
  simp [marks, ← List.map_take, List.take_range]

set_option maxHeartbeats 1000000 in
theorem law_any (ao : Option Addr) (cap : Nat) (zs : List Int) (w : World) (hn : zs.length ≤ 1048576) (hwf : ∀ z ∈ zs, 0 ≤ z ∧ z ≤ 255) (hr : Reads w ao zs w.heap.size) :
    Calls Try.prog 3 #[.slice ao zs.length cap] w fun e w' => e = .returned (.bool true) ∧ Below w.heap.size w w' := by
  have HW : Hid (∀ z ∈ zs, 0 ≤ z ∧ z ≤ 255) := hwf
  clear hwf
  go_enter Try.func3, Try.ntmps3
  go_wp2_with fail
  refine (lent_any ao cap zs w hn hr).mono ?_
  rintro e w1 ⟨v, rfl, own1, hb1⟩
  obtain ⟨g, cf, rfl, hcf⟩ := own_form own1 (by omega)
  have hz1 := hb1.size
  have hgl := own1.lt g rfl
  have hcf' : (zs.length : Int) ≤ (cf : Int) := by omega
  go_wp2_with fail
  refine (show_n zs.length (some ⟨g, 0, none⟩) cf zs w1 rfl hn HW.out (reads_own own1 (by simp))).mono ?_
  rintro e w2 ⟨rfl, hb2⟩
  have hz2 := hb2.size
  have own2 := own_below own1 hb2
  have hb12 := hb1.trans (hb2.mono hz1)
  go_wp2_with fail
  refine (rshow_n zs.length ao cap zs w2 rfl hn HW.out ((hr.below hb12).mono (by omega))).mono ?_
  rintro e w3 ⟨rfl, hb3⟩
  have hz3 := hb3.size
  have own3 := own_below own2 hb3
  have hb13 := hb12.trans (hb3.mono (by omega))
  go_wp2_with fail
  refine (kept_any ao cap zs g cf w.heap.size w3 hn ((hr.below hb13).mono (by omega)) own3).mono ?_
  rintro e w4 ⟨rfl, hb4⟩
  have hz4 := hb4.size
  have own4 := own_below own3 hb4
  have hb14 := hb13.trans (hb4.mono (by omega))
  clear own1 own2 own3 hb1 hb2 hb3 hb4 hb12 hb13
  go_wp2_with fail
  refine (over_n (zs.length + 64) g cf w.heap.size (zs ++ marks 0 64) w4 (by simp [marks_len]) (by omega) own4).mono ?_
  rintro e w5 ⟨rfl, own5, hb5, hz5⟩
  have hz5' : w4.heap.size ≤ w5.heap.size := by omega
  have hb15 := hb14.trans hb5
  clear own4 hb14 hb5 hz5
  have hwm := marks_wf (-1) zs.length
  have HM : Hid (∀ z ∈ marks (-1) zs.length, 0 ≤ z ∧ z ≤ 255) := hwm
  clear hwm
  go_wp2_with fail
  refine (rshow_n zs.length (some ⟨g, 0, none⟩) cf (marks (-1) zs.length) w5 (marks_len _ _) hn HM.out (reads_own own5 (by rw [marks_len]; exact marks_take _ _ _))).mono ?_
  rintro e w6 ⟨rfl, hb6⟩
  have hz6 := hb6.size
  have own6 := own_below own5 hb6
  have hb16 := hb15.trans (hb6.mono (by omega))
  go_wp2_with fail
  refine (show_n zs.length (some ⟨g, 0, none⟩) cf (marks (-1) zs.length) w6 (marks_len _ _) hn HM.out (reads_own own6 (by rw [marks_len]; exact marks_take _ _ _))).mono ?_
  rintro e w7 ⟨rfl, hb7⟩
  have hz7 := hb7.size
  have hb17 := hb16.trans (hb7.mono (by omega))
  go_wp2_with fail
  refine (rshow_n zs.length ao cap zs w7 rfl hn HW.out ((hr.below hb17).mono (by omega))).mono ?_
  rintro e w8 ⟨rfl, hb8⟩
  have hb18 := hb17.trans (hb8.mono (by omega))
  go_wp2_with fail
  go_ret
  exact ⟨rfl, hb18⟩
end Go.Proofs.Ytecbdjhhdhpmhaa
