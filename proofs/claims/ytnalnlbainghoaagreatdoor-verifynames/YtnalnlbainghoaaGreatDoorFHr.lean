import Derived.Test.YtnalnlbainghoaaGreatDoorFHq
namespace Go.Proofs.YtnalnlbainghoaaGreatDoor
open Go.RowKit Go.WideShapes Go.Shelf
set_option maxRecDepth 100000

set_option maxHeartbeats 1000000 in
/-- container/heap.Push -/
theorem hpush_any {B kw g cap : Nat} {Wt : List Nat} (x : Nat) (w : World) (hl : Wt.length < 1000000) (hB : B ≤ w.heap.size) (h : HpW w B kw g cap Wt) :
    Calls Tryz.prog 114 #[ifW kw, .iface 29 (.int .u32 x)] w fun e w' => (∃ v, e = .returned v) ∧ ∃ g' cap' Wt', Wt'.Perm (x :: Wt) ∧ HpW w' B kw g' cap' Wt' ∧ (g' = g ∨ w.heap.size ≤ g') ∧ Kp (fun k => k = g ∨ k = kw) w w' := by
  have HP := push_any x w (Nat.le_of_lt hl) hB h
  have hmp := meth_push w kw
  have HU : Hid (∀ (W : World) (g' cap' : Nat), HpW W B kw g' cap' (Wt ++ [x]) → (method 370 174 (.pointer (some ⟨kw, 0, none⟩)) "Len").run Tryz.prog W = .ok (109, .slice (some ⟨g', 0, none⟩) (Wt.length + 1) cap') W ∧ Calls Tryz.prog 109 #[.slice (some ⟨g', 0, none⟩) (Wt.length + 1) cap'] W (fun e w' => e = .returned (.int .i64 (Wt.length + 1 : Nat)) ∧ w' = W) ∧ Calls Tryz.prog 141 #[ifW kw, .int .i64 (Wt.length : Nat)] W (fun e w' => (∃ v, e = .returned v) ∧ ∃ Wt', Wt'.Perm (Wt ++ [x]) ∧ HpW w' B kw g' cap' Wt' ∧ Kp (fun k => k = g') W w' ∧ w'.heap.size = W.heap.size)) := hidS (fun W g' cap' hW => by
    have c0 := hW.bx.cell
    rw [List.length_append, List.length_singleton] at c0
    exact ⟨meth_len c0, wlen_any _ _ _ _, up_any (Wt ++ [x]) Wt.length W (by simp; omega) (by simp) hW⟩)
  have hI : ((Wt.length + 1 : Nat) : Int) - 1 = (Wt.length : Int) := by omega
  have hlk : w.heap.size = w.heap.size := rfl
  clear h hB
  generalize hm : Wt.length = m at *
  clear hm
  go_enter Tryz.func114, Tryz.ntmps114
  go_wp2_with (first
    | (go_at_call 203; with_reducible refine HP.mono ?_; rintro e w1 ⟨⟨v1, rfl⟩, g1, cap1, h1, hg1, hk1⟩; obtain ⟨hm1, hl1, hu1⟩ := HU.out w1 g1 cap1 h1)
    | (go_at_call 109; with_reducible refine hl1.mono ?_; rintro e w2 ⟨rfl, hw2⟩; subst hw2)
    | (go_at_call 141; with_reducible refine hu1.mono ?_; rintro e w3 ⟨⟨v3, rfl⟩, W3, hp3, h3, hk3, hz3⟩))
  refine bodyPost_end (results_none rfl _ _ _) rfl ⟨⟨_, rfl⟩, g1, cap1, W3, hp3.trans (List.perm_append_singleton x Wt), h3, hg1, hk1.trans hk3 (fun i hi e => ?_)⟩
  rcases hg1 with q | q
  · exact .inl (e.trans q)
  · omega
set_option maxHeartbeats 1000000 in
/-- container/heap.Pop -/
theorem hpop_any {B kw g cap : Nat} {Wt : List Nat} (w : World) (h0 : 0 < Wt.length) (hl : Wt.length ≤ 1000000) (h : HpW w B kw g cap Wt) :
    Calls Tryz.prog 110 #[ifW kw] w fun e w' => ∃ x Wt', e = .returned (.iface 29 (.int .u32 (x : Nat))) ∧ (x :: Wt').Perm Wt ∧ HpW w' B kw g cap Wt' ∧ Kp (fun k => k = g ∨ k = kw) w w' ∧ w'.heap.size = w.heap.size := by
  obtain ⟨n, hn⟩ : ∃ n, Wt.length = n + 1 := ⟨Wt.length - 1, by omega⟩
  have c0 := h.bx.cell
  have hm1 := meth_len c0
  have hm2 := meth_swap c0
  have HLn := wlen_any (some ⟨g, 0, none⟩) Wt.length cap w
  have HSw : Calls Tryz.prog 204 #[.slice (some ⟨g, 0, none⟩) Wt.length cap, .int .i64 0, .int .i64 n] w fun e w' => (∃ v, e = .returned v) ∧ HpW w' B kw g cap (swp Wt 0 n) ∧ Kp (fun k => k = g) w w' ∧ w'.heap.size = w.heap.size := swap_any 0 n w (by omega) (by omega) h
  have HDn : Hid (∀ (W : World), HpW W B kw g cap (swp Wt 0 n) → Calls Tryz.prog 138 #[ifW kw, .int .i64 0, .int .i64 n] W (fun e w' => (∃ v, e = .returned v) ∧ ∃ Wt', Wt'.Perm Wt ∧ HpW w' B kw g cap Wt' ∧ Kp (fun k => k = g) W w' ∧ w'.heap.size = W.heap.size)) := hidS (fun W hW => by
    have hlen : (swp Wt 0 n).length = Wt.length := by simp [swp]
    refine (down_any (swp Wt 0 n) n W (by omega) (by omega) hW).mono ?_
    rintro e w' ⟨h1, W', h2, h3⟩
    exact ⟨h1, W', h2.trans (swp_perm (by omega) (by omega)), h3⟩)
  have HPo : Hid (∀ (W : World) (V : List Nat), V.Perm Wt → HpW W B kw g cap V → Calls Tryz.prog 202 #[.pointer (some ⟨kw, 0, none⟩)] W (fun e w' => ∃ x Wt', e = .returned (.iface 29 (.int .u32 (x : Nat))) ∧ (x :: Wt').Perm Wt ∧ HpW w' B kw g cap Wt' ∧ Kp (fun k => k = kw) W w' ∧ w'.heap.size = W.heap.size)) := hidS (fun W V hV hW => by
    obtain ⟨V', x, rfl⟩ : ∃ V' x, V = V' ++ [x] := by
      have hne : V ≠ [] := fun e => by have := hV.length_eq; rw [e] at this; simp at this; omega
      exact ⟨V.dropLast, V.getLast hne, (List.dropLast_concat_getLast hne).symm⟩
    refine (popm_any (Wt := V') (x := x) W (by have := hV.length_eq; simp at this; omega) hW).mono ?_
    rintro e w' ⟨rfl, h1, h2, h3⟩
    exact ⟨x, V', rfl, (List.perm_append_singleton x V').symm.trans hV, h1, h2, h3⟩)
  have hmp := fun W => meth_pop W kw
  have hI : ((n + 1 : Nat) : Int) - 1 = (n : Int) := by omega
  rw [hn] at hm1 hm2 HLn HSw
  have hnl : n ≤ 1000000 := by omega
  clear c0 h hn h0 hl
  go_enter Tryz.func110, Tryz.ntmps110
  go_wp2_with (first
    | (go_at_call 109; with_reducible refine HLn.mono ?_; rintro e w2 ⟨rfl, hw2⟩; subst hw2)
    | (go_at_call 204; with_reducible refine HSw.mono ?_; rintro e w3 ⟨⟨v3, rfl⟩, h3, hk3, hz3⟩)
    | (go_at_call 138; with_reducible refine (HDn.out _ h3).mono ?_; rintro e w4 ⟨⟨v4, rfl⟩, V4, hp4, h4, hk4, hz4⟩; have hmp4 := hmp w4)
    | (go_at_call 202; with_reducible refine (HPo.out _ _ hp4 h4).mono ?_; rintro e w5 ⟨x, V5, rfl, hp5, h5, hk5, hz5⟩))
  go_ret
  exact ⟨x, V5, rfl, hp5, h5, ((hk3.trans hk4 (fun _ _ q => q)).mono (S' := fun k => k = g ∨ k = kw) (fun _ _ q => .inl q)).trans hk5 (fun _ _ q => .inr q), by rw [hz5, hz4, hz3]⟩
end Go.Proofs.YtnalnlbainghoaaGreatDoor
