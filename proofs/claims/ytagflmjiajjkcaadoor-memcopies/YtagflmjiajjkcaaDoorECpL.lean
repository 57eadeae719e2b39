import Derived.Test.YtagflmjiajjkcaaDoorETwo
namespace Go.Proofs.YtagflmjiajjkcaaDoor
open Go.RowKit Go.WideShapes
set_option maxRecDepth 100000

set_option maxHeartbeats 4000000 in
theorem memcopies_any (b : Nat) (ao : Option Addr) (cap : Nat) (zs : List Int) (at_ v far n16 : Nat) (w : World) (hT : Tab w) (h1 : 1 < w.heap.size) (hb : b ≤ 255) (hwf : ∀ z ∈ zs, 0 ≤ z ∧ z ≤ 255) (hr : Reads w ao zs w.heap.size) (hat : at_ < 4294967296) (hv : v < 4294967296) (hn : n16 ≤ 65535) :
    Calls Tryd.prog 7 #[.agg #[.int .u8 b, .slice ao zs.length cap, .int .u32 at_, .int .u32 v, .int .u32 far, .int .u16 n16]] w fun e w' => e = .returned (.bool true) ∧ Below w.heap.size w w' := by
  have hA0 : Below w.heap.size w (w.alloc (.cells #[.int .u8 b, .slice ao zs.length cap, .int .u32 at_, .int .u32 v, .int .u32 far, .int .u16 n16] 46)) := (Below.refl _ _).alloc (Nat.le_refl _) _
  generalize hW0 : w.alloc (.cells #[.int .u8 b, .slice ao zs.length cap, .int .u32 at_, .int .u32 v, .int .u32 far, .int .u16 n16] 46) = W0 at *
  have hB0 : W0.heap.size = w.heap.size + 1 := by rw [← hW0]; simp
  have hobj : W0.heap[w.heap.size]? = some (.cells #[.int .u8 b, .slice ao zs.length cap, .int .u32 at_, .int .u32 v, .int .u32 far, .int .u16 n16] 46) := by rw [← hW0]; exact heap_alloc_new w _
  have XC : Hid (∀ W, Below W0.heap.size W0 W → W.cell? ⟨w.heap.size, 3, none⟩ = some (.int .u32 v)) := fun W hW =>
    (hW.cell (p := ⟨w.heap.size, 3, none⟩) (by rw [hB0]; exact Nat.lt_succ_self _)).trans ((obj_cell hobj 3).trans rfl)
  have c0 : W0.cell? ⟨w.heap.size, 0, none⟩ = some (.int .u8 b) := (obj_cell hobj 0).trans rfl
  have c1 : W0.cell? ⟨w.heap.size, 1, none⟩ = some (.slice ao zs.length cap) := (obj_cell hobj 1).trans rfl
  have c2 : W0.cell? ⟨w.heap.size, 2, none⟩ = some (.int .u32 at_) := (obj_cell hobj 2).trans rfl
  have c5 : W0.cell? ⟨w.heap.size, 5, none⟩ = some (.int .u16 n16) := (obj_cell hobj 5).trans rfl
  have hMd : Calls Tryd.prog 9 #[.int .u8 b, .slice ao zs.length cap] W0 fun e w' => ∃ a bs, e = .returned (.pointer (some ⟨a, 0, none⟩)) ∧ Hid (Seg W0.heap.size w' a bs ∧ Below W0.heap.size W0 w') := (made_any b ao cap zs W0 hb hwf ((hr.below hA0).mono (by omega))).mono fun e w' ⟨a, bs, he, h⟩ => ⟨a, bs, he, h⟩
  have hAw : Hid (∀ a bs W, Seg W0.heap.size W a bs → Below W0.heap.size W0 W → Calls Tryd.prog 8 #[] W fun e w' => e = .returned (.bool true) ∧ Hid (Seg W0.heap.size w' a bs ∧ Below W0.heap.size W0 w')) := fun a bs W hS hbl =>
    (awake_any W ((hT.below hA0 (by omega)).below hbl (by omega)) (by have := hbl.size; omega)).mono fun e w' ⟨he, h⟩ => ⟨he, hS.below h, hbl.trans (h.mono hbl.size)⟩
  have hCl : Hid (∀ a bs W, Seg W0.heap.size W a bs → Below W0.heap.size W0 W → Calls Tryd.prog 28 #[.pointer (some ⟨a, 0, none⟩)] W fun e w' => ∃ o, e = .returned (.pointer (some ⟨o, 0, none⟩)) ∧ Hid (Two W0.heap.size w' a bs o bs ∧ Below W0.heap.size W0 w')) := fun a bs W hS hbl =>
    (clone_t _ a bs W hS hbl.size).mono fun e w' ⟨o, he, q1, q2⟩ => ⟨o, he, q1, hbl.trans q2⟩
  have hSA : Hid (∀ a o bs W, Two W0.heap.size W a bs o bs → Below W0.heap.size W0 W → Calls Tryd.prog 20 #[.pointer (some ⟨a, 0, none⟩), .pointer (some ⟨o, 0, none⟩)] W fun e w' => e = .returned (.bool true) ∧ Hid (Two W0.heap.size w' a bs o bs ∧ Below W0.heap.size W0 w')) := fun a o bs W hS hbl =>
    (same_t _ a o bs bs W hS).mono fun e w' ⟨he, q1, q2⟩ => ⟨by rw [he, decide_eq_true rfl], q1, hbl.trans q2⟩
  have hSO : Hid (∀ a o bs W, Two W0.heap.size W a bs o bs → Below W0.heap.size W0 W → Calls Tryd.prog 20 #[.pointer (some ⟨o, 0, none⟩), .pointer (some ⟨a, 0, none⟩)] W fun e w' => e = .returned (.bool true) ∧ Hid (Two W0.heap.size w' a bs o bs ∧ Below W0.heap.size W0 w')) := fun a o bs W hS hbl =>
    (same_t _ o a bs bs W hS.symm).mono fun e w' ⟨he, q1, q2⟩ => ⟨by rw [he, decide_eq_true rfl], q1.symm, hbl.trans q2⟩
  have HA0 := hidS hA0
  have HB0 := hidS hB0
  clear hobj hT hr hwf hA0 hB0
  go_enter Tryd.func7, Tryd.ntmps7
  go_wp2_with (first
    | (go_at_call 9; with_reducible refine hMd.mono ?_; rintro e w1 ⟨a, bs, rfl, HQ1⟩)
    | (go_at_call 8; with_reducible refine (hAw.out _ _ _ HQ1.out.1 HQ1.out.2).mono ?_; rintro e w2 ⟨rfl, HQ2⟩)
    | (go_at_call 28; with_reducible refine (hCl.out _ _ _ HQ2.out.1 HQ2.out.2).mono ?_; rintro e w3 ⟨o, rfl, HQ⟩)
    | (go_at_call 20; with_reducible refine (hSO.out a o _ _ HQ.out.1 HQ.out.2).mono ?_; rintro e wq ⟨rfl, HQn⟩; replace HQ := HQn; clear HQn)
    | (go_at_call 20; with_reducible refine (hSA.out a o _ _ HQ.out.1 HQ.out.2).mono ?_; rintro e wq ⟨rfl, HQn⟩; replace HQ := HQn; clear HQn; have y3 := XC.out _ HQ.out.2)
    | fail)
  clear hMd hAw hCl c0 c1 c2 c5 hb h1 hW0 HQ1 HQ2
  by_cases hn4 : 4096 < n16
  · have hI : (4096 : Int) < (n16 : Int) := by omega
    have hCL : Hid (∀ W, Two W0.heap.size W a bs o bs → Below W0.heap.size W0 W → Calls Tryd.prog 10 #[.pointer (some ⟨a, 0, none⟩), .int .u32 at_, .int .u32 v, .int .u32 n16] W fun e w' => e = .returned (.int .i64 92) ∧ Hid (Two W0.heap.size w' a bs o bs ∧ Below W0.heap.size W0 w')) := fun W hS hbl =>
      (copy_lt _ a o n16 _ _ bs bs W hS hn4).mono fun e w' ⟨he, q1, q2⟩ => ⟨he, q1, hbl.trans q2⟩
    clear hat hv
    go_wp2_with (first
      | (go_at_call 10; with_reducible refine (hCL.out _ HQ.out.1 HQ.out.2).mono ?_; rintro e wq ⟨rfl, HQn⟩; replace HQ := HQn; clear HQn)
      | (go_at_call 20; with_reducible refine (hSA.out a o _ _ HQ.out.1 HQ.out.2).mono ?_; rintro e wq ⟨rfl, HQn⟩; replace HQ := HQn; clear HQn)
      | fail)
    go_ret
    exact ⟨rfl, HA0.out.trans (HQ.out.2.mono (by rw [HB0.out]; omega))⟩
  · have hI : ¬ (4096 : Int) < (n16 : Int) := by omega
    have hpb := HQ.out.1.seg.len.bd
    have hwb := HQ.out.1.seg.wf
    have hrl : (rdL bs v n16).length = n16 := rdL_len _ _ _
    have hrw := rdL_wf bs v n16 hwb (by omega)
    have hCS : Hid (∀ W, Two W0.heap.size W a bs o bs → Below W0.heap.size W0 W → Calls Tryd.prog 10 #[.pointer (some ⟨a, 0, none⟩), .int .u32 at_, .int .u32 v, .int .u32 n16] W fun e w' => e = .returned (.int .i64 0) ∧ Hid (Two W0.heap.size w' a (wrL bs at_ (rdL bs v n16)) o bs ∧ Below W0.heap.size W0 w')) := fun W hS hbl =>
      (copy_t _ a o at_ v n16 bs bs W hS hbl.size hat hv (by omega)).mono fun e w' ⟨he, q1, q2⟩ => ⟨he, q1, hbl.trans q2⟩
    have hRD : Hid (∀ b1 W, Two W0.heap.size W a b1 o bs → Below W0.heap.size W0 W → Calls Tryd.prog 16 #[.pointer (some ⟨o, 0, none⟩), .int .u32 v, .int .i64 n16] W fun e w' => ∃ d, e = .returned (.tuple #[.slice (some ⟨d, 0, none⟩) n16 n16, .int .i64 0]) ∧ Hid (RTwo W0.heap.size w' o bs a b1 d (rdL bs v n16) ∧ Below W0.heap.size W0 w')) := fun b1 W hS hbl =>
      (read_t _ o a v n16 bs b1 W hS.symm hbl.size hv (by omega)).mono fun e w' ⟨d, he, q1, q2⟩ => ⟨d, he, q1, hbl.trans q2⟩
    have hWT : Hid (∀ b1 d W, RTwo W0.heap.size W o bs a b1 d (rdL bs v n16) → Below W0.heap.size W0 W → Calls Tryd.prog 25 #[.pointer (some ⟨o, 0, none⟩), .int .u32 at_, .slice (some ⟨d, 0, none⟩) n16 n16] W fun e w' => e = .returned (.int .i64 0) ∧ Hid (Two W0.heap.size w' a b1 o (wrL bs at_ (rdL bs v n16)) ∧ Below W0.heap.size W0 w')) := fun b1 d W hS hbl => by
      have := write_t _ o a at_ d bs b1 (rdL bs v n16) W hS hbl.size hat (by omega) hrw
      rw [hrl] at this
      exact this.mono fun e w' ⟨he, q1, q2⟩ => ⟨he, q1.symm, hbl.trans q2⟩
    have hl1 : (wrL bs at_ (rdL bs v n16)).length = bs.length := wrL_len _ _ _
    have hw1 := wrL_wf (rdL bs v n16) bs at_ hwb hrw
    generalize wrL bs at_ (rdL bs v n16) = b1 at *
    obtain ⟨x0, x1⟩ := gt_bd hw1 (by omega) at_
    obtain ⟨x, hx⟩ : ∃ x : Int, x = gt b1 at_ := ⟨_, rfl⟩
    rw [← hx] at x0 x1
    have hne : wrL b1 at_ [(x + 1) % 256] ≠ b1 := fun e => by
      have := gt_one b1 at_ ((x + 1) % 256) (by omega)
      rw [e, ← hx] at this
      omega
    have hBA : Hid (∀ W, Two W0.heap.size W a b1 o b1 → Below W0.heap.size W0 W → Calls Tryd.prog 21 #[.pointer (some ⟨a, 0, none⟩)] W fun e w' => ∃ g c, e = .returned (.slice (some ⟨g, 0, none⟩) b1.length c) ∧ Hid (Two W0.heap.size w' a b1 o b1 ∧ Below W0.heap.size W0 w' ∧ Reads w' (some ⟨g, 0, none⟩) b1 w'.heap.size)) := fun W hS hbl =>
      (bytes_any _ a b1 W hS.seg).mono fun e w' ⟨g, c, he, q1, q2⟩ => ⟨g, c, he, hS.below q2, hbl.trans (q2.mono hbl.size), reads_own q1 (by simp)⟩
    have hBO : Hid (∀ g W, Two W0.heap.size W a b1 o b1 → Below W0.heap.size W0 W → Reads W (some ⟨g, 0, none⟩) b1 W.heap.size → Calls Tryd.prog 21 #[.pointer (some ⟨o, 0, none⟩)] W fun e w' => ∃ g2 c, e = .returned (.slice (some ⟨g2, 0, none⟩) b1.length c) ∧ Hid (Two W0.heap.size w' a b1 o b1 ∧ Below W0.heap.size W0 w' ∧ Reads w' (some ⟨g, 0, none⟩) b1 w'.heap.size ∧ Reads w' (some ⟨g2, 0, none⟩) b1 w'.heap.size)) := fun g W hS hbl hq =>
      (bytes_any _ o b1 W hS.symm.seg).mono fun e w' ⟨g2, c, he, q1, q2⟩ => ⟨g2, c, he, hS.below q2, hbl.trans (q2.mono hbl.size), (hq.below q2).mono q2.size, reads_own q1 (by simp)⟩
    have hSB : Hid (∀ g c g2 c2 W, Two W0.heap.size W a b1 o b1 → Below W0.heap.size W0 W → Reads W (some ⟨g, 0, none⟩) b1 W.heap.size → Reads W (some ⟨g2, 0, none⟩) b1 W.heap.size → Calls Tryd.prog 26 #[.slice (some ⟨g, 0, none⟩) b1.length c, .slice (some ⟨g2, 0, none⟩) b1.length c2] W fun e w' => e = .returned (.bool true) ∧ Hid (Two W0.heap.size w' a b1 o b1 ∧ Below W0.heap.size W0 w')) := fun g c g2 c2 W hS hbl hq hq2 =>
      (same_any _ _ c c2 b1 b1 W (by omega) hq hq2).mono fun e w' ⟨he, m, hm⟩ => ⟨by rw [he, decide_eq_true rfl], by rw [hm]; exact hS.below (below_drewN (Below.refl _ _) m), by rw [hm]; exact below_drewN hbl m⟩
    have hL1 : Hid (∀ W, Two W0.heap.size W a b1 o b1 → Below W0.heap.size W0 W → Calls Tryd.prog 23 #[.pointer (some ⟨a, 0, none⟩), .int .u32 at_] W fun e w' => e = .returned (.int .u32 x) ∧ Hid (Two W0.heap.size w' a b1 o b1 ∧ Below W0.heap.size W0 w')) := fun W hS hbl =>
      (load1_t _ a o at_ b1 b1 W hS hbl.size hat).mono fun e w' ⟨he, q1, q2⟩ => ⟨by rw [he, hx], q1, hbl.trans q2⟩
    have hS1 : Hid (∀ W, Two W0.heap.size W a b1 o b1 → Below W0.heap.size W0 W → Calls Tryd.prog 14 #[.pointer (some ⟨a, 0, none⟩), .int .u32 at_, .int .u32 (x + 1)] W fun e w' => e = .returned (.tuple #[]) ∧ Hid (Two W0.heap.size w' a (wrL b1 at_ [(x + 1) % 256]) o b1 ∧ Below W0.heap.size W0 w')) := fun W hS hbl =>
      (store1_t _ a o at_ (x + 1) b1 b1 W hS hbl.size hat (by omega)).mono fun e w' ⟨he, q1, q2⟩ => ⟨he, q1, hbl.trans q2⟩
    have hSN : Hid (∀ W, Two W0.heap.size W a (wrL b1 at_ [(x + 1) % 256]) o b1 → Below W0.heap.size W0 W → Calls Tryd.prog 20 #[.pointer (some ⟨a, 0, none⟩), .pointer (some ⟨o, 0, none⟩)] W fun e w' => e = .returned (.bool false) ∧ Hid (Two W0.heap.size w' a (wrL b1 at_ [(x + 1) % 256]) o b1 ∧ Below W0.heap.size W0 w')) := fun W hS hbl =>
      (same_t _ a o _ b1 W hS).mono fun e w' ⟨he, q1, q2⟩ => ⟨by rw [he, decide_eq_false hne], q1, hbl.trans q2⟩
    have hLO : Hid (∀ W, Two W0.heap.size W a (wrL b1 at_ [(x + 1) % 256]) o b1 → Below W0.heap.size W0 W → Calls Tryd.prog 23 #[.pointer (some ⟨o, 0, none⟩), .int .u32 at_] W fun e w' => e = .returned (.int .u32 x) ∧ Hid (Two W0.heap.size w' a (wrL b1 at_ [(x + 1) % 256]) o b1 ∧ Below W0.heap.size W0 w')) := fun W hS hbl =>
      (load1_t _ o a at_ b1 _ W hS.symm hbl.size hat).mono fun e w' ⟨he, q1, q2⟩ => ⟨by rw [he, hx], q1.symm, hbl.trans q2⟩
    have hLA : Hid (∀ W, Two W0.heap.size W a (wrL b1 at_ [(x + 1) % 256]) o b1 → Below W0.heap.size W0 W → Calls Tryd.prog 23 #[.pointer (some ⟨a, 0, none⟩), .int .u32 at_] W fun e w' => e = .returned (.int .u32 ((x + 1) % 256)) ∧ Hid (Two W0.heap.size w' a (wrL b1 at_ [(x + 1) % 256]) o b1 ∧ Below W0.heap.size W0 w')) := fun W hS hbl =>
      (load1_t _ a o at_ _ b1 W hS hbl.size hat).mono fun e w' ⟨he, q1, q2⟩ => ⟨by rw [he, gt_one b1 at_ _ (by omega)], q1, hbl.trans q2⟩
    have hxw : (x + 1) % 4294967296 = x + 1 := by omega
    generalize wrL b1 at_ [(x + 1) % 256] = b2 at *
    clear hat hv hpb hwb hrl hrw hl1 hw1 hx hne
    go_wp2_with (first
      | (go_at_call 10; with_reducible refine (hCS.out _ HQ.out.1 HQ.out.2).mono ?_; rintro e wq ⟨rfl, HQ4⟩; have z3 := XC.out _ HQ4.out.2)
      | (go_at_call 16; with_reducible refine (hRD.out _ _ HQ4.out.1 HQ4.out.2).mono ?_; rintro e wq ⟨d, rfl, HQ5⟩)
      | (go_at_call 25; with_reducible refine (hWT.out _ _ _ HQ5.out.1 HQ5.out.2).mono ?_; rintro e w6 ⟨rfl, HQ6⟩)
      | (go_at_call 20; with_reducible refine (hSN.out _ HQ12.out.1 HQ12.out.2).mono ?_; rintro e w13 ⟨rfl, HQ13⟩)
      | (go_at_call 20; with_reducible refine (hSA.out a o _ _ HQ6.out.1 HQ6.out.2).mono ?_; rintro e w7 ⟨rfl, HQ7⟩)
      | (go_at_call 21; with_reducible refine (hBA.out _ HQ7.out.1 HQ7.out.2).mono ?_; rintro e w8 ⟨g8, c8, rfl, HQ8⟩)
      | (go_at_call 21; with_reducible refine (hBO.out _ _ HQ8.out.1 HQ8.out.2.1 HQ8.out.2.2).mono ?_; rintro e w9 ⟨g9, c9, rfl, HQ9⟩)
      | (go_at_call 26; with_reducible refine (hSB.out _ _ _ _ _ HQ9.out.1 HQ9.out.2.1 HQ9.out.2.2.1 HQ9.out.2.2.2).mono ?_; rintro e w10 ⟨rfl, HQ10⟩)
      | (go_at_call 23; with_reducible refine (hLA.out _ HQ14.out.1 HQ14.out.2).mono ?_; rintro e w15 ⟨rfl, HQ15⟩)
      | (go_at_call 23; with_reducible refine (hLO.out _ HQ13.out.1 HQ13.out.2).mono ?_; rintro e w14 ⟨rfl, HQ14⟩)
      | (go_at_call 23; with_reducible refine (hL1.out _ HQ10.out.1 HQ10.out.2).mono ?_; rintro e w11 ⟨rfl, HQ11⟩)
      | (go_at_call 14; with_reducible refine (hS1.out _ HQ11.out.1 HQ11.out.2).mono ?_; rintro e w12 ⟨rfl, HQ12⟩)
      | fail)
    go_ret
    exact ⟨by simp, HA0.out.trans (HQ15.out.2.mono (by rw [HB0.out]; omega))⟩
end Go.Proofs.YtagflmjiajjkcaaDoor
