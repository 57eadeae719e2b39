import Derived.Test.YtonmoidalkcmoaaCDLo
namespace Go.Proofs.Ytonmoidalkcmoaa
open Go.RowKit Go.WideShapes
set_option maxRecDepth 100000
/-- what Longest answers: where the piece begins, the piece, the error -/
def lnP (L : List (Nat × Nat)) (a e : Nat) : Nat × Nat × Nat × Nat :=
  if a < e ∧ e ≤ L.length ∧ erV (L.getD a (0, 0)).1 (L.getD a (0, 0)).2 = 0 then (a, lgV ((L.drop a).take (e - a))) else (0, 0, 0, 0)
def lnE (L : List (Nat × Nat)) (a e : Nat) : Nat := if a < e ∧ e ≤ L.length then erV (L.getD a (0, 0)).1 (L.getD a (0, 0)).2 else 2
theorem crd_sub {w : World} {b off : Nat} {L : List (Nat × Nat)} {B a e : Nat} (hlt : b < B) (hae : a < e) (he : e ≤ L.length)
    (hc : ∀ j, j < L.length → w.cell? ⟨b, off + j * 2, none⟩ = some (.int .u8 (L.getD j (0, 0)).1) ∧ w.cell? ⟨b, off + j * 2 + 1, none⟩ = some (.int .u32 (L.getD j (0, 0)).2)) :
    CRd w (some ⟨b, off + a * 2, none⟩) ((L.drop a).take (e - a)) B := by
  intro _
  refine ⟨b, off + a * 2, rfl, hlt, fun j hj => ?_⟩
  simp only [List.length_take, List.length_drop] at hj
  have := hc (a + j) (by omega)
  have e1 : ((L.drop a).take (e - a)).getD j (0, 0) = L.getD (a + j) (0, 0) := by
    simp only [List.getD]
    rw [List.getElem?_take_of_lt (by omega), List.getElem?_drop]
  rw [e1, show off + a * 2 + j * 2 = off + (a + j) * 2 by omega]
  exact this
theorem wfc_sub {L : List (Nat × Nat)} (h : Wfc L) (a n : Nat) : Wfc ((L.drop a).take n) := fun p hp => h p (List.drop_subset _ _ (List.take_subset _ _ hp))
set_option maxHeartbeats 4000000 in
theorem Longest_any (ao : Option Addr) (cap a e : Nat) (L : List (Nat × Nat)) (w : World) (hL : L.length ≤ 140737488355328) (hcap : L.length ≤ cap) (ha : a < 4294967296) (he : e < 4294967296) (hwf : Wfc L) (hr : CRd w ao L w.heap.size) :
    Calls Try.prog 63 #[.slice ao L.length cap, .int .u32 (a : Int), .int .u32 (e : Int)] w fun x w' => x = .returned (.tuple #[.agg (pcA (lnP L a e).1 (lnP L a e).2), .int .i64 (lnE L a e : Int)]) ∧ Below w.heap.size w w' := by
  by_cases hae : a < e
  · have d1 : decide ((e : Int) ≤ (a : Int)) = false := by simp; omega
    by_cases hel : e ≤ L.length
    · have d2 : decide ((L.length : Int) < (e : Int)) = false := by simp; omega
      obtain ⟨b, off, rfl, hbl, hc⟩ := hr (by omega)
      have hsub := dhid (crd_sub (B := w.heap.size) hbl hae hel hc)
      have x0 := (hc a (by omega)).1
      have x1 := (hc a (by omega)).2
      obtain ⟨hop, harg⟩ := hwf.at (k := a) (by omega)
      have hi : (a : Int) < L.length := by omega
      have hwf' := dhid (wfc_sub hwf a (e - a))
      have hlen : ((L.drop a).take (e - a)).length = e - a := by simp; omega
      rw [show lnE L a e = erV (L.getD a (0, 0)).1 (L.getD a (0, 0)).2 by simp [lnE, hae, hel]]
      rw [show lnP L a e = if erV (L.getD a (0, 0)).1 (L.getD a (0, 0)).2 = 0 then (a, lgV ((L.drop a).take (e - a))) else (0, 0, 0, 0) by simp [lnP, hae, hel]]
      generalize L.getD a (0, 0) = pp at *
      obtain ⟨op, arg⟩ := pp
      simp only at x0 x1 hop harg ⊢
      generalize (L.drop a).take (e - a) = M at *
      have HC := dhid (fun w' => fcheck_any op arg w' hop)
      have HL := dhid (fun w' (hb : Below w.heap.size w w') => longest_any (some ⟨b, off + a * 2, none⟩) (cap - a) a M w' (by omega) hwf'.out ((hsub.out.below hb).mono hb.size))
      rw [hlen] at HL
      clear hc hr hwf hwf' hsub
      have hbd : Below w.heap.size w w := Below.refl _ _
      by_cases her : erV op arg = 0
      · rw [if_pos her, her]
        rw [her] at HC
        go_enter Try.func63, Try.ntmps63
        go_wp2_with (first
          | (go_at_call 13; refine (HC.out _).mono ?_; rintro x w1 ⟨rfl, hb1⟩
             have o1 := dhid ((hb1.block w.heap.size (by simp)).trans (heap_alloc_new w _))
             have hB1 := dhid ((hbd.alloc (Nat.le_refl _) _).trans (hb1.mono (by simp)))
             have hz1 := hB1.out.size)
          | (go_at_call 66; refine (HL.out _ hB1.out).mono ?_; rintro x w2 ⟨rfl, hb2⟩
             have o2 := dhid ((hb2.block w.heap.size (by have := hb1.size; simp at this; omega)).trans o1.out)
             have hB2 := dhid (hB1.out.trans (hb2.mono hz1)))
          | (refine wpList_store_rowD rfl _ _ _ rfl w.heap.size _ (pcA a (lgV M)) rfl rfl o2.out (by rw [sizeDPc]; rfl) rfl (by simp [pcA, Value.oneCell']) ?_))
        refine bodyPost_ret (resEPc (p := 6) (u := 7) (by kernel_rfl) _ _ w.heap.size (pcA a (lgV M)) rfl (setRow_heap _ _ _ _ _ _ o2.out) _ rfl rfl) rfl ⟨rfl, hB2.out.trans ((KpSetRow (S := fun k => k = w.heap.size) _ w.heap.size _ rfl).below hB2.out.size (fun i e => by omega))⟩
      · rw [if_neg her]
        have hE1 : ((erV op arg : Int) != 0) = true := by simp; omega
        have hE2 : ¬ (erV op arg : Int) = 0 := by omega
        go_enter Try.func63, Try.ntmps63
        go_wp2_with (first
          | (go_at_call 13; refine (HC.out _).mono ?_; rintro x w1 ⟨rfl, hb1⟩
             have o1 := dhid ((hb1.block w.heap.size (by simp)).trans (heap_alloc_new w _))
             have hB1 := dhid ((hbd.alloc (Nat.le_refl _) _).trans (hb1.mono (by simp))))
          | (refine wpList_store_rowD rfl _ _ _ rfl w.heap.size _ (pcA 0 (0, 0, 0)) rfl rfl o1.out (by rw [sizeDPc]; rfl) rfl (by simp [pcA, Value.oneCell']) ?_))
        refine bodyPost_ret (resEPc (p := 6) (u := 7) (by kernel_rfl) _ _ w.heap.size (pcA 0 (0, 0, 0)) rfl (setRow_heap _ _ _ _ _ _ o1.out) _ rfl rfl) rfl ⟨rfl, hB1.out.trans ((KpSetRow (S := fun k => k = w.heap.size) _ w.heap.size _ rfl).below hB1.out.size (fun i e => by omega))⟩
    · have d2 : decide ((L.length : Int) < (e : Int)) = true := by simp; omega
      rw [show lnE L a e = 2 by simp [lnE, hae, hel], show lnP L a e = (0, 0, 0, 0) by simp [lnP, hae, hel]]
      clear hr
      go_enter Try.func63, Try.ntmps63
      go_wp2
      exact bodyPost_ret (resEPc (p := 6) (u := 7) (by kernel_rfl) _ _ w.heap.size (pcA 0 (0, 0, 0)) rfl (heap_alloc_last w _) _ rfl rfl) rfl ⟨rfl, bel (Below.refl _ _)⟩
  · have d1 : decide ((e : Int) ≤ (a : Int)) = true := by simp; omega
    rw [show lnE L a e = 2 by simp [lnE, hae], show lnP L a e = (0, 0, 0, 0) by simp [lnP, hae]]
    clear hr
    go_enter Try.func63, Try.ntmps63
    go_wp2
    exact bodyPost_ret (resEPc (p := 6) (u := 7) (by kernel_rfl) _ _ w.heap.size (pcA 0 (0, 0, 0)) rfl (heap_alloc_last w _) _ rfl rfl) rfl ⟨rfl, bel (Below.refl _ _)⟩
theorem cvD_get (L : List (Nat × Nat)) : ∀ j, j < L.length → (cv L)[j * 2]? = some (.int .u8 (L.getD j (0, 0)).1) ∧ (cv L)[j * 2 + 1]? = some (.int .u32 (L.getD j (0, 0)).2) := by
  induction L with
  | nil => intro j hj; simp at hj
  | cons p L ih =>
    intro j hj
    cases j with
    | zero => exact ⟨rfl, rfl⟩
    | succ j =>
      have := ih j (by simpa using hj)
      rw [show cv (p :: L) = .int .u8 p.1 :: .int .u32 p.2 :: cv L from rfl, show (j + 1) * 2 = j * 2 + 1 + 1 by omega, show (p :: L).getD (j + 1) (0, 0) = L.getD j (0, 0) from rfl]
      exact this
/-- code that lies in a block of its own is read -/
theorem crd_blkD {w : World} {b : Nat} {cs : Array Value} {t : TypeId} {L : List (Nat × Nat)} (h : w.heap[b]? = some (.cells cs t)) (hcs : cs.toList = cv L) : CRd w (some ⟨b, 0, none⟩) L w.heap.size := by
  intro _
  refine ⟨b, 0, rfl, (Array.getElem?_eq_some_iff.1 h).1, fun j hj => ?_⟩
  have := cvD_get L j hj
  rw [← hcs] at this
  rw [Nat.zero_add, obj_cell h, obj_cell h]
  simpa using this
def awL : List (Nat × Nat) := [(8, 2), (8, 3), (41, 0), (38, 0), (31, 0)]
theorem awL_wf : Wfc awL := by unfold Wfc awL; decide +kernel
theorem aw1 : lnP awL 0 5 = (0, 4, 2, 4294967290) ∧ lnE awL 0 5 = 0 := by decide +kernel
theorem aw2 : lnP awL 4 5 = (4, 1, 1, 0) ∧ lnE awL 4 5 = 0 := by decide +kernel
abbrev awC : Array Value := #[.int .u8 8, .int .u32 2, .int .u8 8, .int .u32 3, .int .u8 41, .int .u32 0, .int .u8 38, .int .u32 0, .int .u8 31, .int .u32 0]
theorem aw1_call (b : Nat) (w : World) (h : w.heap[b]? = some (.cells awC 36)) :
    Calls Try.prog 63 #[.slice (some ⟨b, 0, none⟩) 5 5, .int .u32 0, .int .u32 5] w fun x w' => x = .returned (.tuple #[.agg #[.int .u32 0, .int .u32 4, .int .u8 2, .int .u32 4294967290], .int .i64 0]) ∧ Below w.heap.size w w' := by
  have := Longest_any (some ⟨b, 0, none⟩) 5 0 5 awL w (by decide) (by decide) (by decide) (by decide) awL_wf (crd_blkD h rfl)
  rw [aw1.1, aw1.2] at this
  exact this
theorem aw2_call (b : Nat) (w : World) (h : w.heap[b]? = some (.cells awC 36)) :
    Calls Try.prog 63 #[.slice (some ⟨b, 0, none⟩) 5 5, .int .u32 4, .int .u32 5] w fun x w' => x = .returned (.tuple #[.agg #[.int .u32 4, .int .u32 1, .int .u8 1, .int .u32 0], .int .i64 0]) ∧ Below w.heap.size w w' := by
  have := Longest_any (some ⟨b, 0, none⟩) 5 4 5 awL w (by decide) (by decide) (by decide) (by decide) awL_wf (crd_blkD h rfl)
  rw [aw2.1, aw2.2] at this
  exact this
theorem at_pc {P : Program} {ops : Array Oper} {Q : Exit → Act → World → Prop} {rest : List Oper} {o : Oper} {a : Act} {w : World} {p q : Operand} (_ho : o.op = .store 106 p q) (h : wpList P ops Q (o :: rest) a w) : wpList P ops Q (o :: rest) a w := h
end Go.Proofs.Ytonmoidalkcmoaa
