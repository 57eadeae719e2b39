import Derived.Test.YtdpghhkimnifjaaDLo
import Derived.Test.YtdpghhkimnifjaaCISiz
namespace Go.Proofs.Ytdpghhkimnifjaa
open Go.RowKit Go.WideShapes
set_option maxRecDepth 100000

/-- what Longest answers: where the piece begins, the piece, the error -/
def lnP (L : List (Nat × Nat)) (a e : Nat) : Nat × Nat × Nat × Nat :=
  if a < e ∧ e ≤ L.length ∧ erV (L.getD a (0, 0)).1 (L.getD a (0, 0)).2 = 0 then (a, lgV ((L.drop a).take (e - a))) else (0, 0, 0, 0)
def lnE (L : List (Nat × Nat)) (a e : Nat) : Nat := if a < e ∧ e ≤ L.length then erV (L.getD a (0, 0)).1 (L.getD a (0, 0)).2 else 2
theorem crd_sub {w : World} {b off : Nat} {L : List (Nat × Nat)} {B a e : Nat} (hlt : b < B) (hae : a < e) (he : e ≤ L.length)
    (hc : ∀ j, j < L.length → w.cell? ⟨b, off + j * 2, none⟩ = some (.int .u8 (L.getD j (0, 0)).1) ∧ w.cell? ⟨b, off + j * 2 + 1, none⟩ = some (.int .u32 (L.getD j (0, 0)).2)) :
    CRd w (some ⟨b, off + a * 2, none⟩) ((L.drop a).take (e - a)) B := by
  intro _
  refine ⟨b, off + a * 2, rfl, hlt, fun j hj => ?_⟩
  simp only [List.length_take, List.length_drop] at hj
  have := hc (a + j) (by omega)
  have e1 : ((L.drop a).take (e - a)).getD j (0, 0) = L.getD (a + j) (0, 0) := by
    simp only [List.getD]
    rw [List.getElem?_take_of_lt (by omega), List.getElem?_drop]
  rw [e1, show off + a * 2 + j * 2 = off + (a + j) * 2 by omega]
  exact this
theorem wfc_sub {L : List (Nat × Nat)} (h : Wfc L) (a n : Nat) : Wfc ((L.drop a).take n) := fun p hp => h p (List.drop_subset _ _ (List.take_subset _ _ hp))
set_option maxHeartbeats 4000000 in
theorem Longest_any (ao : Option Addr) (cap a e : Nat) (L : List (Nat × Nat)) (w : World) (hL : L.length ≤ 140737488355328) (hcap : L.length ≤ cap) (ha : a < 4294967296) (he : e < 4294967296) (hwf : Wfc L) (hr : CRd w ao L w.heap.size) :
    Calls Try.prog 69 #[.slice ao L.length cap, .int .u32 (a : Int), .int .u32 (e : Int)] w fun x w' => x = .returned (.tuple #[.agg (pcA (lnP L a e).1 (lnP L a e).2), .int .i64 (lnE L a e : Int)]) ∧ Below w.heap.size w w' := by
  by_cases hae : a < e
  · have d1 : decide ((e : Int) ≤ (a : Int)) = false := by simp; omega
    by_cases hel : e ≤ L.length
    · have d2 : decide ((L.length : Int) < (e : Int)) = false := by simp; omega
      obtain ⟨b, off, rfl, hbl, hc⟩ := hr (by omega)
      have hsub := dhid (crd_sub (B := w.heap.size) hbl hae hel hc)
      have x0 := (hc a (by omega)).1
      have x1 := (hc a (by omega)).2
      obtain ⟨hop, harg⟩ := hwf.at (k := a) (by omega)
      have hi : (a : Int) < L.length := by omega
      have hwf' := dhid (wfc_sub hwf a (e - a))
      have hlen : ((L.drop a).take (e - a)).length = e - a := by simp; omega
      rw [show lnE L a e = erV (L.getD a (0, 0)).1 (L.getD a (0, 0)).2 by simp [lnE, hae, hel]]
      rw [show lnP L a e = if erV (L.getD a (0, 0)).1 (L.getD a (0, 0)).2 = 0 then (a, lgV ((L.drop a).take (e - a))) else (0, 0, 0, 0) by simp [lnP, hae, hel]]
      generalize L.getD a (0, 0) = pp at *
      obtain ⟨op, arg⟩ := pp
      simp only at x0 x1 hop harg ⊢
      generalize (L.drop a).take (e - a) = M at *
      have HC := dhid (fun w' => fcheck_any op arg w' hop)
      have HL := dhid (fun w' (hb : Below w.heap.size w w') => longest_any (some ⟨b, off + a * 2, none⟩) (cap - a) a M w' (by omega) hwf'.out ((hsub.out.below hb).mono hb.size))
      rw [hlen] at HL
      clear hc hr hwf hwf' hsub
      have hbd : Below w.heap.size w w := Below.refl _ _
      by_cases her : erV op arg = 0
      · rw [if_pos her, her]
        rw [her] at HC
        go_enter Try.func69, Try.ntmps69
        go_wp2_with (first
          | (go_at_call 16; refine (HC.out _).mono ?_; rintro x w1 ⟨rfl, hb1⟩
             have o1 := dhid ((hb1.block w.heap.size (by simp)).trans (heap_alloc_new w _))
             have hB1 := dhid ((hbd.alloc (Nat.le_refl _) _).trans (hb1.mono (by simp)))
             have hz1 := hB1.out.size)
          | (go_at_call 72; refine (HL.out _ hB1.out).mono ?_; rintro x w2 ⟨rfl, hb2⟩
             have o2 := dhid ((hb2.block w.heap.size (by have := hb1.size; simp at this; omega)).trans o1.out)
             have hB2 := dhid (hB1.out.trans (hb2.mono hz1)))
          | (refine wpList_store_rowD rfl _ _ _ rfl w.heap.size _ (pcA a (lgV M)) rfl rfl o2.out (by rw [sizeDPc]; rfl) rfl (by simp [pcA, Value.oneCell']) ?_))
        refine bodyPost_ret (resEPc (p := 6) (u := 7) (by kernel_rfl) _ _ w.heap.size (pcA a (lgV M)) rfl (setRow_heap _ _ _ _ _ _ o2.out) _ rfl rfl) rfl ⟨rfl, hB2.out.trans ((KpSetRow (S := fun k => k = w.heap.size) _ w.heap.size _ rfl).below hB2.out.size (fun i e => by omega))⟩
      · rw [if_neg her]
        have hE1 : ((erV op arg : Int) != 0) = true := by simp; omega
        have hE2 : ¬ (erV op arg : Int) = 0 := by omega
        go_enter Try.func69, Try.ntmps69
        go_wp2_with (first
          | (go_at_call 16; refine (HC.out _).mono ?_; rintro x w1 ⟨rfl, hb1⟩
             have o1 := dhid ((hb1.block w.heap.size (by simp)).trans (heap_alloc_new w _))
             have hB1 := dhid ((hbd.alloc (Nat.le_refl _) _).trans (hb1.mono (by simp))))
          | (refine wpList_store_rowD rfl _ _ _ rfl w.heap.size _ (pcA 0 (0, 0, 0)) rfl rfl o1.out (by rw [sizeDPc]; rfl) rfl (by simp [pcA, Value.oneCell']) ?_))
        refine bodyPost_ret (resEPc (p := 6) (u := 7) (by kernel_rfl) _ _ w.heap.size (pcA 0 (0, 0, 0)) rfl (setRow_heap _ _ _ _ _ _ o1.out) _ rfl rfl) rfl ⟨rfl, hB1.out.trans ((KpSetRow (S := fun k => k = w.heap.size) _ w.heap.size _ rfl).below hB1.out.size (fun i e => by omega))⟩
    · have d2 : decide ((L.length : Int) < (e : Int)) = true := by simp; omega
      rw [show lnE L a e = 2 by simp [lnE, hae, hel], show lnP L a e = (0, 0, 0, 0) by simp [lnP, hae, hel]]
      clear hr
      go_enter Try.func69, Try.ntmps69
      go_wp2
      exact bodyPost_ret (resEPc (p := 6) (u := 7) (by kernel_rfl) _ _ w.heap.size (pcA 0 (0, 0, 0)) rfl (heap_alloc_last w _) _ rfl rfl) rfl ⟨rfl, bel (Below.refl _ _)⟩
  · have d1 : decide ((e : Int) ≤ (a : Int)) = true := by simp; omega
    rw [show lnE L a e = 2 by simp [lnE, hae], show lnP L a e = (0, 0, 0, 0) by simp [lnP, hae]]
    clear hr
    go_enter Try.func69, Try.ntmps69
    go_wp2
    exact bodyPost_ret (resEPc (p := 6) (u := 7) (by kernel_rfl) _ _ w.heap.size (pcA 0 (0, 0, 0)) rfl (heap_alloc_last w _) _ rfl rfl) rfl ⟨rfl, bel (Below.refl _ _)⟩
end Go.Proofs.Ytdpghhkimnifjaa
namespace Go.Proofs.Ytdpghhkimnifjaa
open Go.RowKit Go.WideShapes
set_option maxRecDepth 100000

theorem cvD_get (L : List (Nat × Nat)) : ∀ j, j < L.length → (cv L)[j * 2]? = some (.int .u8 (L.getD j (0, 0)).1) ∧ (cv L)[j * 2 + 1]? = some (.int .u32 (L.getD j (0, 0)).2) := by
  induction L with
  | nil => intro j hj; simp at hj
  | cons p L ih =>
    intro j hj
    cases j with
    | zero => exact ⟨rfl, rfl⟩
    | succ j =>
      have := ih j (by simpa using hj)
      rw [show cv (p :: L) = .int .u8 p.1 :: .int .u32 p.2 :: cv L from rfl, show (j + 1) * 2 = j * 2 + 1 + 1 by omega, show (p :: L).getD (j + 1) (0, 0) = L.getD j (0, 0) from rfl]
      exact this
/-- code that lies in a block of its own is read -/
theorem crd_blkD {w : World} {b : Nat} {cs : Array Value} {t : TypeId} {L : List (Nat × Nat)} (h : w.heap[b]? = some (.cells cs t)) (hcs : cs.toList = cv L) : CRd w (some ⟨b, 0, none⟩) L w.heap.size := by
  intro _
  refine ⟨b, 0, rfl, (Array.getElem?_eq_some_iff.1 h).1, fun j hj => ?_⟩
  have := cvD_get L j hj
  rw [← hcs] at this
  rw [Nat.zero_add, obj_cell h, obj_cell h]
  simpa using this
def awL : List (Nat × Nat) := [(8, 2), (8, 3), (41, 0), (38, 0), (31, 0)]
theorem awL_wf : Wfc awL := by unfold Wfc awL; decide +kernel
theorem aw1 : lnP awL 0 5 = (0, 4, 2, 4294967290) ∧ lnE awL 0 5 = 0 := by decide +kernel
theorem aw2 : lnP awL 4 5 = (4, 1, 1, 0) ∧ lnE awL 4 5 = 0 := by decide +kernel
abbrev awC : Array Value := #[.int .u8 8, .int .u32 2, .int .u8 8, .int .u32 3, .int .u8 41, .int .u32 0, .int .u8 38, .int .u32 0, .int .u8 31, .int .u32 0]
theorem aw1_call (b : Nat) (w : World) (h : w.heap[b]? = some (.cells awC 36)) :
    Calls Try.prog 69 #[.slice (some ⟨b, 0, none⟩) 5 5, .int .u32 0, .int .u32 5] w fun x w' => x = .returned (.tuple #[.agg #[.int .u32 0, .int .u32 4, .int .u8 2, .int .u32 4294967290], .int .i64 0]) ∧ Below w.heap.size w w' := by
  have := Longest_any (some ⟨b, 0, none⟩) 5 0 5 awL w (by decide) (by decide) (by decide) (by decide) awL_wf (crd_blkD h rfl)
  rw [aw1.1, aw1.2] at this
  exact this
theorem aw2_call (b : Nat) (w : World) (h : w.heap[b]? = some (.cells awC 36)) :
    Calls Try.prog 69 #[.slice (some ⟨b, 0, none⟩) 5 5, .int .u32 4, .int .u32 5] w fun x w' => x = .returned (.tuple #[.agg #[.int .u32 4, .int .u32 1, .int .u8 1, .int .u32 0], .int .i64 0]) ∧ Below w.heap.size w w' := by
  have := Longest_any (some ⟨b, 0, none⟩) 5 4 5 awL w (by decide) (by decide) (by decide) (by decide) awL_wf (crd_blkD h rfl)
  rw [aw2.1, aw2.2] at this
  exact this
theorem at_pc {P : Program} {ops : Array Oper} {Q : Exit → Act → World → Prop} {rest : List Oper} {o : Oper} {a : Act} {w : World} {p q : Operand} (_ho : o.op = .store 111 p q) (h : wpList P ops Q (o :: rest) a w) : wpList P ops Q (o :: rest) a w := h
end Go.Proofs.Ytdpghhkimnifjaa
namespace Go.Proofs.Ytdpghhkimnifjaa
open Go.RowKit Go.WideShapes
set_option maxRecDepth 100000

/-- what the document's list becomes by an instruction that is no comparison -/
def doD (ws : List Nat) (op arg : Nat) : Option (List Nat) :=
  if op = 1 then some ws
  else if op = 8 then (if ws.length + 1 ≤ 64 then some (ws ++ [arg]) else none)
  else if op = 10 then (if 1 ≤ ws.length then some ws.dropLast else none)
  else if op = 11 then (if 1 ≤ ws.length ∧ ws.length + 1 ≤ 64 then some (ws ++ [ws.getLastD 0]) else none)
  else if unE op = 0 then (if 1 ≤ ws.length then some (ws.dropLast ++ [unV op (ws.getLastD 0)]) else none)
  else if binE op 1 = 0 then (if 2 ≤ ws.length ∧ binE op (ws.getLastD 0) = 0 then some (ws.dropLast.dropLast ++ [binV op (ws.dropLast.getLastD 0) (ws.getLastD 0)]) else none)
  else none
theorem tab_un : ∀ op, op < 256 → unE op = 0 → opTa op = 1 ∧ opGi op = 1 ∧ ¬ op = 1 ∧ ¬ op = 8 ∧ ¬ op = 10 ∧ ¬ op = 11 := by decide +kernel
theorem tab_bin : ∀ op, op < 256 → binE op 1 = 0 → opTa op = 2 ∧ opGi op = 1 ∧ ¬ op = 1 ∧ ¬ op = 8 ∧ ¬ op = 10 ∧ ¬ op = 11 := by decide +kernel
theorem tab_1 : opTa 1 = 0 ∧ opGi 1 = 0 := by decide +kernel
theorem tab_10 : opTa 10 = 1 ∧ opGi 10 = 0 := by decide +kernel
theorem binE_61 {op : Nat} (h : ¬ binE op 1 = 0) (b : Nat) : ¬ binE op b = 0 := by
  unfold binE at *
  by_cases h1 : op = 42 ∨ op = 43 ∨ op = 44 ∨ op = 45
  · rw [if_pos h1, if_neg (by decide)] at h; exact absurd rfl h
  · rw [if_neg h1] at h ⊢; exact h
/-- the document's list and the row go alike -/
theorem doD_eq {ws : List Nat} {op arg : Nat} (hop : op < 256) (hl : ws.length ≤ 64) : doD ws op arg = if brB ws op = true then plV ws op arg else none := by
  unfold doD plV
  by_cases h1 : op = 1
  · subst h1; simp [brB, tab_1, hl]
  by_cases h8 : op = 8
  · subst h8; simp [brB, ta_8]
  by_cases h10 : op = 10
  · subst h10
    show (if 1 ≤ ws.length then some ws.dropLast else none) = if brB ws 10 = true then some ws.dropLast else none
    simp only [brB, tab_10, decide_eq_true_eq]
    by_cases hw : 1 ≤ ws.length
    · rw [if_pos hw, if_pos (by omega)]
    · rw [if_neg hw, if_neg (by omega)]
  by_cases h11 : op = 11
  · subst h11
    show (if 1 ≤ ws.length ∧ ws.length + 1 ≤ 64 then some (ws ++ [ws.getLastD 0]) else none) = if brB ws 11 = true then some (ws.dropLast ++ [ws.getLastD 0] ++ [ws.getLastD 0]) else none
    simp only [brB, ta_11, decide_eq_true_eq]
    by_cases hw : 1 ≤ ws.length ∧ ws.length + 1 ≤ 64
    · rw [if_pos hw, if_pos (by omega), ← last_cut ws hw.1]
    · rw [if_neg hw, if_neg (by omega)]
  simp only [h1, h8, h10, h11, if_false]
  unfold wkV
  by_cases hu : unE op = 0
  · obtain ⟨t1, t2, _⟩ := tab_un op hop hu
    simp only [hu, if_true, t1, brB, t2, decide_eq_true_eq]
    by_cases hw : 1 ≤ ws.length
    · rw [if_pos hw, if_pos (by omega)]
    · rw [if_neg hw, if_neg (by omega)]
  · simp only [hu, if_false]
    by_cases hb : binE op 1 = 0
    · obtain ⟨t1, t2, _⟩ := tab_bin op hop hb
      simp only [hb, if_true, t1, brB, t2, decide_eq_true_eq]
      by_cases hw : 2 ≤ ws.length
      · rw [if_pos (show 2 ≤ ws.length ∧ ws.length - 2 + 1 ≤ 64 by omega)]
        simp [hw]
      · rw [if_neg (fun e => hw e.1), if_neg (by omega)]
    · simp only [hb, if_false]
      split
      · split
        · rfl
        · split
          · rw [if_neg (binE_61 hb _)]
          · rfl
      · rfl
/-- a row played by itself: what it comes to -/
def plD : List (Nat × Nat) → List Nat → Option (Nat × Nat)
  | [], ws => if ws.length = 0 then some (4, 0) else if ws.length = 1 then some (2, ws.getD 0 0) else none
  | p :: r, ws =>
    if erV p.1 p.2 = 0 then
      (if opKi p.1 = 2 then (if r = [] ∧ ws.length = 2 then some (if hoV p.1 (ws.getD 0 0) (ws.getD 1 0) then (3, p.2) else (4, 0)) else none)
       else match doD ws p.1 p.2 with
        | none => none
        | some ws' => plD r ws')
    else none
theorem doD_len {ws ws' : List Nat} {op arg : Nat} (hl : ws.length ≤ 64) (h : doD ws op arg = some ws') : ws'.length ≤ 64 := by
  unfold doD at h
  split at h
  · cases h; exact hl
  split at h
  · split at h <;> cases h; simp; omega
  split at h
  · split at h <;> cases h; simp; omega
  split at h
  · split at h <;> cases h; simp; omega
  split at h
  · split at h <;> cases h; simp; omega
  split at h
  · split at h <;> cases h; simp; omega
  · cases h
/-- the last closed row of a stretch that is played on, of one instruction more at least -/
def Bst (L : List (Nat × Nat)) (ws : List Nat) (i : Nat) (c res : Nat × Nat × Nat) : Prop :=
  (∃ n k v, 1 ≤ n ∧ n ≤ L.length ∧ 2 ≤ i + n ∧ plD (L.take n) ws = some (k, v) ∧ res = (i + n, k, v) ∧ ∀ m, n < m → m ≤ L.length → plD (L.take m) ws = none)
  ∨ (∀ n, 1 ≤ n → n ≤ L.length → 2 ≤ i + n → plD (L.take n) ws = none) ∧ res = c
theorem plD_er {p : Nat × Nat} {r : List (Nat × Nat)} {ws : List Nat} (h : ¬ erV p.1 p.2 = 0) : plD (p :: r) ws = none := by simp [plD, h]
theorem plD_no {p : Nat × Nat} {r : List (Nat × Nat)} {ws : List Nat} (h2 : ¬ opKi p.1 = 2) (h3 : doD ws p.1 p.2 = none) : plD (p :: r) ws = none := by simp [plD, h2, h3]
theorem plD_on {p : Nat × Nat} {r : List (Nat × Nat)} {ws ws' : List Nat} (h1 : erV p.1 p.2 = 0) (h2 : ¬ opKi p.1 = 2) (h3 : doD ws p.1 p.2 = some ws') : plD (p :: r) ws = plD r ws' := by simp [plD, h1, h2, h3]
theorem plD_cmp {p : Nat × Nat} {r : List (Nat × Nat)} {ws : List Nat} (h1 : erV p.1 p.2 = 0) (h2 : opKi p.1 = 2) : plD (p :: r) ws = if r = [] ∧ ws.length = 2 then some (if hoV p.1 (ws.getD 0 0) (ws.getD 1 0) then (3, p.2) else (4, 0)) else none := by simp [plD, h1, h2]
theorem take_pos {p : Nat × Nat} {r : List (Nat × Nat)} {n : Nat} (h : 1 ≤ n) : (p :: r).take n = p :: r.take (n - 1) := by
  obtain ⟨k, rfl⟩ : ∃ k, n = k + 1 := ⟨n - 1, by omega⟩
  simp
theorem bst_none {L : List (Nat × Nat)} {ws : List Nat} {i : Nat} {c : Nat × Nat × Nat} (h : ∀ n, 1 ≤ n → n ≤ L.length → plD (L.take n) ws = none) : Bst L ws i c c := .inr ⟨fun n h1 h2 _ => h n h1 h2, rfl⟩
theorem tab_cmpb : ∀ op, op < 256 → opKi op = 2 → opTa op = 2 ∧ opGi op = 0 := by decide +kernel
theorem lgF_bst : ∀ (L : List (Nat × Nat)) (ws : List Nat) (i : Nat) (c : Nat × Nat × Nat), (∀ p ∈ L, p.1 < 256) → ws.length ≤ 64 → (i = 0 → ws = []) → Bst L ws i c (lgF L ws i c)
  | [], ws, i, c, _, _, _ => bst_none (fun n h1 h2 => absurd h2 (by simp; omega))
  | p :: r, ws, i, c, hL, hl, h0 => by
    have hop := hL p (by simp)
    by_cases h1 : erV p.1 p.2 = 0
    · by_cases h2 : opKi p.1 = 2
      · obtain ⟨t1, t2⟩ := tab_cmpb p.1 hop h2
        by_cases hw : ws.length = 2
        · have hbr : brB ws p.1 = true := by simp [brB, t1, t2, hw]
          have e : lgF (p :: r) ws i c = cmpV ws p.1 p.2 (i + 1) := by simp [lgF, h1, hbr, h2, hw, t1]
          have hi : 0 < i := by
            rcases Nat.eq_zero_or_pos i with h | h
            · rw [h0 h] at hw; simp at hw
            · exact h
          rw [e]
          unfold cmpV
          refine .inl ⟨1, if hoV p.1 (ws.getD 0 0) (ws.getD 1 0) then 3 else 4, if hoV p.1 (ws.getD 0 0) (ws.getD 1 0) then p.2 else 0, Nat.le_refl _, by simp, by omega, ?_, ?_, ?_⟩
          · rw [take_pos (Nat.le_refl _), plD_cmp h1 h2, if_pos ⟨by simp, hw⟩]
            split <;> rfl
          · split <;> rfl
          · intro m hm hm2
            rw [take_pos (by omega), plD_cmp h1 h2, if_neg]
            rintro ⟨h, _⟩
            have := congrArg List.length h
            rw [List.length_take, List.length_nil] at this
            rw [List.length_cons] at hm2
            omega
        · have e : lgF (p :: r) ws i c = c := by
            simp only [lgF, h1, h2, t1, if_true]
            simp [hw]
          rw [e]
          exact bst_none (fun n hn _ => by rw [take_pos hn, plD_cmp h1 h2, if_neg (fun h => hw h.2)])
      · have hd := doD_eq (arg := p.2) hop hl
        cases hdo : doD ws p.1 p.2 with
        | none =>
          rw [hdo] at hd
          have e : lgF (p :: r) ws i c = c := by
            by_cases hb : brB ws p.1 = true
            · rw [if_pos hb] at hd
              simp [lgF, h1, h2, hb, ← hd]
            · simp [lgF, hb]
          rw [e]
          exact bst_none (fun n hn _ => by rw [take_pos hn]; exact plD_no h2 hdo)
        | some ws' =>
          rw [hdo] at hd
          have hb : brB ws p.1 = true := by
            cases h : brB ws p.1 with
            | true => rfl
            | false => rw [h] at hd; simp at hd
          rw [if_pos hb] at hd
          have e : lgF (p :: r) ws i c = lgF r ws' (i + 1) (if 0 < i ∧ ws'.length ≤ 1 then leftV ws' (i + 1) else c) := by simp [lgF, h1, h2, hb, ← hd]
          rw [e]
          have ih := lgF_bst r ws' (i + 1) (if 0 < i ∧ ws'.length ≤ 1 then leftV ws' (i + 1) else c) (fun q hq => hL q (by simp [hq])) (doD_len hl hdo) (fun h => by omega)
          have ht : ∀ n, 1 ≤ n → plD ((p :: r).take n) ws = plD (r.take (n - 1)) ws' := fun n hn => by rw [take_pos hn]; exact plD_on h1 h2 hdo
          rcases ih with ⟨n, k, v, n1, n2, n3, n4, n5, n6⟩ | ⟨a1, a2⟩
          · refine .inl ⟨n + 1, k, v, by omega, by simpa using n2, by omega, ?_, ?_, ?_⟩
            · rw [ht _ (by omega)]; exact n4
            · rw [n5]; congr 1; omega
            · intro m hm hm2
              rw [ht _ (by omega)]
              exact n6 (m - 1) (by omega) (by simp at hm2; omega)
          · rw [a2]
            by_cases hc : 0 < i ∧ ws'.length ≤ 1
            · rw [if_pos hc]
              refine .inl ⟨1, if ws'.length = 0 then 4 else 2, if ws'.length = 0 then 0 else ws'.getD 0 0, Nat.le_refl _, by simp, by omega, ?_, ?_, ?_⟩
              · rw [ht _ (Nat.le_refl _)]
                simp only [Nat.sub_self, List.take_zero, plD]
                by_cases hz : ws'.length = 0
                · simp [hz]
                · rw [if_neg hz, if_pos (by omega), if_neg hz, if_neg hz]
              · unfold leftV
                split <;> rfl
              · intro m hm hm2
                rw [ht _ (by omega)]
                exact a1 (m - 1) (by omega) (by simp at hm2; omega) (by omega)
            · rw [if_neg hc]
              refine .inr ⟨?_, rfl⟩
              intro n hn hn2 hn3
              rw [ht _ hn]
              by_cases hn1 : n = 1
              · subst hn1
                simp only [Nat.sub_self, List.take_zero, plD]
                rw [if_neg (by omega), if_neg (by omega)]
              · exact a1 (n - 1) (by omega) (by simp at hn2; omega) (by omega)
    · rw [show lgF (p :: r) ws i c = c by simp [lgF, h1]]
      exact bst_none (fun n hn _ => by rw [take_pos hn]; exact plD_er h1)
end Go.Proofs.Ytdpghhkimnifjaa
