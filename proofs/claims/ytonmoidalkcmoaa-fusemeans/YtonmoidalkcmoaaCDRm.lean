import Derived.Test.YtonmoidalkcmoaaCDMa
import Derived.Test.YtonmoidalkcmoaaCDLg
import Derived.Deep.RegionHeld3
namespace Go.Proofs.Ytonmoidalkcmoaa
open Go.RowKit Go.WideShapes
set_option maxRecDepth 100000
/-- what the document's list becomes by an instruction that is no comparison -/
def doD (ws : List Nat) (op arg : Nat) : Option (List Nat) :=
  if op = 1 then some ws
  else if op = 8 then (if ws.length + 1 ≤ 64 then some (ws ++ [arg]) else none)
  else if op = 10 then (if 1 ≤ ws.length then some ws.dropLast else none)
  else if op = 11 then (if 1 ≤ ws.length ∧ ws.length + 1 ≤ 64 then some (ws ++ [ws.getLastD 0]) else none)
  else if unE op = 0 then (if 1 ≤ ws.length then some (ws.dropLast ++ [unV op (ws.getLastD 0)]) else none)
  else if binE op 1 = 0 then (if 2 ≤ ws.length ∧ binE op (ws.getLastD 0) = 0 then some (ws.dropLast.dropLast ++ [binV op (ws.dropLast.getLastD 0) (ws.getLastD 0)]) else none)
  else none
theorem tab_un : ∀ op, op < 256 → unE op = 0 → opTa op = 1 ∧ opGi op = 1 ∧ ¬ op = 1 ∧ ¬ op = 8 ∧ ¬ op = 10 ∧ ¬ op = 11 := by decide +kernel
theorem tab_bin : ∀ op, op < 256 → binE op 1 = 0 → opTa op = 2 ∧ opGi op = 1 ∧ ¬ op = 1 ∧ ¬ op = 8 ∧ ¬ op = 10 ∧ ¬ op = 11 := by decide +kernel
theorem tab_1 : opTa 1 = 0 ∧ opGi 1 = 0 := by decide +kernel
theorem tab_10 : opTa 10 = 1 ∧ opGi 10 = 0 := by decide +kernel
theorem binE_61 {op : Nat} (h : ¬ binE op 1 = 0) (b : Nat) : ¬ binE op b = 0 := by
  unfold binE at *
  by_cases h1 : op = 42 ∨ op = 43 ∨ op = 44 ∨ op = 45
  · rw [if_pos h1, if_neg (by decide)] at h; exact absurd rfl h
  · rw [if_neg h1] at h ⊢; exact h
/-- the document's list and the row go alike -/
theorem doD_eq {ws : List Nat} {op arg : Nat} (hop : op < 256) (hl : ws.length ≤ 64) : doD ws op arg = if brB ws op = true then plV ws op arg else none := by
  unfold doD plV
  by_cases h1 : op = 1
  · subst h1; simp [brB, tab_1, hl]
  by_cases h8 : op = 8
  · subst h8; simp [brB, ta_8]
  by_cases h10 : op = 10
  · subst h10
    show (if 1 ≤ ws.length then some ws.dropLast else none) = if brB ws 10 = true then some ws.dropLast else none
    simp only [brB, tab_10, decide_eq_true_eq]
    by_cases hw : 1 ≤ ws.length
    · rw [if_pos hw, if_pos (by omega)]
    · rw [if_neg hw, if_neg (by omega)]
  by_cases h11 : op = 11
  · subst h11
    show (if 1 ≤ ws.length ∧ ws.length + 1 ≤ 64 then some (ws ++ [ws.getLastD 0]) else none) = if brB ws 11 = true then some (ws.dropLast ++ [ws.getLastD 0] ++ [ws.getLastD 0]) else none
    simp only [brB, ta_11, decide_eq_true_eq]
    by_cases hw : 1 ≤ ws.length ∧ ws.length + 1 ≤ 64
    · rw [if_pos hw, if_pos (by omega), ← last_cut ws hw.1]
    · rw [if_neg hw, if_neg (by omega)]
  simp only [h1, h8, h10, h11, if_false]
  unfold wkV
  by_cases hu : unE op = 0
  · obtain ⟨t1, t2, _⟩ := tab_un op hop hu
    simp only [hu, if_true, t1, brB, t2, decide_eq_true_eq]
    by_cases hw : 1 ≤ ws.length
    · rw [if_pos hw, if_pos (by omega)]
    · rw [if_neg hw, if_neg (by omega)]
  · simp only [hu, if_false]
    by_cases hb : binE op 1 = 0
    · obtain ⟨t1, t2, _⟩ := tab_bin op hop hb
      simp only [hb, if_true, t1, brB, t2, decide_eq_true_eq]
      by_cases hw : 2 ≤ ws.length
      · rw [if_pos (show 2 ≤ ws.length ∧ ws.length - 2 + 1 ≤ 64 by omega)]
        simp [hw]
      · rw [if_neg (fun e => hw e.1), if_neg (by omega)]
    · simp only [hb, if_false]
      split
      · split
        · rfl
        · split
          · rw [if_neg (binE_61 hb _)]
          · rfl
      · rfl
/-- a row played by itself: what it comes to -/
def plD : List (Nat × Nat) → List Nat → Option (Nat × Nat)
  | [], ws => if ws.length = 0 then some (4, 0) else if ws.length = 1 then some (2, ws.getD 0 0) else none
  | p :: r, ws =>
    if erV p.1 p.2 = 0 then
      (if opKi p.1 = 2 then (if r = [] ∧ ws.length = 2 then some (if hoV p.1 (ws.getD 0 0) (ws.getD 1 0) then (3, p.2) else (4, 0)) else none)
       else match doD ws p.1 p.2 with
        | none => none
        | some ws' => plD r ws')
    else none
theorem doD_len {ws ws' : List Nat} {op arg : Nat} (hl : ws.length ≤ 64) (h : doD ws op arg = some ws') : ws'.length ≤ 64 := by
  unfold doD at h
  split at h
  · cases h; exact hl
  split at h
  · split at h <;> cases h; simp; omega
  split at h
  · split at h <;> cases h; simp; omega
  split at h
  · split at h <;> cases h; simp; omega
  split at h
  · split at h <;> cases h; simp; omega
  split at h
  · split at h <;> cases h; simp; omega
  · cases h
/-- the last closed row of a stretch that is played on, of one instruction more at least -/
def Bst (L : List (Nat × Nat)) (ws : List Nat) (i : Nat) (c res : Nat × Nat × Nat) : Prop :=
  (∃ n k v, 1 ≤ n ∧ n ≤ L.length ∧ 2 ≤ i + n ∧ plD (L.take n) ws = some (k, v) ∧ res = (i + n, k, v) ∧ ∀ m, n < m → m ≤ L.length → plD (L.take m) ws = none)
  ∨ (∀ n, 1 ≤ n → n ≤ L.length → 2 ≤ i + n → plD (L.take n) ws = none) ∧ res = c
theorem plD_er {p : Nat × Nat} {r : List (Nat × Nat)} {ws : List Nat} (h : ¬ erV p.1 p.2 = 0) : plD (p :: r) ws = none := by simp [plD, h]
theorem plD_no {p : Nat × Nat} {r : List (Nat × Nat)} {ws : List Nat} (h2 : ¬ opKi p.1 = 2) (h3 : doD ws p.1 p.2 = none) : plD (p :: r) ws = none := by simp [plD, h2, h3]
theorem plD_on {p : Nat × Nat} {r : List (Nat × Nat)} {ws ws' : List Nat} (h1 : erV p.1 p.2 = 0) (h2 : ¬ opKi p.1 = 2) (h3 : doD ws p.1 p.2 = some ws') : plD (p :: r) ws = plD r ws' := by simp [plD, h1, h2, h3]
theorem plD_cmp {p : Nat × Nat} {r : List (Nat × Nat)} {ws : List Nat} (h1 : erV p.1 p.2 = 0) (h2 : opKi p.1 = 2) : plD (p :: r) ws = if r = [] ∧ ws.length = 2 then some (if hoV p.1 (ws.getD 0 0) (ws.getD 1 0) then (3, p.2) else (4, 0)) else none := by simp [plD, h1, h2]
theorem take_pos {p : Nat × Nat} {r : List (Nat × Nat)} {n : Nat} (h : 1 ≤ n) : (p :: r).take n = p :: r.take (n - 1) := by
  obtain ⟨k, rfl⟩ : ∃ k, n = k + 1 := ⟨n - 1, by omega⟩
  simp
theorem bst_none {L : List (Nat × Nat)} {ws : List Nat} {i : Nat} {c : Nat × Nat × Nat} (h : ∀ n, 1 ≤ n → n ≤ L.length → plD (L.take n) ws = none) : Bst L ws i c c := .inr ⟨fun n h1 h2 _ => h n h1 h2, rfl⟩
theorem tab_cmpb : ∀ op, op < 256 → opKi op = 2 → opTa op = 2 ∧ opGi op = 0 := by decide +kernel
theorem lgF_bst : ∀ (L : List (Nat × Nat)) (ws : List Nat) (i : Nat) (c : Nat × Nat × Nat), (∀ p ∈ L, p.1 < 256) → ws.length ≤ 64 → (i = 0 → ws = []) → Bst L ws i c (lgF L ws i c)
  | [], ws, i, c, _, _, _ => bst_none (fun n h1 h2 => absurd h2 (by simp; omega))
  | p :: r, ws, i, c, hL, hl, h0 => by
    have hop := hL p (by simp)
    by_cases h1 : erV p.1 p.2 = 0
    · by_cases h2 : opKi p.1 = 2
      · obtain ⟨t1, t2⟩ := tab_cmpb p.1 hop h2
        by_cases hw : ws.length = 2
        · have hbr : brB ws p.1 = true := by simp [brB, t1, t2, hw]
          have e : lgF (p :: r) ws i c = cmpV ws p.1 p.2 (i + 1) := by simp [lgF, h1, hbr, h2, hw, t1]
          have hi : 0 < i := by
            rcases Nat.eq_zero_or_pos i with h | h
            · rw [h0 h] at hw; simp at hw
            · exact h
          rw [e]
          unfold cmpV
          refine .inl ⟨1, if hoV p.1 (ws.getD 0 0) (ws.getD 1 0) then 3 else 4, if hoV p.1 (ws.getD 0 0) (ws.getD 1 0) then p.2 else 0, Nat.le_refl _, by simp, by omega, ?_, ?_, ?_⟩
          · rw [take_pos (Nat.le_refl _), plD_cmp h1 h2, if_pos ⟨by simp, hw⟩]
            split <;> rfl
          · split <;> rfl
          · intro m hm hm2
            rw [take_pos (by omega), plD_cmp h1 h2, if_neg]
            rintro ⟨h, _⟩
            have := congrArg List.length h
            rw [List.length_take, List.length_nil] at this
            rw [List.length_cons] at hm2
            omega
        · have e : lgF (p :: r) ws i c = c := by
            simp only [lgF, h1, h2, t1, if_true]
            simp [hw]
          rw [e]
          exact bst_none (fun n hn _ => by rw [take_pos hn, plD_cmp h1 h2, if_neg (fun h => hw h.2)])
      · have hd := doD_eq (arg := p.2) hop hl
        cases hdo : doD ws p.1 p.2 with
        | none =>
          rw [hdo] at hd
          have e : lgF (p :: r) ws i c = c := by
            by_cases hb : brB ws p.1 = true
            · rw [if_pos hb] at hd
              simp [lgF, h1, h2, hb, ← hd]
            · simp [lgF, hb]
          rw [e]
          exact bst_none (fun n hn _ => by rw [take_pos hn]; exact plD_no h2 hdo)
        | some ws' =>
          rw [hdo] at hd
          have hb : brB ws p.1 = true := by
            cases h : brB ws p.1 with
            | true => rfl
            | false => rw [h] at hd; simp at hd
          rw [if_pos hb] at hd
          have e : lgF (p :: r) ws i c = lgF r ws' (i + 1) (if 0 < i ∧ ws'.length ≤ 1 then leftV ws' (i + 1) else c) := by simp [lgF, h1, h2, hb, ← hd]
          rw [e]
          have ih := lgF_bst r ws' (i + 1) (if 0 < i ∧ ws'.length ≤ 1 then leftV ws' (i + 1) else c) (fun q hq => hL q (by simp [hq])) (doD_len hl hdo) (fun h => by omega)
          have ht : ∀ n, 1 ≤ n → plD ((p :: r).take n) ws = plD (r.take (n - 1)) ws' := fun n hn => by rw [take_pos hn]; exact plD_on h1 h2 hdo
          rcases ih with ⟨n, k, v, n1, n2, n3, n4, n5, n6⟩ | ⟨a1, a2⟩
          · refine .inl ⟨n + 1, k, v, by omega, by simpa using n2, by omega, ?_, ?_, ?_⟩
            · rw [ht _ (by omega)]; exact n4
            · rw [n5]; congr 1; omega
            · intro m hm hm2
              rw [ht _ (by omega)]
              exact n6 (m - 1) (by omega) (by simp at hm2; omega)
          · rw [a2]
            by_cases hc : 0 < i ∧ ws'.length ≤ 1
            · rw [if_pos hc]
              refine .inl ⟨1, if ws'.length = 0 then 4 else 2, if ws'.length = 0 then 0 else ws'.getD 0 0, Nat.le_refl _, by simp, by omega, ?_, ?_, ?_⟩
              · rw [ht _ (Nat.le_refl _)]
                simp only [Nat.sub_self, List.take_zero, plD]
                by_cases hz : ws'.length = 0
                · simp [hz]
                · rw [if_neg hz, if_pos (by omega), if_neg hz, if_neg hz]
              · unfold leftV
                split <;> rfl
              · intro m hm hm2
                rw [ht _ (by omega)]
                exact a1 (m - 1) (by omega) (by simp at hm2; omega) (by omega)
            · rw [if_neg hc]
              refine .inr ⟨?_, rfl⟩
              intro n hn hn2 hn3
              rw [ht _ hn]
              by_cases hn1 : n = 1
              · subst hn1
                simp only [Nat.sub_self, List.take_zero, plD]
                rw [if_neg (by omega), if_neg (by omega)]
              · exact a1 (n - 1) (by omega) (by simp at hn2; omega) (by omega)
    · rw [show lgF (p :: r) ws i c = c by simp [lgF, h1]]
      exact bst_none (fun n hn _ => by rw [take_pos hn]; exact plD_er h1)
/-- a thing -/
structure Fz where
  at_ : Nat
  len : Nat
  kind : Nat
  op : Nat
  a : Nat
  b : Nat
def fz0 : Fz := ⟨0, 0, 0, 0, 0, 0⟩
def fzA (f : Fz) : Array Value := #[.int .u32 (f.at_ : Int), .int .u32 (f.len : Int), .int .u8 (f.kind : Int), .int .u8 (f.op : Int), .int .u32 (f.a : Int), .int .u32 (f.b : Int)]
theorem sizeFz : (Try.prog.info? 30).map (·.size) = some 6 := by kernel_rfl
theorem undFz : ∃ fs, Try.prog.underlying 30 = some (.struct fs) := by
  have h : (match Try.prog.underlying 30 with | some (.struct _) => true | _ => false) = true := by kernel_rfl
  split at h
  · exact ⟨_, by assumption⟩
  · cases h
theorem resFz {fn : Func} {p : Tmp} (hf : fn.results = #[.cell p 30]) (W : World) (b : Nat) (cs : Array Value) (hs : cs.size = 6) (hb : W.heap[b]? = some (.cells cs 30)) (tmps : Array Value) (h2 : tmps.getD p undef = .pointer (some ⟨b, 0, none⟩)) :
    (results fn tmps).run Try.prog W = .ok (.agg cs) W := by
  obtain ⟨fs, hu⟩ := undFz
  exact results_cell_row (p := p) (ty := 30) hf tmps W b 30 cs (0, 0) _ h2 hb hu rfl (by rw [sizeFz, hs])
theorem resFzB {fn : Func} {p u : Tmp} (hf : fn.results = #[.cell p 30, .tmp u]) (t2 : Value) (W : World) (b : Nat) (cs : Array Value) (hs : cs.size = 6) (hb : W.heap[b]? = some (.cells cs 30)) (tmps : Array Value) (h2 : tmps.getD p undef = .pointer (some ⟨b, 0, none⟩)) (h3 : tmps.getD u undef = t2) :
    (results fn tmps).run Try.prog W = .ok (.tuple #[.agg cs, t2]) W := by
  obtain ⟨fs, hu⟩ := undFz
  rw [results_cell_tmp hf, h2, h3]
  have := run_loadVar_row (P := Try.prog) W b 30 30 cs (0, 0) _ hb hu rfl (by rw [sizeFz, hs])
  simp only [asAddr, Sem.run_pure, Result.andThen, this]
/-- what a look makes of an instruction and a thing -/
abbrev Lk := Nat × Nat → Fz → Fz × Bool
def lkLocal : Lk := fun p f => ({ f with a := p.2 }, decide (p.1 = 9))
end Go.Proofs.Ytonmoidalkcmoaa
