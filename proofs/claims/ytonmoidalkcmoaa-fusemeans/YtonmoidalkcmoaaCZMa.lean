import Derived.Test.YtonmoidalkcmoaaCZDf
import Derived.Test.YtonmoidalkcmoaaCDRo
import Derived.Test.YtonmoidalkcmoaaCIRef
import Derived.Test.YtonmoidalkcmoaaCDMa
namespace Go.Proofs.Ytonmoidalkcmoaa
open Go.RowKit Go.WideShapes
set_option maxRecDepth 100000
/-- one instruction; two words stand at least -/
def tkV (sp : Nat) (p : Nat × Nat) (m : Pm) : Pm :=
  if p.1 = 1 then ⟨m.ops, m.dat, (m.pc + 1) % 4294967296, m.bad⟩
  else if p.1 = 6 then ⟨m.ops, m.dat, p.2, m.bad⟩
  else if p.1 = 8 then ⟨m.ops ++ [p.2], m.dat, (m.pc + 1) % 4294967296, m.bad⟩
  else if p.1 = 9 then ⟨m.ops ++ [(sp + p.2) % 4294967296], m.dat, (m.pc + 1) % 4294967296, m.bad⟩
  else if p.1 = 10 then ⟨m.ops.dropLast, m.dat, (m.pc + 1) % 4294967296, m.bad⟩
  else if p.1 = 11 then ⟨m.ops.dropLast ++ [m.ops.getLastD 0] ++ [m.ops.getLastD 0], m.dat, (m.pc + 1) % 4294967296, m.bad⟩
  else if p.1 = 12 then ⟨m.ops.dropLast, stV 4 m.dat ((sp + 4 + 4 * p.2) % 4294967296) (m.ops.getLastD 0), (m.pc + 1) % 4294967296, m.bad⟩
  else if 29 ≤ p.1 ∧ p.1 ≤ 31 then ⟨m.ops.dropLast ++ [ldV m.dat (m.ops.getLastD 0) (szM p.1)], m.dat, (m.pc + 1) % 4294967296, m.bad⟩
  else if 32 ≤ p.1 ∧ p.1 ≤ 34 then ⟨m.ops.dropLast.dropLast, stV (szM p.1) m.dat (m.ops.dropLast.getLastD 0) (m.ops.getLastD 0), (m.pc + 1) % 4294967296, m.bad⟩
  else if opKi p.1 = 2 then ⟨m.ops.dropLast.dropLast, m.dat, if hoV p.1 (m.ops.dropLast.getLastD 0) (m.ops.getLastD 0) then p.2 else (m.pc + 1) % 4294967296, m.bad⟩
  else if opKi p.1 = 1 ∧ opTa p.1 = 1 ∧ opGi p.1 = 1 then ⟨m.ops.dropLast ++ [unV p.1 (m.ops.getLastD 0)], m.dat, (m.pc + 1) % 4294967296, m.bad || decide (¬ unE p.1 = 0)⟩
  else if opKi p.1 = 1 ∧ opTa p.1 = 2 ∧ opGi p.1 = 1 then ⟨m.ops.dropLast.dropLast ++ [binV p.1 (m.ops.dropLast.getLastD 0) (m.ops.getLastD 0)], m.dat, (m.pc + 1) % 4294967296, m.bad || decide (¬ binE p.1 (m.ops.getLastD 0) = 0)⟩
  else ⟨m.ops, m.dat, (m.pc + 1) % 4294967296, true⟩
def thB (sp : Nat) (f : Fz) (m : Pm) : Nat := if f.kind = 13 ∨ f.kind = 14 then ldV m.dat ((sp + f.a) % 4294967296) 4 else f.a
/-- a thing at one go -/
def thV (sp : Nat) (f : Fz) (m : Pm) : Pm :=
  if f.kind = 2 then ⟨m.ops ++ [f.a], m.dat, (f.at_ + f.len) % 4294967296, m.bad⟩
  else if f.kind = 3 then ⟨m.ops, m.dat, f.a, m.bad⟩
  else if f.kind = 4 then ⟨m.ops, m.dat, (f.at_ + f.len) % 4294967296, m.bad⟩
  else if f.kind = 7 then ⟨m.ops, stV 4 m.dat ((sp + 4 + 4 * f.b) % 4294967296) f.a, (f.at_ + f.len) % 4294967296, m.bad⟩
  else if f.kind = 11 then ⟨m.ops, stV 4 m.dat ((sp + 4 + 4 * f.b) % 4294967296) ((sp + f.a) % 4294967296), (f.at_ + f.len) % 4294967296, m.bad⟩
  else if f.kind = 9 then ⟨m.ops ++ [ldV m.dat f.a (szM f.op)], m.dat, (f.at_ + f.len) % 4294967296, m.bad⟩
  else if f.kind = 12 then ⟨m.ops ++ [ldV m.dat ((sp + f.a) % 4294967296) (szM f.op)], m.dat, (f.at_ + f.len) % 4294967296, m.bad⟩
  else if f.kind = 10 then ⟨m.ops.dropLast, stV (szM f.op) m.dat (m.ops.getLastD 0) f.a, (f.at_ + f.len) % 4294967296, m.bad⟩
  else if f.kind = 15 then ⟨m.ops, stV 4 m.dat ((sp + f.a) % 4294967296) (binV f.op (ldV m.dat ((sp + f.a) % 4294967296) 4) f.b), (f.at_ + f.len) % 4294967296, m.bad || decide (¬ binE f.op f.b = 0)⟩
  else if f.kind = 6 ∨ f.kind = 14 then ⟨m.ops.dropLast, m.dat, if hoV f.op (m.ops.getLastD 0) (thB sp f m) then f.b else (f.at_ + f.len) % 4294967296, m.bad⟩
  else if f.kind = 5 ∨ f.kind = 13 then ⟨m.ops.dropLast ++ [binV f.op (m.ops.getLastD 0) (thB sp f m)], m.dat, (f.at_ + f.len) % 4294967296, m.bad || decide (¬ binE f.op (thB sp f m) = 0)⟩
  else ⟨m.ops.dropLast, m.dat, (f.at_ + f.len) % 4294967296, true⟩
def rn (sp : Nat) (A : List (Nat × Nat)) (m : Pm) : Pm := A.foldl (fun m p => tkV sp p m) m
theorem rn_nil (sp : Nat) (m : Pm) : rn sp [] m = m := rfl
theorem rn_cons (sp : Nat) (p : Nat × Nat) (A : List (Nat × Nat)) (m : Pm) : rn sp (p :: A) m = rn sp A (tkV sp p m) := rfl
theorem rn_app (sp : Nat) (A B : List (Nat × Nat)) (m : Pm) : rn sp (A ++ B) m = rn sp B (rn sp A m) := List.foldl_append ..
theorem tab_un1 : ∀ op, op < 256 → unE op = 0 → opKi op = 1 ∧ opTa op = 1 ∧ opGi op = 1 ∧ 36 ≤ op := by decide +kernel
theorem tab_bin1 : ∀ op, op < 256 → binE op 1 = 0 → opKi op = 1 ∧ opTa op = 2 ∧ opGi op = 1 ∧ 36 ≤ op := by decide +kernel
theorem gl1 (l : List Nat) (x : Nat) : (l ++ [x]).getLastD 0 = x := by simp [List.getLastD_eq_getLast?]
theorem gl2 {l ws : List Nat} (h : 1 ≤ ws.length) : (l ++ ws).getLastD 0 = ws.getLastD 0 := by
  rw [last_cut ws h, ← List.append_assoc, gl1, gl1]
theorem dl2 {l ws : List Nat} (h : 1 ≤ ws.length) : (l ++ ws).dropLast = l ++ ws.dropLast := by
  rw [List.dropLast_append_of_ne_nil (by rintro rfl; simp at h)]
theorem tk_do {sp op arg pc : Nat} {base ws ws' D : List Nat} (hd : doD ws op arg = some ws') (hop : op < 256) (hk : ¬ opKi op = 2) :
    tkV sp (op, arg) ⟨base ++ ws, D, pc, false⟩ = ⟨base ++ ws', D, (pc + 1) % 4294967296, false⟩ := by
  unfold doD at hd
  by_cases h1 : op = 1
  · rw [if_pos h1] at hd; cases hd; subst h1; rfl
  rw [if_neg h1] at hd
  by_cases h8 : op = 8
  · rw [if_pos h8] at hd
    split at hd <;> cases hd
    subst h8
    show (⟨base ++ ws ++ [arg], D, (pc + 1) % 4294967296, false⟩ : Pm) = _
    rw [List.append_assoc]
  rw [if_neg h8] at hd
  by_cases h10 : op = 10
  · rw [if_pos h10] at hd
    split at hd
    · rename_i hw; cases hd
      subst h10
      show (⟨(base ++ ws).dropLast, D, (pc + 1) % 4294967296, false⟩ : Pm) = _
      rw [dl2 hw]
    · cases hd
  rw [if_neg h10] at hd
  by_cases h11 : op = 11
  · rw [if_pos h11] at hd
    split at hd
    · rename_i hw; cases hd
      subst h11
      show (⟨(base ++ ws).dropLast ++ [(base ++ ws).getLastD 0] ++ [(base ++ ws).getLastD 0], D, (pc + 1) % 4294967296, false⟩ : Pm) = _
      rw [dl2 hw.1, gl2 hw.1, List.append_assoc base, ← last_cut ws hw.1, List.append_assoc]
    · cases hd
  rw [if_neg h11] at hd
  by_cases hu : unE op = 0
  · rw [if_pos hu] at hd
    obtain ⟨t0, t1, t2, t3⟩ := tab_un1 op hop hu
    split at hd
    · rename_i hw; cases hd
      unfold tkV
      simp only
      rw [if_neg h1, if_neg (by omega), if_neg h8, if_neg (by omega), if_neg h10, if_neg h11, if_neg (by omega), if_neg (by omega), if_neg (by omega), if_neg hk, if_pos ⟨t0, t1, t2⟩, dl2 hw, gl2 hw, List.append_assoc]
      simp [hu]
    · cases hd
  rw [if_neg hu] at hd
  by_cases hb : binE op 1 = 0
  · rw [if_pos hb] at hd
    obtain ⟨t0, t1, t2, t3⟩ := tab_bin1 op hop hb
    split at hd
    · rename_i hw; cases hd
      have hw1 : 1 ≤ ws.length := by omega
      have hw2 : 1 ≤ ws.dropLast.length := by rw [List.length_dropLast]; omega
      unfold tkV
      simp only
      rw [if_neg h1, if_neg (by omega), if_neg h8, if_neg (by omega), if_neg h10, if_neg h11, if_neg (by omega), if_neg (by omega), if_neg (by omega), if_neg hk, if_neg (fun e => by omega), if_pos ⟨t0, t1, t2⟩, dl2 hw1, gl2 hw1, dl2 hw2, gl2 hw2, List.append_assoc]
      rw [hw.2]; rfl
    · cases hd
  rw [if_neg hb] at hd
  cases hd
theorem rn_plR {sp : Nat} {base D : List Nat} : ∀ (A : List (Nat × Nat)) (ws ws' : List Nat) (pc : Nat), plR A ws = some ws' → (∀ p ∈ A, p.1 < 256) → pc + A.length < 4294967296 →
    rn sp A ⟨base ++ ws, D, pc, false⟩ = ⟨base ++ ws', D, pc + A.length, false⟩
  | [], ws, ws', pc, h, _, _ => by cases h; rfl
  | p :: r, ws, ws', pc, h, hw, hp => by
    unfold plR at h
    split at h
    · rename_i h1
      cases hd : doD ws p.1 p.2 with
      | none => rw [hd] at h; cases h
      | some wt =>
        rw [hd] at h
        rw [List.length_cons] at hp
        rw [rn_cons, show p = (p.1, p.2) from rfl, tk_do hd (hw p (by simp)) h1.2, Nat.mod_eq_of_lt (by omega), rn_plR r wt ws' (pc + 1) h (fun q hq => hw q (by simp [hq])) (by omega), List.length_cons]
        congr 1
        omega
    · cases h
theorem plR_take : ∀ (A : List (Nat × Nat)) (ws ws' : List Nat) (i : Nat), plR A ws = some ws' → ws.length ≤ 64 → ∃ wi, plR (A.take i) ws = some wi ∧ wi.length ≤ 64
  | [], ws, ws', i, h, hl => ⟨ws, by simp [plR], hl⟩
  | p :: r, ws, ws', 0, h, hl => ⟨ws, rfl, hl⟩
  | p :: r, ws, ws', i + 1, h, hl => by
    unfold plR at h
    split at h
    · rename_i h1
      cases hd : doD ws p.1 p.2 with
      | none => rw [hd] at h; cases h
      | some wt =>
        rw [hd] at h
        obtain ⟨wi, e, l⟩ := plR_take r wt ws' i h (doD_len hl hd)
        exact ⟨wi, by rw [List.take_succ_cons, plR_on h1.1 h1.2 hd]; exact e, l⟩
    · cases h
/-- in the midst of a thing -/
def Mid (base D : List Nat) (a i : Nat) (m : Pm) : Prop := m.bad = false ∧ m.dat = D ∧ m.pc = a + i ∧ ∃ ws, m.ops = base ++ ws ∧ ws.length ≤ 80
theorem mid_plR {sp a : Nat} {base D : List Nat} {A : List (Nat × Nat)} {ws' : List Nat} (h : plR A [] = some ws') (hw : ∀ p ∈ A, p.1 < 256) (hp : a + A.length < 4294967296) (i : Nat) (hi : i ≤ A.length) :
    Mid base D a i (rn sp (A.take i) ⟨base, D, a, false⟩) := by
  obtain ⟨wi, e, l⟩ := plR_take A [] ws' i h (by simp)
  have := rn_plR (sp := sp) (base := base) (D := D) (A.take i) [] wi a e (fun p hq => hw p (List.mem_of_mem_take hq)) (by rw [List.length_take]; omega)
  rw [List.append_nil] at this
  rw [this]
  refine ⟨rfl, rfl, ?_, wi, rfl, by omega⟩
  rw [List.length_take, Nat.min_eq_left hi]
theorem plD_split : ∀ (A : List (Nat × Nat)) (ws : List Nat) (k v : Nat), plD A ws = some (k, v) →
    (k = 2 ∧ plR A ws = some [v]) ∨ (k = 4 ∧ plR A ws = some []) ∨ ∃ B p x y, A = B ++ [p] ∧ plR B ws = some [x, y] ∧ opKi p.1 = 2 ∧ (k = 3 ∧ v = p.2 ∧ hoV p.1 x y = true ∨ k = 4 ∧ hoV p.1 x y = false)
  | [], ws, k, v, h => by
    unfold plD at h
    split at h
    · rename_i h0
      cases h
      exact .inr (.inl ⟨rfl, by rw [List.length_eq_zero_iff] at h0; rw [h0]; rfl⟩)
    · split at h
      · rename_i h1
        cases h
        match ws, h1 with
        | [x], _ => exact .inl ⟨rfl, rfl⟩
      · cases h
  | p :: r, ws, k, v, h => by
    by_cases h1 : erV p.1 p.2 = 0
    · by_cases h2 : opKi p.1 = 2
      · rw [plD_cmp h1 h2] at h
        split at h
        · rename_i h3
          obtain ⟨rfl, h3⟩ := h3
          match ws, h3 with
          | [x, y], _ =>
            refine .inr (.inr ⟨[], p, x, y, rfl, rfl, h2, ?_⟩)
            split at h
            · rename_i hh; cases h; exact .inl ⟨rfl, rfl, hh⟩
            · rename_i hh; cases h; exact .inr ⟨rfl, by simpa using hh⟩
        · cases h
      · cases hd : doD ws p.1 p.2 with
        | none => rw [plD_no h2 hd] at h; cases h
        | some ws' =>
          rw [plD_on h1 h2 hd] at h
          rcases plD_split r ws' k v h with ⟨a, b⟩ | ⟨a, b⟩ | ⟨B, q, x, y, a, b, c⟩
          · exact .inl ⟨a, by rw [plR_on h1 h2 hd]; exact b⟩
          · exact .inr (.inl ⟨a, by rw [plR_on h1 h2 hd]; exact b⟩)
          · exact .inr (.inr ⟨p :: B, q, x, y, by rw [a]; rfl, by rw [plR_on h1 h2 hd]; exact b, c⟩)
    · rw [plD_er h1] at h; cases h
theorem tab_cmp1 : ∀ op, op < 256 → opKi op = 2 → 13 ≤ op ∧ op ≤ 28 := by decide +kernel
theorem dl_two (b : List Nat) (x y : Nat) : (b ++ [x, y]).dropLast = b ++ [x] := by
  rw [show b ++ [x, y] = (b ++ [x]) ++ [y] by simp, List.dropLast_concat]
theorem tk_cmp {sp op arg pc : Nat} {b D : List Nat} {x y : Nat} {q : Bool} (hop : op < 256) (h : opKi op = 2) :
    tkV sp (op, arg) ⟨b ++ [x, y], D, pc, q⟩ = ⟨b, D, if hoV op x y then arg else (pc + 1) % 4294967296, q⟩ := by
  have ht := tab_cmp1 op hop h
  unfold tkV
  simp only
  rw [if_neg (by omega), if_neg (by omega), if_neg (by omega), if_neg (by omega), if_neg (by omega), if_neg (by omega), if_neg (by omega), if_neg (by omega), if_neg (by omega), if_pos h, dl_two, List.dropLast_concat, gl1, show b ++ [x, y] = (b ++ [x]) ++ [y] by simp, gl1]
theorem tk_bin {sp op arg pc : Nat} {b D : List Nat} {x y : Nat} {q : Bool} (h1 : 39 ≤ op) (hk : opKi op = 1 ∧ opTa op = 2 ∧ opGi op = 1) :
    tkV sp (op, arg) ⟨b ++ [x, y], D, pc, q⟩ = ⟨b ++ [binV op x y], D, (pc + 1) % 4294967296, q || decide (¬ binE op y = 0)⟩ := by
  unfold tkV
  simp only
  rw [if_neg (by omega), if_neg (by omega), if_neg (by omega), if_neg (by omega), if_neg (by omega), if_neg (by omega), if_neg (by omega), if_neg (by omega), if_neg (by omega), if_neg (by omega), if_neg (by omega), if_pos hk, dl_two, List.dropLast_concat, gl1, show b ++ [x, y] = (b ++ [x]) ++ [y] by simp, gl1]
theorem tk_st {sp op arg pc : Nat} {b D : List Nat} {x y : Nat} {q : Bool} (h1 : 32 ≤ op) (h2 : op ≤ 34) :
    tkV sp (op, arg) ⟨b ++ [x, y], D, pc, q⟩ = ⟨b, stV (szM op) D x y, (pc + 1) % 4294967296, q⟩ := by
  unfold tkV
  simp only
  rw [if_neg (by omega), if_neg (by omega), if_neg (by omega), if_neg (by omega), if_neg (by omega), if_neg (by omega), if_neg (by omega), if_neg (by omega), if_pos ⟨h1, h2⟩, dl_two, List.dropLast_concat, gl1, show b ++ [x, y] = (b ++ [x]) ++ [y] by simp, gl1]
theorem tk_ld {sp op arg pc : Nat} {b D : List Nat} {x : Nat} {q : Bool} (h1 : 29 ≤ op) (h2 : op ≤ 31) :
    tkV sp (op, arg) ⟨b ++ [x], D, pc, q⟩ = ⟨b ++ [ldV D x (szM op)], D, (pc + 1) % 4294967296, q⟩ := by
  unfold tkV
  simp only
  rw [if_neg (by omega), if_neg (by omega), if_neg (by omega), if_neg (by omega), if_neg (by omega), if_neg (by omega), if_neg (by omega), if_pos ⟨h1, h2⟩, List.dropLast_concat, gl1]
theorem tk_arg {sp arg pc : Nat} {b D : List Nat} {x : Nat} {q : Bool} :
    tkV sp (12, arg) ⟨b ++ [x], D, pc, q⟩ = ⟨b, stV 4 D ((sp + 4 + 4 * arg) % 4294967296) x, (pc + 1) % 4294967296, q⟩ := by
  show (⟨(b ++ [x]).dropLast, stV 4 D ((sp + 4 + 4 * arg) % 4294967296) ((b ++ [x]).getLastD 0), (pc + 1) % 4294967296, q⟩ : Pm) = _
  rw [List.dropLast_concat, gl1]
theorem tk_loc {sp arg pc : Nat} {b D : List Nat} {q : Bool} :
    tkV sp (9, arg) ⟨b, D, pc, q⟩ = ⟨b ++ [(sp + arg) % 4294967296], D, (pc + 1) % 4294967296, q⟩ := rfl
theorem tkV_ld {sp op arg : Nat} {m : Pm} (h1 : ¬ op = 1) (h6 : ¬ op = 6) (h8 : ¬ op = 8) (h9 : ¬ op = 9) (h10 : ¬ op = 10) (h11 : ¬ op = 11) (h12 : ¬ op = 12) (hL : 29 ≤ op ∧ op ≤ 31) :
    tkV sp (op, arg) m = ⟨m.ops.dropLast ++ [ldV m.dat (m.ops.getLastD 0) (szM op)], m.dat, (m.pc + 1) % 4294967296, m.bad⟩ := by
  unfold tkV; simp only
  rw [if_neg h1, if_neg h6, if_neg h8, if_neg h9, if_neg h10, if_neg h11, if_neg h12, if_pos hL]
theorem tkV_st {sp op arg : Nat} {m : Pm} (h1 : ¬ op = 1) (h6 : ¬ op = 6) (h8 : ¬ op = 8) (h9 : ¬ op = 9) (h10 : ¬ op = 10) (h11 : ¬ op = 11) (h12 : ¬ op = 12) (hL : ¬ (29 ≤ op ∧ op ≤ 31)) (hS : 32 ≤ op ∧ op ≤ 34) :
    tkV sp (op, arg) m = ⟨m.ops.dropLast.dropLast, stV (szM op) m.dat (m.ops.dropLast.getLastD 0) (m.ops.getLastD 0), (m.pc + 1) % 4294967296, m.bad⟩ := by
  unfold tkV; simp only
  rw [if_neg h1, if_neg h6, if_neg h8, if_neg h9, if_neg h10, if_neg h11, if_neg h12, if_neg hL, if_pos hS]
theorem tkV_br {sp op arg : Nat} {m : Pm} (h1 : ¬ op = 1) (h6 : ¬ op = 6) (h8 : ¬ op = 8) (h9 : ¬ op = 9) (h10 : ¬ op = 10) (h11 : ¬ op = 11) (h12 : ¬ op = 12) (hL : ¬ (29 ≤ op ∧ op ≤ 31)) (hS : ¬ (32 ≤ op ∧ op ≤ 34)) (hk : opKi op = 2) :
    tkV sp (op, arg) m = ⟨m.ops.dropLast.dropLast, m.dat, if hoV op (m.ops.dropLast.getLastD 0) (m.ops.getLastD 0) then arg else (m.pc + 1) % 4294967296, m.bad⟩ := by
  unfold tkV; simp only
  rw [if_neg h1, if_neg h6, if_neg h8, if_neg h9, if_neg h10, if_neg h11, if_neg h12, if_neg hL, if_neg hS, if_pos hk]
theorem tkV_un {sp op arg : Nat} {m : Pm} (h1 : ¬ op = 1) (h6 : ¬ op = 6) (h8 : ¬ op = 8) (h9 : ¬ op = 9) (h10 : ¬ op = 10) (h11 : ¬ op = 11) (h12 : ¬ op = 12) (hL : ¬ (29 ≤ op ∧ op ≤ 31)) (hS : ¬ (32 ≤ op ∧ op ≤ 34)) (hk : ¬ opKi op = 2) (hu : opKi op = 1 ∧ opTa op = 1 ∧ opGi op = 1) :
    tkV sp (op, arg) m = ⟨m.ops.dropLast ++ [unV op (m.ops.getLastD 0)], m.dat, (m.pc + 1) % 4294967296, m.bad || decide (¬ unE op = 0)⟩ := by
  unfold tkV; simp only
  rw [if_neg h1, if_neg h6, if_neg h8, if_neg h9, if_neg h10, if_neg h11, if_neg h12, if_neg hL, if_neg hS, if_neg hk, if_pos hu]
theorem tkV_bi {sp op arg : Nat} {m : Pm} (h1 : ¬ op = 1) (h6 : ¬ op = 6) (h8 : ¬ op = 8) (h9 : ¬ op = 9) (h10 : ¬ op = 10) (h11 : ¬ op = 11) (h12 : ¬ op = 12) (hL : ¬ (29 ≤ op ∧ op ≤ 31)) (hS : ¬ (32 ≤ op ∧ op ≤ 34)) (hk : ¬ opKi op = 2) (hu : ¬ (opKi op = 1 ∧ opTa op = 1 ∧ opGi op = 1)) (hb : opKi op = 1 ∧ opTa op = 2 ∧ opGi op = 1) :
    tkV sp (op, arg) m = ⟨m.ops.dropLast.dropLast ++ [binV op (m.ops.dropLast.getLastD 0) (m.ops.getLastD 0)], m.dat, (m.pc + 1) % 4294967296, m.bad || decide (¬ binE op (m.ops.getLastD 0) = 0)⟩ := by
  unfold tkV; simp only
  rw [if_neg h1, if_neg h6, if_neg h8, if_neg h9, if_neg h10, if_neg h11, if_neg h12, if_neg hL, if_neg hS, if_neg hk, if_neg hu, if_pos hb]
theorem tkV_no {sp op arg : Nat} {m : Pm} (h1 : ¬ op = 1) (h6 : ¬ op = 6) (h8 : ¬ op = 8) (h9 : ¬ op = 9) (h10 : ¬ op = 10) (h11 : ¬ op = 11) (h12 : ¬ op = 12) (hL : ¬ (29 ≤ op ∧ op ≤ 31)) (hS : ¬ (32 ≤ op ∧ op ≤ 34)) (hk : ¬ opKi op = 2) (hu : ¬ (opKi op = 1 ∧ opTa op = 1 ∧ opGi op = 1)) (hb : ¬ (opKi op = 1 ∧ opTa op = 2 ∧ opGi op = 1)) :
    tkV sp (op, arg) m = ⟨m.ops, m.dat, (m.pc + 1) % 4294967296, true⟩ := by
  unfold tkV; simp only
  rw [if_neg h1, if_neg h6, if_neg h8, if_neg h9, if_neg h10, if_neg h11, if_neg h12, if_neg hL, if_neg hS, if_neg hk, if_neg hu, if_neg hb]
theorem tkV_1 (sp arg : Nat) (m : Pm) : tkV sp (1, arg) m = ⟨m.ops, m.dat, (m.pc + 1) % 4294967296, m.bad⟩ := by
  unfold tkV; simp only
  rw [if_pos trivial]
theorem tkV_6 (sp arg : Nat) (m : Pm) : tkV sp (6, arg) m = ⟨m.ops, m.dat, arg, m.bad⟩ := by
  unfold tkV; simp only
  rw [if_neg (by decide), if_pos trivial]
theorem tkV_8 (sp arg : Nat) (m : Pm) : tkV sp (8, arg) m = ⟨m.ops ++ [arg], m.dat, (m.pc + 1) % 4294967296, m.bad⟩ := by
  unfold tkV; simp only
  rw [if_neg (by decide), if_neg (by decide), if_pos trivial]
theorem tkV_9 (sp arg : Nat) (m : Pm) : tkV sp (9, arg) m = ⟨m.ops ++ [(sp + arg) % 4294967296], m.dat, (m.pc + 1) % 4294967296, m.bad⟩ := by
  unfold tkV; simp only
  rw [if_neg (by decide), if_neg (by decide), if_neg (by decide), if_pos trivial]
theorem tkV_10 (sp arg : Nat) (m : Pm) : tkV sp (10, arg) m = ⟨m.ops.dropLast, m.dat, (m.pc + 1) % 4294967296, m.bad⟩ := by
  unfold tkV; simp only
  rw [if_neg (by decide), if_neg (by decide), if_neg (by decide), if_neg (by decide), if_pos trivial]
theorem tkV_11 (sp arg : Nat) (m : Pm) : tkV sp (11, arg) m = ⟨m.ops.dropLast ++ [m.ops.getLastD 0] ++ [m.ops.getLastD 0], m.dat, (m.pc + 1) % 4294967296, m.bad⟩ := by
  unfold tkV; simp only
  rw [if_neg (by decide), if_neg (by decide), if_neg (by decide), if_neg (by decide), if_neg (by decide), if_pos trivial]
theorem tkV_12 (sp arg : Nat) (m : Pm) : tkV sp (12, arg) m = ⟨m.ops.dropLast, stV 4 m.dat ((sp + 4 + 4 * arg) % 4294967296) (m.ops.getLastD 0), (m.pc + 1) % 4294967296, m.bad⟩ := by
  unfold tkV; simp only
  rw [if_neg (by decide), if_neg (by decide), if_neg (by decide), if_neg (by decide), if_neg (by decide), if_neg (by decide), if_pos trivial]
theorem tab_u36 : ∀ op, op < 256 → (opKi op = 1 ∧ opTa op = 1 ∧ opGi op = 1) → (¬ op = 10 ∧ ¬ op = 12 ∧ ¬ (29 ≤ op ∧ op ≤ 31)) → 36 ≤ op := by decide +kernel
theorem tab_b36 : ∀ op, op < 256 → (opKi op = 1 ∧ opTa op = 2 ∧ opGi op = 1) → ¬ (32 ≤ op ∧ op ≤ 34) → 36 ≤ op := by decide +kernel
/-- the instructions that a thing is made of -/
def tkOk (op : Nat) : Prop := op = 1 ∨ op = 6 ∨ op = 8 ∨ op = 9 ∨ op = 10 ∨ op = 11 ∨ op = 12 ∨ (29 ≤ op ∧ op ≤ 31) ∨ (32 ≤ op ∧ op ≤ 34) ∨ opKi op = 2 ∨ (opKi op = 1 ∧ opTa op = 1 ∧ opGi op = 1) ∨ (opKi op = 1 ∧ opTa op = 2 ∧ opGi op = 1)
set_option maxHeartbeats 8000000 in
theorem xtake {W : World} {M : Col → Pc} {x pm sp : Nat} {m : Pm} (h : Hid (PlO W M x pm sp m)) (hx : x ≠ 9) (hM : ∀ k, M (9, k) = noP) (hB : Bd m) (op arg : Nat) (hop : op < 256) (hok : tkOk op) (h2 : 2 ≤ m.ops.length) (hl : m.ops.length ≤ 35184372088800) :
    Calls Try.prog 9 #[.pointer (some ⟨pm, 0, none⟩), .agg #[.int .u8 (op : Int), .int .u32 (arg : Int)]] W fun e w' => e = .returned (.tuple #[]) ∧ ∃ M', Hid (PlO w' M' x pm sp (tkV sp (op, arg) m)) ∧ Kx x M M' := by
  obtain ⟨T, hT⟩ : ∃ T, tkV sp (op, arg) m = T := ⟨_, rfl⟩
  rw [hT]
  have HT := dhid hT
  clear hT
  have X1 := XS.new0 (p := objP W.heap.size #[.int .u8 (op : Int), .int .u32 (arg : Int)] 36) (XS.begin h hM) hx ((Below.refl _ _).alloc (Nat.le_refl _) (.cells #[.int .u8 (op : Int), .int .u32 (arg : Int)] 36)) ⟨heap_alloc_new _ _, Nat.le_refl _⟩
  have c1 : (W.alloc (.cells #[.int .u8 (op : Int), .int .u32 (arg : Int)] 36)).cell? ⟨pm, 258, none⟩ = some (.int .u32 (m.pc : Int)) := by obtain ⟨_, q⟩ := X1.pl; exact PlO.cpc q
  have f1 : (W.alloc (.cells #[.int .u8 (op : Int), .int .u32 (arg : Int)] 36)).frozen? ⟨pm, 258, none⟩ = false := by obtain ⟨_, q⟩ := X1.pl; exact PlO.frz q 258
  have X2 := X1.setpc hx ((m.pc + 1) % 4294967296)
  have X2h := dhid X2
  have d0 := obj_cell X2.c0 0
  clear X1 X2
  go_enter Try.func9, Try.ntmps9
  go_wp2_with fail
  refine (info_any op _ hop).mono ?_
  rintro e w2 ⟨rfl, b2⟩
  generalize hkI : ((opKi op : Nat) : Int) = kI
  generalize htI : ((opTa op : Nat) : Int) = tI
  generalize hgI : ((opGi op : Nat) : Int) = gI
  have KI := dhid hkI
  have TI := dhid htI
  have GI := dhid hgI
  clear hkI htI hgI
  have X3 := XS.new1 (p := objP w2.heap.size #[.string (opWd op), .int .i64 (opWi op), .int .u32 (opMo op), .int .i64 tI, .int .i64 gI, .int .u8 kI] 55) (X2h.out.below b2) hx ((Below.refl _ _).alloc (Nat.le_refl _) (.cells #[.string (opWd op), .int .i64 (opWi op), .int .u32 (opMo op), .int .i64 tI, .int .i64 gI, .int .u8 kI] 55)) ⟨heap_alloc_new _ _, Nat.le_refl _⟩
  have c0 := obj_cell X3.c0
  have cr := obj_cell X3.c1
  have X4 := dhid X3
  have a0 := c0 0
  have a1 := c0 1
  have r3 := cr 3
  have r4 := cr 4
  have r5 := cr 5
  have HF := dhid (fun w' m' (h : XS w' M x pm sp m' (objP W.heap.size #[.int .u8 (op : Int), .int .u32 (arg : Int)] 36) (objP w2.heap.size #[.string (opWd op), .int .i64 (opWi op), .int .u32 (opMo op), .int .i64 tI, .int .i64 gI, .int .u8 kI] 55)) => XS.fin h hx hM)
  obtain ⟨mo, md, mp, mb⟩ := m
  simp only at *
  have c258 : (w2.alloc (.cells #[.string (opWd op), .int .i64 (opWi op), .int .u32 (opMo op), .int .i64 tI, .int .i64 gI, .int .u8 kI] 55)).cell? ⟨pm, 258, none⟩ = some (.int .u32 ((((mp + 1) % 4294967296 : Nat)) : Int)) := by obtain ⟨_, q⟩ := X4.out.pl; exact PlO.cpc q
  have f258 : (w2.alloc (.cells #[.string (opWd op), .int .i64 (opWi op), .int .u32 (opMo op), .int .i64 tI, .int .i64 gI, .int .u8 kI] 55)).frozen? ⟨pm, 258, none⟩ = false := by obtain ⟨_, q⟩ := X4.out.pl; exact PlO.frz q 258
  have csp : (w2.alloc (.cells #[.string (opWd op), .int .i64 (opWi op), .int .u32 (opMo op), .int .i64 tI, .int .i64 gI, .int .u8 kI] 55)).cell? ⟨pm, 0, none⟩ = some (.int .u32 (sp : Int)) := by obtain ⟨_, q⟩ := X4.out.pl; exact PlO.csp q
  have c259 : (w2.alloc (.cells #[.string (opWd op), .int .i64 (opWi op), .int .u32 (opMo op), .int .i64 tI, .int .i64 gI, .int .u8 kI] 55)).cell? ⟨pm, 259, none⟩ = some (.bool mb) := by obtain ⟨_, q⟩ := X4.out.pl; exact PlO.cbd q
  have f259 : (w2.alloc (.cells #[.string (opWd op), .int .i64 (opWi op), .int .u32 (opMo op), .int .i64 tI, .int .i64 gI, .int .u8 kI] 55)).frozen? ⟨pm, 259, none⟩ = false := by obtain ⟨_, q⟩ := X4.out.pl; exact PlO.frz q 259
  clear X3 c0 cr X2h b2 c1 f1 d0 h
  have l1 : mo.dropLast.length ≤ 35184372088800 := by rw [List.length_dropLast]; omega
  have l3 : 0 < mo.dropLast.length := by rw [List.length_dropLast]; omega
  have l4 : mo.dropLast.dropLast.length ≤ 35184372088800 := by rw [List.length_dropLast]; omega
  have l0 : 0 < mo.length := by omega
  obtain ⟨b, hb⟩ : ∃ b, mo.getLastD 0 = b := ⟨_, rfl⟩
  obtain ⟨c, hc⟩ : ∃ c, mo.dropLast.getLastD 0 = c := ⟨_, rfl⟩
  have bl : b < 4294967296 := by rw [← hb]; exact hB.last
  have cl : c < 4294967296 := by rw [← hc]; exact (hB.cut 0 (by decide) false).last
  have l2 : (mo.dropLast ++ [b]).length ≤ 35184372088800 := by rw [List.length_append, List.length_dropLast, List.length_singleton]; omega
  have HB0 := dhid hb
  have HC0 := dhid hc
  clear hb hc
  by_cases h1 : op = 1
  · subst h1
    go_wp2_with fail
    go_end0
    exact ⟨rfl, HF.out _ _ (by rw [← HT.out, tkV_1]; exact X4.out)⟩
  have i1 : ¬ (op : Int) = 1 := by omega
  by_cases h6 : op = 6
  · subst h6
    go_wp2_with fail
    go_end0
    exact ⟨rfl, HF.out _ _ (by rw [← HT.out, tkV_6]; exact X4.out.setpc hx arg)⟩
  have i6 : ¬ (op : Int) = 6 := by omega
  by_cases h8 : op = 8
  · subst h8
    go_wp2_with fail
    refine (X4.out.push hx arg hl).mono ?_
    rintro e w3 ⟨rfl, X5⟩
    go_wp2_with fail
    go_end0
    exact ⟨rfl, HF.out _ _ (by rw [← HT.out, tkV_8]; exact X5.out)⟩
  have i8 : ¬ (op : Int) = 8 := by omega
  by_cases h9 : op = 9
  · subst h9
    go_wp2_with fail
    generalize (w2.alloc (.cells #[.string (opWd 9), .int .i64 (opWi 9), .int .u32 (opMo 9), .int .i64 tI, .int .i64 gI, .int .u8 kI] 55)) = W3 at *
    have HBb : Below W3.heap.size W3 W3 := Below.refl _ _
    have gW := X4.out.gw
    obtain ⟨r, hr⟩ : ∃ r, (sp + arg) % 4294967296 = r := ⟨_, rfl⟩
    have hq : IntKind.u32.wrap ((sp : Int) + (arg : Int)) = ((sp + arg) % 4294967296 : Nat) := by rw [IntKind.wrap_u32]; omega
    have hq2 : ((sp : Int) + (arg : Int)) % 4294967296 = ((sp + arg) % 4294967296 : Nat) := by omega
    rw [hr] at hq hq2
    have HP := dhid (fun W' (hb : Below W3.heap.size W3 W') => (X4.out.below hb).push hx r hl)
    have HR := dhid hr
    clear hr
    go_region_held3 (fun w' => w'.cell? ⟨pm, 0, none⟩ = some (.int .u32 (sp : Int)) ∧ w'.cell? ⟨W.heap.size, 0, none⟩ = some (.int .u8 (9 : Int)) ∧ w'.cell? ⟨W.heap.size, 1, none⟩ = some (.int .u32 (arg : Int))) ((refine gW _ ?_; (repeat (first | exact HBb | exact Below.refl _ _ | with_reducible refine Below.drew ?_)))) (first
      | (go_at_call 16; with_reducible refine (HP.out _ (show Below W3.heap.size W3 _ from (by (repeat (first | exact HBb | exact Below.refl _ _ | with_reducible refine Below.drew ?_))))).mono ?_; rintro e w4 ⟨rfl, X5⟩; replace gW := X5.out.gw; replace HBb : Below w4.heap.size w4 w4 := Below.refl _ _))
    go_end0
    exact ⟨rfl, HF.out _ _ (by rw [← HT.out, tkV_9]; simp only; rw [HR.out]; exact X5.out)⟩
  have i9 : ¬ (op : Int) = 9 := by omega
  by_cases h10 : op = 10
  · subst h10
    go_wp2_with fail
    refine (X4.out.pop hx l0 hl).mono ?_
    rintro e w3 ⟨rfl, X5⟩
    go_wp2_with fail
    go_end0
    exact ⟨rfl, HF.out _ _ (by rw [← HT.out, tkV_10]; exact X5.out)⟩
  have i10 : ¬ (op : Int) = 10 := by omega
  by_cases h11 : op = 11
  · subst h11
    go_wp2_with fail
    refine (X4.out.pop hx l0 hl).mono ?_
    rintro e w3 ⟨rfl, X5⟩
    rw [HB0.out]
    clear c258 f258 csp c259 f259 a0 a1 r3 r4 r5
    go_wp2_with fail
    refine (X5.out.push hx b l1).mono ?_
    rintro e w4 ⟨rfl, X6⟩
    go_wp2_with fail
    refine (X6.out.push hx b l2).mono ?_
    rintro e w5 ⟨rfl, X7⟩
    go_wp2_with fail
    go_end0
    exact ⟨rfl, HF.out _ _ (by rw [← HT.out, tkV_11]; simp only [HB0.out]; exact X7.out)⟩
  have i11 : ¬ (op : Int) = 11 := by omega
  by_cases h12 : op = 12
  · subst h12
    go_wp2_with fail
    refine (X4.out.pop hx l0 hl).mono ?_
    rintro e W4 ⟨rfl, X5⟩
    rw [HB0.out]
    clear c258 f258 csp c259 f259 a0 a1 r3 r4 r5
    go_wp2_with fail
    have HBb : Below W4.heap.size W4 W4 := Below.refl _ _
    have gW := X5.out.gw
    obtain ⟨r, hr⟩ : ∃ r, (sp + 4 + 4 * arg) % 4294967296 = r := ⟨_, rfl⟩
    have hq : IntKind.u32.wrap (IntKind.u32.wrap ((sp : Int) + 4) + IntKind.u32.wrap (4 * (arg : Int))) = ((sp + 4 + 4 * arg) % 4294967296 : Nat) := by simp only [IntKind.wrap_u32]; omega
    have hq2 : ((sp : Int) + 4 + 4 * (arg : Int)) % 4294967296 = ((sp + 4 + 4 * arg) % 4294967296 : Nat) := by omega
    rw [hr] at hq hq2
    have HP := dhid (fun W' (hb : Below W4.heap.size W4 W') => show Calls Try.prog 17 #[.pointer (some ⟨pm, 0, none⟩), .int .u32 (r : Int), .int .u32 (b : Int), .int .i64 4] W' _ from (X5.out.below hb).store hx r b 4 bl (by decide))
    have HR := dhid hr
    clear hr
    go_region_held3 (fun w' => w'.cell? ⟨pm, 0, none⟩ = some (.int .u32 (sp : Int)) ∧ w'.cell? ⟨W.heap.size, 0, none⟩ = some (.int .u8 (12 : Int)) ∧ w'.cell? ⟨W.heap.size, 1, none⟩ = some (.int .u32 (arg : Int))) ((refine gW _ ?_; (repeat (first | exact HBb | exact Below.refl _ _ | with_reducible refine Below.drew ?_)))) (first
      | (go_at_call 17; with_reducible refine (HP.out _ (show Below W4.heap.size W4 _ from (by (repeat (first | exact HBb | exact Below.refl _ _ | with_reducible refine Below.drew ?_))))).mono ?_; rintro e w4 ⟨rfl, X6⟩; replace gW := X6.out.gw; replace HBb : Below w4.heap.size w4 w4 := Below.refl _ _))
    go_end0
    exact ⟨rfl, HF.out _ _ (by rw [← HT.out, tkV_12]; simp only [HB0.out]; rw [HR.out]; exact X6.out)⟩
  have i12 : ¬ (op : Int) = 12 := by omega
  by_cases hL : 29 ≤ op ∧ op ≤ 31
  · have g1 : (29 : Int) ≤ (op : Int) := by omega
    have g2 : (op : Int) ≤ 31 := by omega
    go_wp2_with fail
    refine (X4.out.pop hx l0 hl).mono ?_
    rintro e W4 ⟨rfl, X5⟩
    rw [HB0.out]
    clear c258 f258 csp c259 f259 a0 a1 r3 r4 r5
    obtain ⟨b0, b1⟩ := X5.out.gw1
    go_wp2_with fail
    refine (size_any op W4 hop).mono ?_
    rintro e _ ⟨rfl, rfl⟩
    go_wp2_with fail
    refine (X5.out.load b (szM op) hB.dat (szM_le op)).mono ?_
    rintro e W5 ⟨rfl, X6⟩
    go_wp2_with fail
    refine (X6.out.push hx (ldV md b (szM op)) l1).mono ?_
    rintro e W6 ⟨rfl, X7⟩
    go_wp2_with fail
    go_end0
    exact ⟨rfl, HF.out _ _ (by rw [← HT.out, tkV_ld h1 h6 h8 h9 h10 h11 h12 hL]; simp only [HB0.out]; exact X7.out)⟩
  have iL : ¬ ((29 : Int) ≤ (op : Int) ∧ (op : Int) ≤ 31) := by omega
  by_cases hS : 32 ≤ op ∧ op ≤ 34
  · have g0 : ¬ (op : Int) ≤ 31 := by omega
    have g00 : (29 : Int) ≤ (op : Int) := by omega
    have g1 : (32 : Int) ≤ (op : Int) := by omega
    have g2 : (op : Int) ≤ 34 := by omega
    go_wp2_with fail
    refine (X4.out.pop hx l0 hl).mono ?_
    rintro e W4 ⟨rfl, X5⟩
    rw [HB0.out]
    clear c258 f258 csp c259 f259 a0 a1 r3 r4 r5
    go_wp2_with fail
    refine (X5.out.pop hx l3 l1).mono ?_
    rintro e W5 ⟨rfl, X6⟩
    rw [HC0.out]
    obtain ⟨b0, b1⟩ := X6.out.gw1
    go_wp2_with fail
    refine (size_any op W5 hop).mono ?_
    rintro e _ ⟨rfl, rfl⟩
    go_wp2_with fail
    refine (X6.out.store hx c b (szM op) bl (szM_le op)).mono ?_
    rintro e W6 ⟨rfl, X7⟩
    go_wp2_with fail
    go_end0
    exact ⟨rfl, HF.out _ _ (by rw [← HT.out, tkV_st h1 h6 h8 h9 h10 h11 h12 hL hS]; simp only [HB0.out, HC0.out]; exact X7.out)⟩
  by_cases hK : opKi op = 2
  · have tk := tab_cmp1 op hop hK
    have g0 : ¬ (29 : Int) ≤ (op : Int) := by omega
    have g00 : ¬ (32 : Int) ≤ (op : Int) := by omega
    have HE := dhid (tkV_br (sp := sp) (arg := arg) (m := ⟨mo, md, mp, mb⟩) h1 h6 h8 h9 h10 h11 h12 hL hS hK)
    have e5 : kI = 2 := by rw [← KI.out, hK]; rfl
    subst e5
    clear hK
    go_wp2_with fail
    refine (X4.out.pop hx l0 hl).mono ?_
    rintro e W4 ⟨rfl, X5⟩
    rw [HB0.out]
    clear c258 f258 csp c259 f259 a0 a1 r3 r4 r5
    go_wp2_with fail
    refine (X5.out.pop hx l3 l1).mono ?_
    rintro e W5 ⟨rfl, X6⟩
    rw [HC0.out]
    obtain ⟨b0, b1⟩ := X6.out.gw1
    obtain ⟨q0, q1, q2, q3⟩ := X6.out.mcells
    go_wp2_with fail
    refine (ho_any op c b W5 cl bl).mono ?_
    rintro e wq ⟨rfl, hq⟩
    subst wq
    obtain ⟨hh, hhe⟩ : ∃ hh, hoV op c b = hh := ⟨_, rfl⟩
    rw [hhe]
    have HH := dhid hhe
    clear hhe
    cases hh
    · go_wp2_with fail
      go_end0
      exact ⟨rfl, HF.out _ _ (by rw [← HT.out, HE.out]; simp only [HB0.out, HC0.out, HH.out]; exact X6.out)⟩
    · go_wp2_with fail
      go_end0
      exact ⟨rfl, HF.out _ _ (by rw [← HT.out, HE.out]; simp only [HB0.out, HC0.out, HH.out]; exact X6.out.setpc hx arg)⟩
  have iK : ¬ kI = 2 := by rw [← KI.out]; omega
  by_cases hU : opKi op = 1 ∧ opTa op = 1 ∧ opGi op = 1
  · have tk : 36 ≤ op := tab_u36 op hop hU ⟨h10, h12, hL⟩
    have g0 : (29 : Int) ≤ (op : Int) := by omega
    have g01 : ¬ (op : Int) ≤ 31 := by omega
    have g00 : (32 : Int) ≤ (op : Int) := by omega
    have g02 : ¬ (op : Int) ≤ 34 := by omega
    have HE := dhid (tkV_un (sp := sp) (arg := arg) (m := ⟨mo, md, mp, mb⟩) h1 h6 h8 h9 h10 h11 h12 hL hS hK hU)
    have e5 : kI = 1 := by rw [← KI.out, hU.1]; rfl
    have e6 : tI = 1 := by rw [← TI.out, hU.2.1]; rfl
    have e7 : gI = 1 := by rw [← GI.out, hU.2.2]; rfl
    subst e5 e6 e7
    clear hK hU
    go_wp2_with fail
    refine (X4.out.pop hx l0 hl).mono ?_
    rintro e W4 ⟨rfl, X5⟩
    rw [HB0.out]
    clear c258 f258 csp c259 f259 a0 a1 r3 r4 r5
    obtain ⟨b0, b1⟩ := X5.out.gw1
    obtain ⟨q0, q1, q2, q3⟩ := X5.out.mcells
    go_wp2_with fail
    refine (un_any op b W4 bl).mono ?_
    rintro e wq ⟨rfl, hq⟩
    subst wq
    obtain ⟨u, hu⟩ : ∃ u, unE op = u := ⟨_, rfl⟩
    obtain ⟨v, hv⟩ : ∃ v, unV op b = v := ⟨_, rfl⟩
    rw [hu, hv]
    have HU := dhid hu
    have HV := dhid hv
    clear hu hv
    clear hB
    by_cases hu0 : u = 0
    · subst hu0
      cases mb
      · go_wp2_with fail
        refine ((X5.out.setbd hx false).push hx v l1).mono ?_
        rintro e w6 ⟨rfl, X7⟩
        go_wp2_with fail
        go_end0
        exact ⟨rfl, HF.out _ _ (by rw [← HT.out, HE.out]; simp only [HB0.out, HU.out, HV.out]; first | exact X7.out | (simp only [hu0, not_false_eq_true, decide_true, Bool.or_true]; exact X7.out))⟩
      · go_wp2_with fail
        refine ((X5.out.setbd hx true).push hx v l1).mono ?_
        rintro e w6 ⟨rfl, X7⟩
        go_wp2_with fail
        go_end0
        exact ⟨rfl, HF.out _ _ (by rw [← HT.out, HE.out]; simp only [HB0.out, HU.out, HV.out]; first | exact X7.out | (simp only [hu0, not_false_eq_true, decide_true, Bool.or_true]; exact X7.out))⟩
    ·
      have hbn : (u != 0) = true := bne_iff_ne.2 hu0
      cases mb
      · go_wp2_with fail
        refine ((X5.out.setbd hx true).push hx v l1).mono ?_
        rintro e w6 ⟨rfl, X7⟩
        go_wp2_with fail
        go_end0
        exact ⟨rfl, HF.out _ _ (by rw [← HT.out, HE.out]; simp only [HB0.out, HU.out, HV.out]; first | exact X7.out | (simp only [hu0, not_false_eq_true, decide_true, Bool.or_true]; exact X7.out))⟩
      · go_wp2_with fail
        refine ((X5.out.setbd hx true).push hx v l1).mono ?_
        rintro e w6 ⟨rfl, X7⟩
        go_wp2_with fail
        go_end0
        exact ⟨rfl, HF.out _ _ (by rw [← HT.out, HE.out]; simp only [HB0.out, HU.out, HV.out]; first | exact X7.out | (simp only [hu0, not_false_eq_true, decide_true, Bool.or_true]; exact X7.out))⟩
  by_cases hB' : opKi op = 1 ∧ opTa op = 2 ∧ opGi op = 1
  · have tk : 36 ≤ op := tab_b36 op hop hB' hS
    have g0 : (29 : Int) ≤ (op : Int) := by omega
    have g01 : ¬ (op : Int) ≤ 31 := by omega
    have g00 : (32 : Int) ≤ (op : Int) := by omega
    have g02 : ¬ (op : Int) ≤ 34 := by omega
    have HE := dhid (tkV_bi (sp := sp) (arg := arg) (m := ⟨mo, md, mp, mb⟩) h1 h6 h8 h9 h10 h11 h12 hL hS hK hU hB')
    have e5 : kI = 1 := by rw [← KI.out, hB'.1]; rfl
    have e6 : tI = 2 := by rw [← TI.out, hB'.2.1]; rfl
    have e7 : gI = 1 := by rw [← GI.out, hB'.2.2]; rfl
    subst e5 e6 e7
    clear hK hU hB'
    go_wp2_with fail
    refine (X4.out.pop hx l0 hl).mono ?_
    rintro e W4 ⟨rfl, X5⟩
    rw [HB0.out]
    clear c258 f258 csp c259 f259 a0 a1 r3 r4 r5
    go_wp2_with fail
    refine (X5.out.pop hx l3 l1).mono ?_
    rintro e W5 ⟨rfl, X6⟩
    rw [HC0.out]
    obtain ⟨b0, b1⟩ := X6.out.gw1
    go_wp2_with fail
    refine (bin_any op c b W5 cl bl).mono ?_
    rintro e W6 ⟨rfl, hq⟩
    replace X6 := dhid (X6.out.below hq)
    clear hq b0 b1
    obtain ⟨q0, q1, q2, q3⟩ := X6.out.mcells
    obtain ⟨u, hu⟩ : ∃ u, binE op b = u := ⟨_, rfl⟩
    obtain ⟨v, hv⟩ : ∃ v, binV op c b = v := ⟨_, rfl⟩
    rw [hu, hv]
    have HU := dhid hu
    have HV := dhid hv
    clear hu hv
    clear hB
    by_cases hu0 : u = 0
    · subst hu0
      cases mb
      · go_wp2_with fail
        refine ((X6.out.setbd hx false).push hx v l4).mono ?_
        rintro e w6 ⟨rfl, X7⟩
        go_wp2_with fail
        go_end0
        exact ⟨rfl, HF.out _ _ (by rw [← HT.out, HE.out]; simp only [HB0.out, HC0.out, HU.out, HV.out]; first | exact X7.out | (simp only [hu0, not_false_eq_true, decide_true, Bool.or_true]; exact X7.out))⟩
      · go_wp2_with fail
        refine ((X6.out.setbd hx true).push hx v l4).mono ?_
        rintro e w6 ⟨rfl, X7⟩
        go_wp2_with fail
        go_end0
        exact ⟨rfl, HF.out _ _ (by rw [← HT.out, HE.out]; simp only [HB0.out, HC0.out, HU.out, HV.out]; first | exact X7.out | (simp only [hu0, not_false_eq_true, decide_true, Bool.or_true]; exact X7.out))⟩
    ·
      have hbn : (u != 0) = true := bne_iff_ne.2 hu0
      cases mb
      · go_wp2_with fail
        refine ((X6.out.setbd hx true).push hx v l4).mono ?_
        rintro e w6 ⟨rfl, X7⟩
        go_wp2_with fail
        go_end0
        exact ⟨rfl, HF.out _ _ (by rw [← HT.out, HE.out]; simp only [HB0.out, HC0.out, HU.out, HV.out]; first | exact X7.out | (simp only [hu0, not_false_eq_true, decide_true, Bool.or_true]; exact X7.out))⟩
      · go_wp2_with fail
        refine ((X6.out.setbd hx true).push hx v l4).mono ?_
        rintro e w6 ⟨rfl, X7⟩
        go_wp2_with fail
        go_end0
        exact ⟨rfl, HF.out _ _ (by rw [← HT.out, HE.out]; simp only [HB0.out, HC0.out, HU.out, HV.out]; first | exact X7.out | (simp only [hu0, not_false_eq_true, decide_true, Bool.or_true]; exact X7.out))⟩
  rcases hok with e | e | e | e | e | e | e | e | e | e | e | e
  · exact absurd e h1
  · exact absurd e h6
  · exact absurd e h8
  · exact absurd e h9
  · exact absurd e h10
  · exact absurd e h11
  · exact absurd e h12
  · exact absurd e hL
  · exact absurd e hS
  · exact absurd e hK
  · exact absurd e hU
  · exact absurd e hB'
end Go.Proofs.Ytonmoidalkcmoaa
