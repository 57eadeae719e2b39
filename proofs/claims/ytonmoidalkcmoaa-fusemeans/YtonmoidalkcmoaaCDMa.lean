import Derived.Test.YtonmoidalkcmoaaCDRo
namespace Go.Proofs.Ytonmoidalkcmoaa
open Go.RowKit Go.WideShapes
set_option maxRecDepth 100000
theorem unV_lt (op a : Nat) (ha : a < 4294967296) : unV op a < 4294967296 := by
  unfold unV
  repeat' split
  all_goals first | (unfold sex8; split <;> omega) | (unfold sex16; split <;> omega) | exact tn_lt ha | exact fof_lt _ | omega
theorem pow_div_le (a b : Nat) : a / 2 ^ (b % 32) ≤ a := Nat.div_le_self _ _
theorem ite_lt' {c : Prop} [Decidable c] {x y n : Nat} (hx : x < n) (hy : y < n) : (if c then x else y) < n := by split <;> assumption
theorem binV_lt (op a b : Nat) (ha : a < 4294967296) (hb : b < 4294967296) : binV op a b < 4294967296 := by
  have h1 := Nat.and_le_left (n := a) (m := b)
  have h2 : a ||| b < 2 ^ 32 := Nat.or_lt_two_pow (by omega) (by omega)
  have h3 : a ^^^ b < 2 ^ 32 := Nat.xor_lt_two_pow (by omega) (by omega)
  have h4 := Nat.div_le_self a b
  have h5 := Nat.mod_le a b
  have h6 := pow_div_le a b
  unfold binV
  repeat' refine ite_lt' ?_ ?_
  all_goals first | exact fsum_lt _ _ | exact fmul_lt _ _ | exact fdiv_lt _ _ | omega
theorem last_cut (ws : List Nat) (h : 0 < ws.length) : ws = ws.dropLast ++ [ws.getLastD 0] := by
  cases ws with
  | nil => simp at h
  | cons x xs => simp [List.getLastD_eq_getLast?, List.getLast?_eq_some_getLast, List.dropLast_concat_getLast]
theorem dropLast_len (ws : List Nat) : ws.dropLast.length = ws.length - 1 := by simp
theorem dropLast_bd {ws : List Nat} (h : ∀ x ∈ ws, x < 4294967296) : ∀ x ∈ ws.dropLast, x < 4294967296 := fun x hx => h x (List.dropLast_subset _ hx)
theorem getLastD_bd {ws : List Nat} (h : ∀ x ∈ ws, x < 4294967296) : ws.getLastD 0 < 4294967296 := by
  by_cases hl : 0 < ws.length
  · exact h _ (by rw [last_cut ws hl]; simp)
  · have : ws = [] := List.length_eq_zero_iff.1 (by omega)
    subst this; decide
/-- what layer 6 makes of the last words -/
def wkV (ws : List Nat) (op : Nat) : Option (List Nat) :=
  if opTa op = 1 then (if unE op = 0 then some (ws.dropLast ++ [unV op (ws.getLastD 0)]) else none)
  else if opTa op = 2 then (if binE op (ws.getLastD 0) = 0 then some (ws.dropLast.dropLast ++ [binV op (ws.dropLast.getLastD 0) (ws.getLastD 0)]) else none)
  else none
/-- what an instruction that is no comparison makes of the words -/
def plV (ws : List Nat) (op arg : Nat) : Option (List Nat) :=
  if op = 1 then some ws else if op = 8 then some (ws ++ [arg]) else if op = 10 then some ws.dropLast else if op = 11 then some (ws.dropLast ++ [ws.getLastD 0] ++ [ws.getLastD 0]) else wkV ws op
/-- the words that are taken are there, and places for those that are given -/
def brB (ws : List Nat) (op : Nat) : Bool := decide (opTa op ≤ ws.length ∧ ws.length - opTa op + opGi op ≤ 64)
def leftV (ws : List Nat) (len : Nat) : Nat × Nat × Nat := if ws.length = 0 then (len, 4, 0) else (len, 2, ws.getD 0 0)
def cmpV (ws : List Nat) (op arg len : Nat) : Nat × Nat × Nat := if hoV op (ws.getD 0 0) (ws.getD 1 0) then (len, 3, arg) else (len, 4, 0)
/-- the row is played on, as far as it goes: the last closed one -/
def lgF : List (Nat × Nat) → List Nat → Nat → Nat × Nat × Nat → Nat × Nat × Nat
  | [], _, _, c => c
  | p :: r, ws, i, c =>
    if erV p.1 p.2 = 0 ∧ brB ws p.1 = true then
      (if opKi p.1 = 2 then (if ws.length = opTa p.1 then cmpV ws p.1 p.2 (i + 1) else c)
       else match plV ws p.1 p.2 with
        | none => c
        | some ws' => lgF r ws' (i + 1) (if 0 < i ∧ ws'.length ≤ 1 then leftV ws' (i + 1) else c))
    else c
/-- the longest piece of a stretch: its length, kind and value -/
def lgV (L : List (Nat × Nat)) : Nat × Nat × Nat := lgF L [] 0 (1, 1, 0)
theorem ta_small : ∀ op, op < 256 → opTa op ≤ 2000000 ∧ opGi op ≤ 2000000 := by decide +kernel
theorem ta_cmp : ∀ op, op < 256 → opKi op = 2 → opTa op = 2 := by decide +kernel
theorem ta_8 : opTa 8 = 0 ∧ opGi 8 = 1 := by decide +kernel
theorem ta_10 : opTa 10 = 1 := by decide +kernel
theorem ta_11 : opTa 11 = 1 ∧ opGi 11 = 2 := by decide +kernel
end Go.Proofs.Ytonmoidalkcmoaa
