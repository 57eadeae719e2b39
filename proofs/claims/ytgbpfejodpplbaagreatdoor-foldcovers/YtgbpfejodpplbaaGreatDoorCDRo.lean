import Derived.Test.YtgbpfejodpplbaaGreatDoorCLBase
import Derived.Test.YtgbpfejodpplbaaGreatDoorCAHo
import Derived.Test.YtgbpfejodpplbaaGreatDoorCLWd32
import Derived.Laws.ResultCell
import Derived.Laws.CopyOwn
namespace Go.Proofs.YtgbpfejodpplbaaGreatDoor
open Go.RowKit Go.WideShapes
set_option maxRecDepth 100000

theorem dhid {p : Prop} (h : p) : Hid p := h
/-- a row of words in memory: 64 places and how many stand -/
structure RoS (b : Nat) (w : World) (ws : List Nat) : Prop where
  obj : ∃ cs : Array Value, w.heap[b]? = some (.cells cs 127 (0, 0)) ∧ cs.size = 65 ∧ cs[64]? = some (.int .i64 (ws.length : Int)) ∧ (∀ i, i < ws.length → cs[i]? = some (.int .u32 ((ws.getD i 0 : Nat) : Int)))
  le : ws.length ≤ 64
  bd : ∀ x ∈ ws, x < 4294967296
theorem RoS.lt {b : Nat} {w : World} {ws : List Nat} (h : RoS b w ws) : b < w.heap.size := by
  obtain ⟨cs, h1, _⟩ := h.obj
  exact (Array.getElem?_eq_some_iff.1 h1).1
theorem RoS.cnt {b : Nat} {w : World} {ws : List Nat} (h : RoS b w ws) : w.cell? ⟨b, 64, none⟩ = some (.int .i64 (ws.length : Int)) := by
  obtain ⟨cs, h1, _, h3, _⟩ := h.obj
  rw [obj_cell h1]; exact h3
theorem RoS.frz {b : Nat} {w : World} {ws : List Nat} (h : RoS b w ws) (i : Nat) : w.frozen? ⟨b, i, none⟩ = false := by
  obtain ⟨cs, h1, _⟩ := h.obj
  exact obj_frozen h1 i
theorem RoS.wd {b : Nat} {w : World} {ws : List Nat} (h : RoS b w ws) {i : Nat} (hi : i < ws.length) : w.cell? ⟨b, i, none⟩ = some (.int .u32 ((ws.getD i 0 : Nat) : Int)) := by
  obtain ⟨cs, h1, _, _, h4⟩ := h.obj
  rw [obj_cell h1]; exact h4 i hi
theorem RoS.there {b : Nat} {w : World} {ws : List Nat} (h : RoS b w ws) {i : Nat} (hi : i < 65) : ∃ v, w.cell? ⟨b, i, none⟩ = some v := by
  obtain ⟨cs, h1, h2, _⟩ := h.obj
  exact ⟨cs[i]'(by omega), by rw [obj_cell h1]; exact Array.getElem?_eq_getElem (by omega)⟩
theorem RoS.kept {b : Nat} {w w' : World} {ws : List Nat} (h : RoS b w ws) {S : Nat → Prop} (hk : Kp S w w') (hn : ¬ S b) : RoS b w' ws := by
  obtain ⟨cs, h1, h2⟩ := h.obj
  exact ⟨⟨cs, (hk.block b h.lt hn).trans h1, h2⟩, h.le, h.bd⟩
theorem getD_app_lt {ws : List Nat} {x i : Nat} (h : i < ws.length) : (ws ++ [x]).getD i 0 = ws.getD i 0 := by
  simp [List.getD, List.getElem?_append_left h]
theorem getD_app_eq (ws : List Nat) (x : Nat) : (ws ++ [x]).getD ws.length 0 = x := by
  simp [List.getD]
/-- a word is put on -/
theorem RoS.put {b : Nat} {w : World} {ws : List Nat} (h : RoS b w ws) {x : Nat} (hx : x < 4294967296) (hl : ws.length < 64) :
    RoS b ((w.setCell ⟨b, ws.length, none⟩ (.int .u32 (x : Int))).setCell ⟨b, 64, none⟩ (.int .i64 ((ws.length : Int) + 1))) (ws ++ [x]) := by
  obtain ⟨cs, h1, h2, h3, h4⟩ := h.obj
  have e1 := heap_setCell_same w b ws.length _ _ (.int .u32 (x : Int)) h1
  have e2 := heap_setCell_same _ b 64 _ _ (.int .i64 ((ws.length : Int) + 1)) e1
  refine ⟨⟨_, e2, by simp [h2], ?_, ?_⟩, by simp; omega, ?_⟩
  · rw [Array.getElem?_setIfInBounds_self_of_lt (by simp [h2])]
    simp
  · intro i hi
    simp only [List.length_append, List.length_cons, List.length_nil] at hi
    rw [Array.getElem?_setIfInBounds_ne (by omega)]
    by_cases hlt : i < ws.length
    · rw [Array.getElem?_setIfInBounds_ne (by omega), getD_app_lt hlt]
      exact h4 i hlt
    · have : i = ws.length := by omega
      subst this
      rw [Array.getElem?_setIfInBounds_self_of_lt (by omega), getD_app_eq]
  · intro y hy
    rw [List.mem_append, List.mem_singleton] at hy
    rcases hy with hy | rfl
    · exact h.bd y hy
    · exact hx
/-- a word is taken -/
theorem RoS.drop {b : Nat} {w : World} {ws : List Nat} {x : Nat} (h : RoS b w (ws ++ [x])) :
    RoS b (w.setCell ⟨b, 64, none⟩ (.int .i64 (ws.length : Int))) ws := by
  obtain ⟨cs, h1, h2, h3, h4⟩ := h.obj
  have e1 := heap_setCell_same w b 64 _ _ (.int .i64 (ws.length : Int)) h1
  have hle := h.le
  simp only [List.length_append, List.length_cons, List.length_nil] at hle
  refine ⟨⟨_, e1, by simp [h2], ?_, ?_⟩, by omega, fun y hy => h.bd y (List.mem_append_left _ hy)⟩
  · rw [Array.getElem?_setIfInBounds_self_of_lt (by omega)]
  · intro i hi
    rw [Array.getElem?_setIfInBounds_ne (by omega), ← getD_app_lt (x := x) hi]
    exact h4 i (by simp; omega)
theorem RoS.drewN {b : Nat} {w : World} {ws : List Nat} (h : RoS b w ws) (n : Nat) : RoS b (w.drewN n) ws := ⟨h.obj, h.le, h.bd⟩
theorem RoS.drew {b : Nat} {w : World} {ws : List Nat} (h : RoS b w ws) : RoS b w.drew ws := ⟨h.obj, h.le, h.bd⟩
set_option maxHeartbeats 4000000 in
theorem push_anyD (b x : Nat) (w : World) (ws : List Nat) (h : RoS b w ws) (hx : x < 4294967296) (hl : ws.length < 64) :
    Calls Tryz.prog 89 #[.pointer (some ⟨b, 0, none⟩), .int .u32 (x : Int)] w fun e w' => e = .returned (.tuple #[]) ∧ RoS b w' (ws ++ [x]) ∧ Kp (fun k => k = b) w w' := by
  have c64 := h.cnt
  obtain ⟨v, cn⟩ := h.there (i := ws.length) (by omega)
  have f64 := h.frz 64
  have fn := h.frz ws.length
  have HP := dhid ((h.put hx hl).drew)
  have hd : decide ((ws.length : Int) < 64) = true := by simp; omega
  have hlt : (ws.length : Int) < 64 := by omega
  have hne : ¬ ws.length = 64 := by omega
  clear h
  generalize hn : ws.length = n at *
  go_enter Tryz.func89, Tryz.ntmps89
  go_wp2
  go_region
  go_wp2
  first | go_end0 | refine bodyPost_ret (results_none rfl _ _ _) rfl ?_
  refine ⟨rfl, ?_, ?_⟩
  · exact HP.out
  · exact ⟨rfl, rfl, rfl, by simp, fun k hk hn => (Below.heap_setCell _ _ _ _ hn).trans (Below.heap_setCell _ _ _ _ hn)⟩
set_option maxHeartbeats 4000000 in
theorem pop_any (b x : Nat) (w : World) (ws : List Nat) (h : RoS b w (ws ++ [x])) :
    Calls Tryz.prog 90 #[.pointer (some ⟨b, 0, none⟩)] w fun e w' => e = .returned (.int .u32 (x : Int)) ∧ RoS b w' ws ∧ Kp (fun k => k = b) w w' := by
  have c64 := h.cnt
  have hle := h.le
  rw [List.length_append, List.length_singleton] at c64 hle
  have cn := h.wd (i := ws.length) (by simp)
  rw [getD_app_eq] at cn
  have f64 := h.frz 64
  have HP := dhid (fun n => h.drop.drewN n)
  have hd : decide ((ws.length : Int) < 64) = true := by simp; omega
  have hlt : (ws.length : Int) < 64 := by omega
  have hne : ¬ ws.length = 64 := by omega
  have hne' : ¬ 64 = ws.length := by omega
  clear h
  generalize hn : ws.length = n at *
  go_enter Tryz.func90, Tryz.ntmps90
  go_wp2
  go_quiet (fail)
  go_wp2
  go_ret
  refine ⟨rfl, ?_, ?_⟩
  · exact HP.out _
  · exact ⟨rfl, rfl, rfl, by simp, fun k hk hn => Below.heap_setCell _ _ _ _ hn⟩
set_option maxHeartbeats 4000000 in
theorem pop2_any (b x y : Nat) (w : World) (ws : List Nat) (h : RoS b w (ws ++ [x] ++ [y])) :
    Calls Tryz.prog 87 #[.pointer (some ⟨b, 0, none⟩)] w fun e w' => e = .returned (.tuple #[.int .u32 (x : Int), .int .u32 (y : Int)]) ∧ RoS b w' ws ∧ Kp (fun k => k = b) w w' := by
  have H1 := dhid (pop_any b y w (ws ++ [x]) h)
  have H2 := dhid (fun w' => pop_any b x w' ws)
  clear h
  go_enter Tryz.func87, Tryz.ntmps87
  go_wp2_with (go_at_call 90; first | (refine H1.out.mono ?_; rintro e w1 ⟨rfl, h1, k1⟩) | (refine (H2.out _ h1).mono ?_; rintro e w2 ⟨rfl, h2, k2⟩))
  go_ret2
  exact ⟨rfl, h2, k1.trans k2 (fun _ _ e => e)⟩
end Go.Proofs.YtgbpfejodpplbaaGreatDoor
namespace Go.Proofs.YtgbpfejodpplbaaGreatDoor
open Go.RowKit Go.WideShapes
set_option maxRecDepth 100000

theorem unV_lt (op a : Nat) (ha : a < 4294967296) : unV op a < 4294967296 := by
  unfold unV
  repeat' split
  all_goals first | (unfold sex8; split <;> omega) | (unfold sex16; split <;> omega) | exact tn_lt ha | exact fof_lt _ | omega
theorem pow_div_le (a b : Nat) : a / 2 ^ (b % 32) ≤ a := Nat.div_le_self _ _
theorem ite_lt' {c : Prop} [Decidable c] {x y n : Nat} (hx : x < n) (hy : y < n) : (if c then x else y) < n := by split <;> assumption
theorem binV_lt (op a b : Nat) (ha : a < 4294967296) (hb : b < 4294967296) : binV op a b < 4294967296 := by
  have h1 := Nat.and_le_left (n := a) (m := b)
  have h2 : a ||| b < 2 ^ 32 := Nat.or_lt_two_pow (by omega) (by omega)
  have h3 : a ^^^ b < 2 ^ 32 := Nat.xor_lt_two_pow (by omega) (by omega)
  have h4 := Nat.div_le_self a b
  have h5 := Nat.mod_le a b
  have h6 := pow_div_le a b
  unfold binV
  repeat' refine ite_lt' ?_ ?_
  all_goals first | exact fsum_lt _ _ | exact fmul_lt _ _ | exact fdiv_lt _ _ | omega
theorem last_cut (ws : List Nat) (h : 0 < ws.length) : ws = ws.dropLast ++ [ws.getLastD 0] := by
  cases ws with
  | nil => simp at h
  | cons x xs => simp [List.getLastD_eq_getLast?, List.getLast?_eq_some_getLast, List.dropLast_concat_getLast]
theorem dropLast_len (ws : List Nat) : ws.dropLast.length = ws.length - 1 := by simp
theorem dropLast_bd {ws : List Nat} (h : ∀ x ∈ ws, x < 4294967296) : ∀ x ∈ ws.dropLast, x < 4294967296 := fun x hx => h x (List.dropLast_subset _ hx)
theorem getLastD_bd {ws : List Nat} (h : ∀ x ∈ ws, x < 4294967296) : ws.getLastD 0 < 4294967296 := by
  by_cases hl : 0 < ws.length
  · exact h _ (by rw [last_cut ws hl]; simp)
  · have : ws = [] := List.length_eq_zero_iff.1 (by omega)
    subst this; decide
/-- what layer 6 makes of the last words -/
def wkV (ws : List Nat) (op : Nat) : Option (List Nat) :=
  if opTa op = 1 then (if unE op = 0 then some (ws.dropLast ++ [unV op (ws.getLastD 0)]) else none)
  else if opTa op = 2 then (if binE op (ws.getLastD 0) = 0 then some (ws.dropLast.dropLast ++ [binV op (ws.dropLast.getLastD 0) (ws.getLastD 0)]) else none)
  else none
/-- what an instruction that is no comparison makes of the words -/
def plV (ws : List Nat) (op arg : Nat) : Option (List Nat) :=
  if op = 1 then some ws else if op = 8 then some (ws ++ [arg]) else if op = 10 then some ws.dropLast else if op = 11 then some (ws.dropLast ++ [ws.getLastD 0] ++ [ws.getLastD 0]) else wkV ws op
/-- the words that are taken are there, and places for those that are given -/
def brB (ws : List Nat) (op : Nat) : Bool := decide (opTa op ≤ ws.length ∧ ws.length - opTa op + opGi op ≤ 64)
def leftV (ws : List Nat) (len : Nat) : Nat × Nat × Nat := if ws.length = 0 then (len, 4, 0) else (len, 2, ws.getD 0 0)
def cmpV (ws : List Nat) (op arg len : Nat) : Nat × Nat × Nat := if hoV op (ws.getD 0 0) (ws.getD 1 0) then (len, 3, arg) else (len, 4, 0)
/-- the row is played on, as far as it goes: the last closed one -/
def lgF : List (Nat × Nat) → List Nat → Nat → Nat × Nat × Nat → Nat × Nat × Nat
  | [], _, _, c => c
  | p :: r, ws, i, c =>
    if erV p.1 p.2 = 0 ∧ brB ws p.1 = true then
      (if opKi p.1 = 2 then (if ws.length = opTa p.1 then cmpV ws p.1 p.2 (i + 1) else c)
       else match plV ws p.1 p.2 with
        | none => c
        | some ws' => lgF r ws' (i + 1) (if 0 < i ∧ ws'.length ≤ 1 then leftV ws' (i + 1) else c))
    else c
/-- the longest piece of a stretch: its length, kind and value -/
def lgV (L : List (Nat × Nat)) : Nat × Nat × Nat := lgF L [] 0 (1, 1, 0)
theorem ta_small : ∀ op, op < 256 → opTa op ≤ 2000000 ∧ opGi op ≤ 2000000 := by decide +kernel
theorem ta_cmp : ∀ op, op < 256 → opKi op = 2 → opTa op = 2 := by decide +kernel
theorem ta_8 : opTa 8 = 0 ∧ opGi 8 = 1 := by decide +kernel
theorem ta_10 : opTa 10 = 1 := by decide +kernel
theorem ta_11 : opTa 11 = 1 ∧ opGi 11 = 2 := by decide +kernel
end Go.Proofs.YtgbpfejodpplbaaGreatDoor
namespace Go.Proofs.YtgbpfejodpplbaaGreatDoor
open Go.RowKit Go.WideShapes
set_option maxRecDepth 100000

/-- what the document's list becomes by an instruction that is no comparison -/
def doD (ws : List Nat) (op arg : Nat) : Option (List Nat) :=
  if op = 1 then some ws
  else if op = 8 then (if ws.length + 1 ≤ 64 then some (ws ++ [arg]) else none)
  else if op = 10 then (if 1 ≤ ws.length then some ws.dropLast else none)
  else if op = 11 then (if 1 ≤ ws.length ∧ ws.length + 1 ≤ 64 then some (ws ++ [ws.getLastD 0]) else none)
  else if unE op = 0 then (if 1 ≤ ws.length then some (ws.dropLast ++ [unV op (ws.getLastD 0)]) else none)
  else if binE op 1 = 0 then (if 2 ≤ ws.length ∧ binE op (ws.getLastD 0) = 0 then some (ws.dropLast.dropLast ++ [binV op (ws.dropLast.getLastD 0) (ws.getLastD 0)]) else none)
  else none
theorem tab_un : ∀ op, op < 256 → unE op = 0 → opTa op = 1 ∧ opGi op = 1 ∧ ¬ op = 1 ∧ ¬ op = 8 ∧ ¬ op = 10 ∧ ¬ op = 11 := by decide +kernel
theorem tab_bin : ∀ op, op < 256 → binE op 1 = 0 → opTa op = 2 ∧ opGi op = 1 ∧ ¬ op = 1 ∧ ¬ op = 8 ∧ ¬ op = 10 ∧ ¬ op = 11 := by decide +kernel
theorem tab_1 : opTa 1 = 0 ∧ opGi 1 = 0 := by decide +kernel
theorem tab_10 : opTa 10 = 1 ∧ opGi 10 = 0 := by decide +kernel
theorem binE_61 {op : Nat} (h : ¬ binE op 1 = 0) (b : Nat) : ¬ binE op b = 0 := by
  unfold binE at *
  by_cases h1 : op = 42 ∨ op = 43 ∨ op = 44 ∨ op = 45
  · rw [if_pos h1, if_neg (by decide)] at h; exact absurd rfl h
  · rw [if_neg h1] at h ⊢; exact h
/-- the document's list and the row go alike -/
theorem doD_eq {ws : List Nat} {op arg : Nat} (hop : op < 256) (hl : ws.length ≤ 64) : doD ws op arg = if brB ws op = true then plV ws op arg else none := by
  unfold doD plV
  by_cases h1 : op = 1
  · subst h1; simp [brB, tab_1, hl]
  by_cases h8 : op = 8
  · subst h8; simp [brB, ta_8]
  by_cases h10 : op = 10
  · subst h10
    show (if 1 ≤ ws.length then some ws.dropLast else none) = if brB ws 10 = true then some ws.dropLast else none
    simp only [brB, tab_10, decide_eq_true_eq]
    by_cases hw : 1 ≤ ws.length
    · rw [if_pos hw, if_pos (by omega)]
    · rw [if_neg hw, if_neg (by omega)]
  by_cases h11 : op = 11
  · subst h11
    show (if 1 ≤ ws.length ∧ ws.length + 1 ≤ 64 then some (ws ++ [ws.getLastD 0]) else none) = if brB ws 11 = true then some (ws.dropLast ++ [ws.getLastD 0] ++ [ws.getLastD 0]) else none
    simp only [brB, ta_11, decide_eq_true_eq]
    by_cases hw : 1 ≤ ws.length ∧ ws.length + 1 ≤ 64
    · rw [if_pos hw, if_pos (by omega), ← last_cut ws hw.1]
    · rw [if_neg hw, if_neg (by omega)]
  simp only [h1, h8, h10, h11, if_false]
  unfold wkV
  by_cases hu : unE op = 0
  · obtain ⟨t1, t2, _⟩ := tab_un op hop hu
    simp only [hu, if_true, t1, brB, t2, decide_eq_true_eq]
    by_cases hw : 1 ≤ ws.length
    · rw [if_pos hw, if_pos (by omega)]
    · rw [if_neg hw, if_neg (by omega)]
  · simp only [hu, if_false]
    by_cases hb : binE op 1 = 0
    · obtain ⟨t1, t2, _⟩ := tab_bin op hop hb
      simp only [hb, if_true, t1, brB, t2, decide_eq_true_eq]
      by_cases hw : 2 ≤ ws.length
      · rw [if_pos (show 2 ≤ ws.length ∧ ws.length - 2 + 1 ≤ 64 by omega)]
        simp [hw]
      · rw [if_neg (fun e => hw e.1), if_neg (by omega)]
    · simp only [hb, if_false]
      split
      · split
        · rfl
        · split
          · rw [if_neg (binE_61 hb _)]
          · rfl
      · rfl
/-- a row played by itself: what it comes to -/
def plD : List (Nat × Nat) → List Nat → Option (Nat × Nat)
  | [], ws => if ws.length = 0 then some (4, 0) else if ws.length = 1 then some (2, ws.getD 0 0) else none
  | p :: r, ws =>
    if erV p.1 p.2 = 0 then
      (if opKi p.1 = 2 then (if r = [] ∧ ws.length = 2 then some (if hoV p.1 (ws.getD 0 0) (ws.getD 1 0) then (3, p.2) else (4, 0)) else none)
       else match doD ws p.1 p.2 with
        | none => none
        | some ws' => plD r ws')
    else none
theorem doD_len {ws ws' : List Nat} {op arg : Nat} (hl : ws.length ≤ 64) (h : doD ws op arg = some ws') : ws'.length ≤ 64 := by
  unfold doD at h
  split at h
  · cases h; exact hl
  split at h
  · split at h <;> cases h; simp; omega
  split at h
  · split at h <;> cases h; simp; omega
  split at h
  · split at h <;> cases h; simp; omega
  split at h
  · split at h <;> cases h; simp; omega
  split at h
  · split at h <;> cases h; simp; omega
  · cases h
/-- the last closed row of a stretch that is played on, of one instruction more at least -/
def Bst (L : List (Nat × Nat)) (ws : List Nat) (i : Nat) (c res : Nat × Nat × Nat) : Prop :=
  (∃ n k v, 1 ≤ n ∧ n ≤ L.length ∧ 2 ≤ i + n ∧ plD (L.take n) ws = some (k, v) ∧ res = (i + n, k, v) ∧ ∀ m, n < m → m ≤ L.length → plD (L.take m) ws = none)
  ∨ (∀ n, 1 ≤ n → n ≤ L.length → 2 ≤ i + n → plD (L.take n) ws = none) ∧ res = c
theorem plD_er {p : Nat × Nat} {r : List (Nat × Nat)} {ws : List Nat} (h : ¬ erV p.1 p.2 = 0) : plD (p :: r) ws = none := by simp [plD, h]
theorem plD_no {p : Nat × Nat} {r : List (Nat × Nat)} {ws : List Nat} (h2 : ¬ opKi p.1 = 2) (h3 : doD ws p.1 p.2 = none) : plD (p :: r) ws = none := by simp [plD, h2, h3]
theorem plD_on {p : Nat × Nat} {r : List (Nat × Nat)} {ws ws' : List Nat} (h1 : erV p.1 p.2 = 0) (h2 : ¬ opKi p.1 = 2) (h3 : doD ws p.1 p.2 = some ws') : plD (p :: r) ws = plD r ws' := by simp [plD, h1, h2, h3]
theorem plD_cmp {p : Nat × Nat} {r : List (Nat × Nat)} {ws : List Nat} (h1 : erV p.1 p.2 = 0) (h2 : opKi p.1 = 2) : plD (p :: r) ws = if r = [] ∧ ws.length = 2 then some (if hoV p.1 (ws.getD 0 0) (ws.getD 1 0) then (3, p.2) else (4, 0)) else none := by simp [plD, h1, h2]
theorem take_pos {p : Nat × Nat} {r : List (Nat × Nat)} {n : Nat} (h : 1 ≤ n) : (p :: r).take n = p :: r.take (n - 1) := by
  obtain ⟨k, rfl⟩ : ∃ k, n = k + 1 := ⟨n - 1, by omega⟩
  simp
theorem bst_none {L : List (Nat × Nat)} {ws : List Nat} {i : Nat} {c : Nat × Nat × Nat} (h : ∀ n, 1 ≤ n → n ≤ L.length → plD (L.take n) ws = none) : Bst L ws i c c := .inr ⟨fun n h1 h2 _ => h n h1 h2, rfl⟩
theorem tab_cmpb : ∀ op, op < 256 → opKi op = 2 → opTa op = 2 ∧ opGi op = 0 := by decide +kernel
theorem lgF_bst : ∀ (L : List (Nat × Nat)) (ws : List Nat) (i : Nat) (c : Nat × Nat × Nat), (∀ p ∈ L, p.1 < 256) → ws.length ≤ 64 → (i = 0 → ws = []) → Bst L ws i c (lgF L ws i c)
  | [], ws, i, c, _, _, _ => bst_none (fun n h1 h2 => absurd h2 (by simp; omega))
  | p :: r, ws, i, c, hL, hl, h0 => by
    have hop := hL p (by simp)
    by_cases h1 : erV p.1 p.2 = 0
    · by_cases h2 : opKi p.1 = 2
      · obtain ⟨t1, t2⟩ := tab_cmpb p.1 hop h2
        by_cases hw : ws.length = 2
        · have hbr : brB ws p.1 = true := by simp [brB, t1, t2, hw]
          have e : lgF (p :: r) ws i c = cmpV ws p.1 p.2 (i + 1) := by simp [lgF, h1, hbr, h2, hw, t1]
          have hi : 0 < i := by
            rcases Nat.eq_zero_or_pos i with h | h
            · rw [h0 h] at hw; simp at hw
            · exact h
          rw [e]
          unfold cmpV
          refine .inl ⟨1, if hoV p.1 (ws.getD 0 0) (ws.getD 1 0) then 3 else 4, if hoV p.1 (ws.getD 0 0) (ws.getD 1 0) then p.2 else 0, Nat.le_refl _, by simp, by omega, ?_, ?_, ?_⟩
          · rw [take_pos (Nat.le_refl _), plD_cmp h1 h2, if_pos ⟨by simp, hw⟩]
            split <;> rfl
          · split <;> rfl
          · intro m hm hm2
            rw [take_pos (by omega), plD_cmp h1 h2, if_neg]
            rintro ⟨h, _⟩
            have := congrArg List.length h
            rw [List.length_take, List.length_nil] at this
            rw [List.length_cons] at hm2
            omega
        · have e : lgF (p :: r) ws i c = c := by
            simp only [lgF, h1, h2, t1, if_true]
            simp [hw]
          rw [e]
          exact bst_none (fun n hn _ => by rw [take_pos hn, plD_cmp h1 h2, if_neg (fun h => hw h.2)])
      · have hd := doD_eq (arg := p.2) hop hl
        cases hdo : doD ws p.1 p.2 with
        | none =>
          rw [hdo] at hd
          have e : lgF (p :: r) ws i c = c := by
            by_cases hb : brB ws p.1 = true
            · rw [if_pos hb] at hd
              simp [lgF, h1, h2, hb, ← hd]
            · simp [lgF, hb]
          rw [e]
          exact bst_none (fun n hn _ => by rw [take_pos hn]; exact plD_no h2 hdo)
        | some ws' =>
          rw [hdo] at hd
          have hb : brB ws p.1 = true := by
            cases h : brB ws p.1 with
            | true => rfl
            | false => rw [h] at hd; simp at hd
          rw [if_pos hb] at hd
          have e : lgF (p :: r) ws i c = lgF r ws' (i + 1) (if 0 < i ∧ ws'.length ≤ 1 then leftV ws' (i + 1) else c) := by simp [lgF, h1, h2, hb, ← hd]
          rw [e]
          have ih := lgF_bst r ws' (i + 1) (if 0 < i ∧ ws'.length ≤ 1 then leftV ws' (i + 1) else c) (fun q hq => hL q (by simp [hq])) (doD_len hl hdo) (fun h => by omega)
          have ht : ∀ n, 1 ≤ n → plD ((p :: r).take n) ws = plD (r.take (n - 1)) ws' := fun n hn => by rw [take_pos hn]; exact plD_on h1 h2 hdo
          rcases ih with ⟨n, k, v, n1, n2, n3, n4, n5, n6⟩ | ⟨a1, a2⟩
          · refine .inl ⟨n + 1, k, v, by omega, by simpa using n2, by omega, ?_, ?_, ?_⟩
            · rw [ht _ (by omega)]; exact n4
            · rw [n5]; congr 1; omega
            · intro m hm hm2
              rw [ht _ (by omega)]
              exact n6 (m - 1) (by omega) (by simp at hm2; omega)
          · rw [a2]
            by_cases hc : 0 < i ∧ ws'.length ≤ 1
            · rw [if_pos hc]
              refine .inl ⟨1, if ws'.length = 0 then 4 else 2, if ws'.length = 0 then 0 else ws'.getD 0 0, Nat.le_refl _, by simp, by omega, ?_, ?_, ?_⟩
              · rw [ht _ (Nat.le_refl _)]
                simp only [Nat.sub_self, List.take_zero, plD]
                by_cases hz : ws'.length = 0
                · simp [hz]
                · rw [if_neg hz, if_pos (by omega), if_neg hz, if_neg hz]
              · unfold leftV
                split <;> rfl
              · intro m hm hm2
                rw [ht _ (by omega)]
                exact a1 (m - 1) (by omega) (by simp at hm2; omega) (by omega)
            · rw [if_neg hc]
              refine .inr ⟨?_, rfl⟩
              intro n hn hn2 hn3
              rw [ht _ hn]
              by_cases hn1 : n = 1
              · subst hn1
                simp only [Nat.sub_self, List.take_zero, plD]
                rw [if_neg (by omega), if_neg (by omega)]
              · exact a1 (n - 1) (by omega) (by simp at hn2; omega) (by omega)
    · rw [show lgF (p :: r) ws i c = c by simp [lgF, h1]]
      exact bst_none (fun n hn _ => by rw [take_pos hn]; exact plD_er h1)
end Go.Proofs.YtgbpfejodpplbaaGreatDoor
namespace Go.Proofs.YtgbpfejodpplbaaGreatDoor
open Go.RowKit Go.WideShapes
set_option maxRecDepth 100000

theorem wpList_store_rowD {P : Program} {ops : Array Oper} {Q : Exit → Act → World → Prop} {rest : List Oper} {o : Oper} {a : Act} {w : World} (hg : o.guard = none) (t : TypeId) (p q : Operand) (ho : o.op = .store t p q)
    (b : Nat) (cs cs' : Array Value) (h0 : a.eval p = .pointer (some ⟨b, 0, none⟩)) (h1 : a.eval q = .agg cs') (hb : w.heap[b]? = some (.cells cs t)) (hi : (P.info? t).map (·.size) = some cs'.size) (hs : cs.size = cs'.size) (h2 : cs'.all (·.oneCell') = true)
    (h : wpList P ops Q rest (a.put o.dst undef) (w.setRow b cs')) : wpList P ops Q (o :: rest) a w := by
  refine wpList_plain hg fun _ hK => ?_
  have := run_storeVar_row (P := P) w b t t cs cs' hb hi hs h2
  unfold Oper.wp
  have hr : (execOp a.eval o).run P w = .ok .skip (w.setRow b cs') := by
    simp only [execOp, ho, h0, h1, Instr.storeAt, Instr.sureAddr, Sem.run_bind, Sem.run_pure, Result.andThen, this]
  rw [hr]
  exact hK _ _ h
theorem sizeDPc : (Tryz.prog.info? 40).map (·.size) = some 4 := by kernel_rfl
theorem undDPc : ∃ fs, Tryz.prog.underlying 40 = some (.struct fs) := by
  have h : (match Tryz.prog.underlying 40 with | some (.struct _) => true | _ => false) = true := by kernel_rfl
  split at h
  · exact ⟨_, by assumption⟩
  · cases h
theorem resDPc {fn : Func} {p : Tmp} (hf : fn.results = #[.cell p 40]) (W : World) (b : Nat) (cs : Array Value) (hs : cs.size = 4) (hb : W.heap[b]? = some (.cells cs 40)) (tmps : Array Value) (h2 : tmps.getD p undef = .pointer (some ⟨b, 0, none⟩)) :
    (results fn tmps).run Tryz.prog W = .ok (.agg cs) W := by
  obtain ⟨fs, hu⟩ := undDPc
  exact results_cell_row (p := p) (ty := 40) hf tmps W b 40 cs (0, 0) _ h2 hb hu rfl (by rw [sizeDPc, hs])
theorem resEPc {fn : Func} {p u : Tmp} (hf : fn.results = #[.cell p 40, .tmp u]) (t2 : Value) (W : World) (b : Nat) (cs : Array Value) (hs : cs.size = 4) (hb : W.heap[b]? = some (.cells cs 40)) (tmps : Array Value) (h2 : tmps.getD p undef = .pointer (some ⟨b, 0, none⟩)) (h3 : tmps.getD u undef = t2) :
    (results fn tmps).run Tryz.prog W = .ok (.tuple #[.agg cs, t2]) W := by
  obtain ⟨fs, hu⟩ := undDPc
  rw [results_cell_tmp hf, h2, h3]
  have := run_loadVar_row (P := Tryz.prog) W b 40 40 cs (0, 0) _ hb hu rfl (by rw [sizeDPc, hs])
  simp only [asAddr, Sem.run_pure, Result.andThen, this]
/-- a piece's cells -/
def pcA (at' : Nat) (c : Nat × Nat × Nat) : Array Value := #[.int .u32 (at' : Int), .int .u32 (c.1 : Int), .int .u8 (c.2.1 : Int), .int .u32 (c.2.2 : Int)]
theorem fcheck_any (op arg : Nat) (w : World) (h : op < 256) :
    Calls Tryz.prog 36 #[.agg #[.int .u8 op, .int .u32 arg]] w fun e w' => e = .returned (.int .i64 (erV op arg)) ∧ Below w.heap.size w w' := by
  have hI := fun w => sized_any op arg w h
  go_enter Tryz.func36, Tryz.ntmps36
  go_wp2_with (go_at_call 44; refine (hI _).mono ?_; rintro e wq ⟨rfl, hq⟩)
  go_ret
  exact ⟨rfl, bt (bel (Below.refl _ _)) hq⟩
set_option maxHeartbeats 2000000 in
theorem fone_any (at' : Nat) (w : World) :
    Calls Tryz.prog 19 #[.int .u32 (at' : Int)] w fun e w' => e = .returned (.agg (pcA at' (1, 1, 0))) ∧ Below w.heap.size w w' := by
  go_enter Tryz.func19, Tryz.ntmps19
  go_wp2
  exact bodyPost_ret (resDPc (p := 2) (by kernel_rfl) _ w.heap.size _ rfl (heap_alloc_last w _) _ rfl) rfl ⟨rfl, bel (Below.refl _ _)⟩
set_option maxHeartbeats 2000000 in
theorem left_any (b at' len : Nat) (w : World) (ws : List Nat) (h : RoS b w ws) :
    Calls Tryz.prog 61 #[.pointer (some ⟨b, 0, none⟩), .int .u32 (at' : Int), .int .u32 (len : Int)] w fun e w' => e = .returned (.agg (pcA at' (leftV ws len))) ∧ Below w.heap.size w w' := by
  have c64 := h.cnt
  have hbl := h.lt
  have hne : ¬ b = w.heap.size := by omega
  by_cases h0 : ws.length = 0
  · rw [show leftV ws len = (len, 4, 0) by simp [leftV, h0]]
    rw [h0] at c64
    go_enter Tryz.func61, Tryz.ntmps61
    go_wp2
    exact bodyPost_ret (resDPc (p := 6) (by kernel_rfl) _ w.heap.size _ rfl (heap_alloc_last w _) _ rfl) rfl ⟨rfl, bel (Below.refl _ _)⟩
  · rw [show leftV ws len = (len, 2, ws.getD 0 0) by simp [leftV, h0]]
    have c0 := h.wd (i := 0) (by omega)
    have hz : ((ws.length : Int) == 0) = false := by rw [beq_eq_false_iff_ne]; omega
    have hz' : ¬ (ws.length : Int) = 0 := by omega
    go_enter Tryz.func61, Tryz.ntmps61
    go_wp2
    exact bodyPost_ret (resDPc (p := 6) (by kernel_rfl) _ w.heap.size _ rfl (heap_alloc_last w _) _ rfl) rfl ⟨rfl, bel (Below.refl _ _)⟩
/-- what Info tells of an operation -/
abbrev infA (op : Nat) : Array Value := #[.string (opWd op), .int .i64 (opWi op : Int), .int .u32 (opMo op : Int), .int .i64 (opTa op : Int), .int .i64 (opGi op : Int), .int .u8 (opKi op : Int)]
set_option maxHeartbeats 4000000 in
theorem bears_gen (b op ta gi n : Nat) (w : World) (hbl : b < w.heap.size) (c64 : w.cell? ⟨b, 64, none⟩ = some (.int .i64 (n : Int))) (hle : n ≤ 64) (t1 : ta ≤ 2000000) (t2 : gi ≤ 2000000) :
    Calls Tryz.prog 58 #[.pointer (some ⟨b, 0, none⟩), .agg #[.string (opWd op), .int .i64 (opWi op : Int), .int .u32 (opMo op : Int), .int .i64 (ta : Int), .int .i64 (gi : Int), .int .u8 (opKi op : Int)]] w fun e w' => e = .returned (.bool (decide (ta ≤ n ∧ n - ta + gi ≤ 64))) ∧ Below w.heap.size w w' := by
  have hne : ¬ b = w.heap.size := by omega
  have HB := dhid (fun (o : Obj) (k : Nat) => (show Below w.heap.size w ((w.alloc o).drewN k) from ⟨rfl, rfl, rfl, by simp, fun j hj => Below.heap_alloc _ _ _ hj⟩))
  by_cases h1 : ta ≤ n
  · have d1 : decide (ta ≤ n) = true := decide_eq_true h1
    have hs1 : IntKind.i64.wrap ((n : Int) - (ta : Int)) = ((n - ta : Nat) : Int) := by rw [IntKind.wrap_i64]; omega
    have hs2 : IntKind.i64.wrap (((n - ta : Nat) : Int) + (gi : Int)) = ((n - ta + gi : Nat) : Int) := by rw [IntKind.wrap_i64]; omega
    rw [show decide (ta ≤ n ∧ n - ta + gi ≤ 64) = decide (n - ta + gi ≤ 64) by simp [h1]]
    generalize n - ta + gi = q at *
    generalize n - ta = r at *
    go_enter Tryz.func58, Tryz.ntmps58
    go_wp2
    go_quiet (fail)
    go_wp2
    go_ret
    exact ⟨by rw [show decide ((q : Int) ≤ 64) = decide (q ≤ 64) from decide_eq_decide.2 (by omega)]; rfl, HB.out _ _⟩
  · have d1 : decide (ta ≤ n) = false := decide_eq_false h1
    rw [decide_eq_false (show ¬ (ta ≤ n ∧ n - ta + gi ≤ 64) from fun c => h1 c.1)]
    go_enter Tryz.func58, Tryz.ntmps58
    go_wp2
    go_quiet (fail)
    go_wp2
    go_ret
    exact ⟨rfl, HB.out _ _⟩
theorem bears_any (b op : Nat) (w : World) (ws : List Nat) (hop : op < 256) (h : RoS b w ws) :
    Calls Tryz.prog 58 #[.pointer (some ⟨b, 0, none⟩), .agg (infA op)] w fun e w' => e = .returned (.bool (brB ws op)) ∧ Below w.heap.size w w' :=
  bears_gen b op (opTa op) (opGi op) ws.length w h.lt h.cnt h.le (ta_small op hop).1 (ta_small op hop).2
end Go.Proofs.YtgbpfejodpplbaaGreatDoor
