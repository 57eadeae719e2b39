import Derived.Test.YtdpghhkimnifjaaCITab
import Derived.Test.YtdpghhkimnifjaaCPKp
import Derived.Test.YtdpghhkimnifjaaAHo
namespace Go.Proofs.Ytdpghhkimnifjaa
open Go.RowKit
set_option maxRecDepth 100000

def szV (op arg : Nat) : Nat := if isOp op = false then 0 else if opMo op < arg then 0 else 1 + opWi op
def erV (op arg : Nat) : Nat := if isOp op = false then 70 else if opMo op < arg then 71 else 0
theorem opWi_le (k : Nat) : opWi k ≤ 4 := by
  by_cases h : 1 ≤ k ∧ k ≤ 59
  · have : ∀ j, j < 60 → opWi j ≤ 4 := by decide
    exact this k (by omega)
  · rw [(opT_zero k h).2.1]; omega
theorem opMo_lt (k : Nat) : opMo k < 4294967296 := by
  by_cases h : 1 ≤ k ∧ k ≤ 59
  · have : ∀ j, j < 60 → opMo j < 4294967296 := by decide
    exact this k (by omega)
  · rw [(opT_zero k h).2.2.1]; omega
theorem szV_le (op arg : Nat) : szV op arg ≤ 5 := by
  unfold szV; have := opWi_le op; split
  · omega
  · split <;> omega
/-- a block keeps its cells -/
theorem cellB {w W : World} {cs : Array Value} {t : Nat} (h : Below (w.alloc (.cells cs t)).heap.size (w.alloc (.cells cs t)) W) (i : Nat) : W.cell? ⟨w.heap.size, i, none⟩ = cs[i]? := by
  refine (h.cell (p := ⟨w.heap.size, i, none⟩) (by simp)).trans ?_
  exact World.cell?_alloc_new _ _ _ _
theorem neB {w W : World} {o : Obj} (h : Below (w.alloc o).heap.size (w.alloc o) W) : ¬ w.heap.size = W.heap.size := by
  have := h.size; simp at this; omega
theorem cellC {w W : World} {cs : Array Value} {t : Nat} (h : Below (w.alloc (.cells cs t)).heap.size (w.alloc (.cells cs t)) W) (i : Nat) (v : Value) (hv : cs[i]? = some v) (o : Obj) : (W.alloc o).cell? ⟨w.heap.size, i, none⟩ = some v := by
  rw [World.cell?_alloc_old _ _ _ (by simpa using neB h), cellB h i, hv]
set_option maxHeartbeats 1000000 in
theorem sized_any (op arg : Nat) (w : World) (h : op < 256) :
    Calls Try.prog 29 #[.agg #[.int .u8 op, .int .u32 arg]] w fun e w' => e = .returned (.tuple #[.int .i64 (szV op arg), .int .i64 (erV op arg)]) ∧ Below w.heap.size w w' := by
  have hI := fun w => info_any op w h
  have hWi := opWi_le op
  have hMo := opMo_lt op
  unfold szV erV
  cases hb : isOp op
  · rw [hb] at hI
    generalize opWd op = a0 at *
    generalize opWi op = a1 at *
    generalize opMo op = a2 at *
    generalize opTa op = a3 at *
    generalize opGi op = a4 at *
    generalize opKi op = a5 at *
    clear hb
    go_enter Try.func29, Try.ntmps29
    go_wp2_with (go_at_call 20; refine (hI _).mono ?_; rintro e wq ⟨rfl, hq⟩; have c1 := cellC hq 1 _ rfl)
    go_ret2
    exact ⟨rfl, bel (bt (bel (Below.refl _ _)) hq)⟩
  · rw [hb] at hI
    generalize opWd op = a0 at *
    generalize opWi op = a1 at *
    generalize opMo op = a2 at *
    generalize opTa op = a3 at *
    generalize opGi op = a4 at *
    generalize opKi op = a5 at *
    clear hb
    by_cases hm : a2 < arg
    · rw [if_neg (by simp), if_pos hm, if_neg (by simp), if_pos hm]
      have hm' : (a2 : Int) < arg := by omega
      go_enter Try.func29, Try.ntmps29
      go_wp2_with (go_at_call 20; refine (hI _).mono ?_; rintro e wq ⟨rfl, hq⟩; have c1 := cellC hq 1 _ rfl)
      go_ret2
      exact ⟨rfl, bel (bt (bel (Below.refl _ _)) hq)⟩
    · rw [if_neg (by simp), if_neg hm, if_neg (by simp), if_neg hm]
      have hm' : ¬ (a2 : Int) < arg := by omega
      have hwr : wrap64 (1 + (a1 : Int)) = 1 + a1 := by unfold wrap64; omega
      go_enter Try.func29, Try.ntmps29
      go_wp2_with (go_at_call 20; refine (hI _).mono ?_; rintro e wq ⟨rfl, hq⟩; have c1 := cellC hq 1 _ rfl)
      go_ret2
      exact ⟨by rfl, bel (bt (bel (Below.refl _ _)) hq)⟩
end Go.Proofs.Ytdpghhkimnifjaa
namespace Go.Proofs.Ytdpghhkimnifjaa
open Go.RowKit Go.WideShapes
set_option maxRecDepth 100000

theorem dhid {p : Prop} (h : p) : Hid p := h
/-- a row of words in memory: 64 places and how many stand -/
structure RoS (b : Nat) (w : World) (ws : List Nat) : Prop where
  obj : ∃ cs : Array Value, w.heap[b]? = some (.cells cs 117 (0, 0)) ∧ cs.size = 65 ∧ cs[64]? = some (.int .i64 (ws.length : Int)) ∧ (∀ i, i < ws.length → cs[i]? = some (.int .u32 ((ws.getD i 0 : Nat) : Int)))
  le : ws.length ≤ 64
  bd : ∀ x ∈ ws, x < 4294967296
theorem RoS.lt {b : Nat} {w : World} {ws : List Nat} (h : RoS b w ws) : b < w.heap.size := by
  obtain ⟨cs, h1, _⟩ := h.obj
  exact (Array.getElem?_eq_some_iff.1 h1).1
theorem RoS.cnt {b : Nat} {w : World} {ws : List Nat} (h : RoS b w ws) : w.cell? ⟨b, 64, none⟩ = some (.int .i64 (ws.length : Int)) := by
  obtain ⟨cs, h1, _, h3, _⟩ := h.obj
  rw [obj_cell h1]; exact h3
theorem RoS.frz {b : Nat} {w : World} {ws : List Nat} (h : RoS b w ws) (i : Nat) : w.frozen? ⟨b, i, none⟩ = false := by
  obtain ⟨cs, h1, _⟩ := h.obj
  exact obj_frozen h1 i
theorem RoS.wd {b : Nat} {w : World} {ws : List Nat} (h : RoS b w ws) {i : Nat} (hi : i < ws.length) : w.cell? ⟨b, i, none⟩ = some (.int .u32 ((ws.getD i 0 : Nat) : Int)) := by
  obtain ⟨cs, h1, _, _, h4⟩ := h.obj
  rw [obj_cell h1]; exact h4 i hi
theorem RoS.there {b : Nat} {w : World} {ws : List Nat} (h : RoS b w ws) {i : Nat} (hi : i < 65) : ∃ v, w.cell? ⟨b, i, none⟩ = some v := by
  obtain ⟨cs, h1, h2, _⟩ := h.obj
  exact ⟨cs[i]'(by omega), by rw [obj_cell h1]; exact Array.getElem?_eq_getElem (by omega)⟩
theorem RoS.kept {b : Nat} {w w' : World} {ws : List Nat} (h : RoS b w ws) {S : Nat → Prop} (hk : Kp S w w') (hn : ¬ S b) : RoS b w' ws := by
  obtain ⟨cs, h1, h2⟩ := h.obj
  exact ⟨⟨cs, (hk.block b h.lt hn).trans h1, h2⟩, h.le, h.bd⟩
theorem getD_app_lt {ws : List Nat} {x i : Nat} (h : i < ws.length) : (ws ++ [x]).getD i 0 = ws.getD i 0 := by
  simp [List.getD, List.getElem?_append_left h]
theorem getD_app_eq (ws : List Nat) (x : Nat) : (ws ++ [x]).getD ws.length 0 = x := by
  simp [List.getD]
/-- a word is put on -/
theorem RoS.put {b : Nat} {w : World} {ws : List Nat} (h : RoS b w ws) {x : Nat} (hx : x < 4294967296) (hl : ws.length < 64) :
    RoS b ((w.setCell ⟨b, ws.length, none⟩ (.int .u32 (x : Int))).setCell ⟨b, 64, none⟩ (.int .i64 ((ws.length : Int) + 1))) (ws ++ [x]) := by
  obtain ⟨cs, h1, h2, h3, h4⟩ := h.obj
  have e1 := heap_setCell_same w b ws.length _ _ (.int .u32 (x : Int)) h1
  have e2 := heap_setCell_same _ b 64 _ _ (.int .i64 ((ws.length : Int) + 1)) e1
  refine ⟨⟨_, e2, by simp [h2], ?_, ?_⟩, by simp; omega, ?_⟩
  · rw [Array.getElem?_setIfInBounds_self_of_lt (by simp [h2])]
    simp
  · intro i hi
    simp only [List.length_append, List.length_cons, List.length_nil] at hi
    rw [Array.getElem?_setIfInBounds_ne (by omega)]
    by_cases hlt : i < ws.length
    · rw [Array.getElem?_setIfInBounds_ne (by omega), getD_app_lt hlt]
      exact h4 i hlt
    · have : i = ws.length := by omega
      subst this
      rw [Array.getElem?_setIfInBounds_self_of_lt (by omega), getD_app_eq]
  · intro y hy
    rw [List.mem_append, List.mem_singleton] at hy
    rcases hy with hy | rfl
    · exact h.bd y hy
    · exact hx
/-- a word is taken -/
theorem RoS.drop {b : Nat} {w : World} {ws : List Nat} {x : Nat} (h : RoS b w (ws ++ [x])) :
    RoS b (w.setCell ⟨b, 64, none⟩ (.int .i64 (ws.length : Int))) ws := by
  obtain ⟨cs, h1, h2, h3, h4⟩ := h.obj
  have e1 := heap_setCell_same w b 64 _ _ (.int .i64 (ws.length : Int)) h1
  have hle := h.le
  simp only [List.length_append, List.length_cons, List.length_nil] at hle
  refine ⟨⟨_, e1, by simp [h2], ?_, ?_⟩, by omega, fun y hy => h.bd y (List.mem_append_left _ hy)⟩
  · rw [Array.getElem?_setIfInBounds_self_of_lt (by omega)]
  · intro i hi
    rw [Array.getElem?_setIfInBounds_ne (by omega), ← getD_app_lt (x := x) hi]
    exact h4 i (by simp; omega)
theorem RoS.drewN {b : Nat} {w : World} {ws : List Nat} (h : RoS b w ws) (n : Nat) : RoS b (w.drewN n) ws := ⟨h.obj, h.le, h.bd⟩
theorem RoS.drew {b : Nat} {w : World} {ws : List Nat} (h : RoS b w ws) : RoS b w.drew ws := ⟨h.obj, h.le, h.bd⟩
set_option maxHeartbeats 4000000 in
theorem push_any (b x : Nat) (w : World) (ws : List Nat) (h : RoS b w ws) (hx : x < 4294967296) (hl : ws.length < 64) :
    Calls Try.prog 79 #[.pointer (some ⟨b, 0, none⟩), .int .u32 (x : Int)] w fun e w' => e = .returned (.tuple #[]) ∧ RoS b w' (ws ++ [x]) ∧ Kp (fun k => k = b) w w' := by
  have c64 := h.cnt
  obtain ⟨v, cn⟩ := h.there (i := ws.length) (by omega)
  have f64 := h.frz 64
  have fn := h.frz ws.length
  have HP := dhid ((h.put hx hl).drew)
  have hd : decide ((ws.length : Int) < 64) = true := by simp; omega
  have hlt : (ws.length : Int) < 64 := by omega
  have hne : ¬ ws.length = 64 := by omega
  clear h
  generalize hn : ws.length = n at *
  go_enter Try.func79, Try.ntmps79
  go_wp2
  go_region
  go_wp2
  first | go_end0 | refine bodyPost_ret (results_none rfl _ _ _) rfl ?_
  refine ⟨rfl, ?_, ?_⟩
  · exact HP.out
  · exact ⟨rfl, rfl, rfl, by simp, fun k hk hn => (Below.heap_setCell _ _ _ _ hn).trans (Below.heap_setCell _ _ _ _ hn)⟩
set_option maxHeartbeats 4000000 in
theorem pop_any (b x : Nat) (w : World) (ws : List Nat) (h : RoS b w (ws ++ [x])) :
    Calls Try.prog 80 #[.pointer (some ⟨b, 0, none⟩)] w fun e w' => e = .returned (.int .u32 (x : Int)) ∧ RoS b w' ws ∧ Kp (fun k => k = b) w w' := by
  have c64 := h.cnt
  have hle := h.le
  rw [List.length_append, List.length_singleton] at c64 hle
  have cn := h.wd (i := ws.length) (by simp)
  rw [getD_app_eq] at cn
  have f64 := h.frz 64
  have HP := dhid (fun n => h.drop.drewN n)
  have hd : decide ((ws.length : Int) < 64) = true := by simp; omega
  have hlt : (ws.length : Int) < 64 := by omega
  have hne : ¬ ws.length = 64 := by omega
  have hne' : ¬ 64 = ws.length := by omega
  clear h
  generalize hn : ws.length = n at *
  go_enter Try.func80, Try.ntmps80
  go_wp2
  go_quiet (fail)
  go_wp2
  go_ret
  refine ⟨rfl, ?_, ?_⟩
  · exact HP.out _
  · exact ⟨rfl, rfl, rfl, by simp, fun k hk hn => Below.heap_setCell _ _ _ _ hn⟩
set_option maxHeartbeats 4000000 in
theorem pop2_any (b x y : Nat) (w : World) (ws : List Nat) (h : RoS b w (ws ++ [x] ++ [y])) :
    Calls Try.prog 78 #[.pointer (some ⟨b, 0, none⟩)] w fun e w' => e = .returned (.tuple #[.int .u32 (x : Int), .int .u32 (y : Int)]) ∧ RoS b w' ws ∧ Kp (fun k => k = b) w w' := by
  have H1 := dhid (pop_any b y w (ws ++ [x]) h)
  have H2 := dhid (fun w' => pop_any b x w' ws)
  clear h
  go_enter Try.func78, Try.ntmps78
  go_wp2_with (go_at_call 80; first | (refine H1.out.mono ?_; rintro e w1 ⟨rfl, h1, k1⟩) | (refine (H2.out _ h1).mono ?_; rintro e w2 ⟨rfl, h2, k2⟩))
  go_ret2
  exact ⟨rfl, h2, k1.trans k2 (fun _ _ e => e)⟩
end Go.Proofs.Ytdpghhkimnifjaa
namespace Go.Proofs.Ytdpghhkimnifjaa
open Go.RowKit Go.WideShapes
set_option maxRecDepth 100000

theorem unV_lt (op a : Nat) (ha : a < 4294967296) : unV op a < 4294967296 := by
  unfold unV
  repeat' split
  all_goals first | (unfold sex8; split <;> omega) | (unfold sex16; split <;> omega) | exact tn_lt ha | exact fof_lt _ | omega
theorem pow_div_le (a b : Nat) : a / 2 ^ (b % 32) ≤ a := Nat.div_le_self _ _
theorem ite_lt' {c : Prop} [Decidable c] {x y n : Nat} (hx : x < n) (hy : y < n) : (if c then x else y) < n := by split <;> assumption
theorem binV_lt (op a b : Nat) (ha : a < 4294967296) (hb : b < 4294967296) : binV op a b < 4294967296 := by
  have h1 := Nat.and_le_left (n := a) (m := b)
  have h2 : a ||| b < 2 ^ 32 := Nat.or_lt_two_pow (by omega) (by omega)
  have h3 : a ^^^ b < 2 ^ 32 := Nat.xor_lt_two_pow (by omega) (by omega)
  have h4 := Nat.div_le_self a b
  have h5 := Nat.mod_le a b
  have h6 := pow_div_le a b
  unfold binV
  repeat' refine ite_lt' ?_ ?_
  all_goals first | exact fsum_lt _ _ | exact fmul_lt _ _ | exact fdiv_lt _ _ | omega
theorem last_cut (ws : List Nat) (h : 0 < ws.length) : ws = ws.dropLast ++ [ws.getLastD 0] := by
  cases ws with
  | nil => simp at h
  | cons x xs => simp [List.getLastD_eq_getLast?, List.getLast?_eq_some_getLast, List.dropLast_concat_getLast]
theorem dropLast_len (ws : List Nat) : ws.dropLast.length = ws.length - 1 := by simp
theorem dropLast_bd {ws : List Nat} (h : ∀ x ∈ ws, x < 4294967296) : ∀ x ∈ ws.dropLast, x < 4294967296 := fun x hx => h x (List.dropLast_subset _ hx)
theorem getLastD_bd {ws : List Nat} (h : ∀ x ∈ ws, x < 4294967296) : ws.getLastD 0 < 4294967296 := by
  by_cases hl : 0 < ws.length
  · exact h _ (by rw [last_cut ws hl]; simp)
  · have : ws = [] := List.length_eq_zero_iff.1 (by omega)
    subst this; decide
/-- what layer 6 makes of the last words -/
def wkV (ws : List Nat) (op : Nat) : Option (List Nat) :=
  if opTa op = 1 then (if unE op = 0 then some (ws.dropLast ++ [unV op (ws.getLastD 0)]) else none)
  else if opTa op = 2 then (if binE op (ws.getLastD 0) = 0 then some (ws.dropLast.dropLast ++ [binV op (ws.dropLast.getLastD 0) (ws.getLastD 0)]) else none)
  else none
/-- what an instruction that is no comparison makes of the words -/
def plV (ws : List Nat) (op arg : Nat) : Option (List Nat) :=
  if op = 1 then some ws else if op = 8 then some (ws ++ [arg]) else if op = 10 then some ws.dropLast else if op = 11 then some (ws.dropLast ++ [ws.getLastD 0] ++ [ws.getLastD 0]) else wkV ws op
/-- the words that are taken are there, and places for those that are given -/
def brB (ws : List Nat) (op : Nat) : Bool := decide (opTa op ≤ ws.length ∧ ws.length - opTa op + opGi op ≤ 64)
def leftV (ws : List Nat) (len : Nat) : Nat × Nat × Nat := if ws.length = 0 then (len, 4, 0) else (len, 2, ws.getD 0 0)
def cmpV (ws : List Nat) (op arg len : Nat) : Nat × Nat × Nat := if hoV op (ws.getD 0 0) (ws.getD 1 0) then (len, 3, arg) else (len, 4, 0)
/-- the row is played on, as far as it goes: the last closed one -/
def lgF : List (Nat × Nat) → List Nat → Nat → Nat × Nat × Nat → Nat × Nat × Nat
  | [], _, _, c => c
  | p :: r, ws, i, c =>
    if erV p.1 p.2 = 0 ∧ brB ws p.1 = true then
      (if opKi p.1 = 2 then (if ws.length = opTa p.1 then cmpV ws p.1 p.2 (i + 1) else c)
       else match plV ws p.1 p.2 with
        | none => c
        | some ws' => lgF r ws' (i + 1) (if 0 < i ∧ ws'.length ≤ 1 then leftV ws' (i + 1) else c))
    else c
/-- the longest piece of a stretch: its length, kind and value -/
def lgV (L : List (Nat × Nat)) : Nat × Nat × Nat := lgF L [] 0 (1, 1, 0)
theorem ta_small : ∀ op, op < 256 → opTa op ≤ 2000000 ∧ opGi op ≤ 2000000 := by decide +kernel
theorem ta_cmp : ∀ op, op < 256 → opKi op = 2 → opTa op = 2 := by decide +kernel
theorem ta_8 : opTa 8 = 0 ∧ opGi 8 = 1 := by decide +kernel
theorem ta_10 : opTa 10 = 1 := by decide +kernel
theorem ta_11 : opTa 11 = 1 ∧ opGi 11 = 2 := by decide +kernel
end Go.Proofs.Ytdpghhkimnifjaa
