import Derived.Test.YtnalnlbainghoaaGreatDoorPKp
namespace Go.Proofs.YtnalnlbainghoaaGreatDoor
open Go.RowKit Go.WideShapes
set_option maxRecDepth 100000

theorem Tryz.infoU : (Tryz.prog.info? 77).map (fun i => (i.zero, i.size, i.bytes)) = some (some (.int .u64 0), 1, 8) := by kernel_rfl
/-- words as values -/
def uv (ws : List Nat) : List Value := ws.map fun (z : Nat) => Value.int .u64 (z : Int)
theorem uv_len (ws : List Nat) : (uv ws).length = ws.length := by simp [uv]
/-- a set in memory: its object, its words -/
structure SetR (w : World) (p g bound : Nat) (ws : List Nat) (n : Nat) : Prop where
  obj : w.heap[p]? = some (.cells #[.pointer (some ⟨p, 0, none⟩), .int .i64 bound, .slice (some ⟨g, 0, none⟩) ws.length ws.length, .int .i64 n] 163 (0, 0))
  row : w.ownsRow 0 77 1 (.slice (some ⟨g, 0, none⟩) ws.length ws.length) ws.length (uv ws)
  ne : p ≠ g
  len : ws.length = (bound + 63) / 64
  bd : bound ≤ 1048576
  wf : ∀ z ∈ ws, z < 2 ^ 64
  hi : ∀ x, hasW ws x = true → x < bound
/-- a set whose count is right -/
abbrev SetS (w : World) (p g bound : Nat) (ws : List Nat) : Prop := SetR w p g bound ws (els bound (hasW ws)).length
theorem SetR.kept {S : Nat → Prop} {w w' : World} {p g bound : Nat} {ws : List Nat} {n : Nat} (h : SetR w p g bound ws n) (hk : Kp S w w') (hp : ¬ S p) (hg : ¬ S g) : SetR w' p g bound ws n :=
  ⟨by rw [hk.block p (Array.getElem?_eq_some_iff.1 h.obj).1 hp]; exact h.obj, hk.own h.row (fun k e => by cases e; exact hg), h.ne, h.len, h.bd, h.wf, h.hi⟩
theorem SetR.ltp {w : World} {p g bound : Nat} {ws : List Nat} {n : Nat} (h : SetR w p g bound ws n) : p < w.heap.size := (Array.getElem?_eq_some_iff.1 h.obj).1
theorem SetR.ltg {w : World} {p g bound : Nat} {ws : List Nat} {n : Nat} (h : SetR w p g bound ws n) : g < w.heap.size := (h.row.lt g rfl).2
theorem seq_self (a : Nat) (w : World) : (binOp .eql 116 (.pointer (some ⟨a, 0, none⟩)) (.pointer (some ⟨a, 0, none⟩))).run Tryz.prog w = .ok (.bool true) w := by
  have h : (Tryz.prog.info? 163).map (·.size) = some 4 := by kernel_rfl
  cases hi : Tryz.prog.info? 163 with
  | none => rw [hi] at h; cases h
  | some i => exact run_eql_ptr_same w ⟨a, 0, none⟩ Tryz.underlying116 hi
theorem smade_any (a : Nat) (w : World) (hc : w.cell? ⟨a, 0, none⟩ = some (.pointer (some ⟨a, 0, none⟩))) :
    Calls Tryz.prog 132 #[.pointer (some ⟨a, 0, none⟩)] w fun e w' => e = .returned (.bool true) ∧ w' = w := by
  have hq := seq_self a w
  go_enter Tryz.func132, Tryz.ntmps132
  go_wp2
  go_ret
  exact ⟨rfl, rfl⟩
theorem sfor_any (a : Nat) (bound x : Nat) (w : World) (hx : x < 4294967296) (hc : w.cell? ⟨a, 0, none⟩ = some (.pointer (some ⟨a, 0, none⟩))) (hb1 : w.cell? ⟨a, 1, none⟩ = some (.int .i64 bound)) :
    Calls Tryz.prog 97 #[.pointer (some ⟨a, 0, none⟩), .int .u32 x] w fun e w' => e = .returned (.bool (decide (x < bound))) ∧ w' = w := by
  go_enter Tryz.func97, Tryz.ntmps97
  go_wp2_with (go_at_call 132; refine (smade_any _ _ hc).mono ?_; rintro e w' ⟨rfl, hw'⟩; subst hw')
  go_ret
  exact ⟨rfl, rfl⟩
theorem SetR.c0 {w : World} {p g bound : Nat} {ws : List Nat} {n : Nat} (h : SetR w p g bound ws n) : w.cell? ⟨p, 0, none⟩ = some (.pointer (some ⟨p, 0, none⟩)) := obj_cell h.obj 0
theorem SetR.c1 {w : World} {p g bound : Nat} {ws : List Nat} {n : Nat} (h : SetR w p g bound ws n) : w.cell? ⟨p, 1, none⟩ = some (.int .i64 bound) := obj_cell h.obj 1
theorem SetR.c2 {w : World} {p g bound : Nat} {ws : List Nat} {n : Nat} (h : SetR w p g bound ws n) : w.cell? ⟨p, 2, none⟩ = some (.slice (some ⟨g, 0, none⟩) ws.length ws.length) := obj_cell h.obj 2
theorem SetR.c3 {w : World} {p g bound : Nat} {ws : List Nat} {n : Nat} (h : SetR w p g bound ws n) : w.cell? ⟨p, 3, none⟩ = some (.int .i64 n) := obj_cell h.obj 3
theorem SetR.word {w : World} {p g bound : Nat} {ws : List Nat} {n : Nat} (h : SetR w p g bound ws n) {i : Nat} (hi : i < ws.length) : w.cell? ⟨g, i, none⟩ = some (.int .u64 ((ws.getD i 0 : Nat) : Int)) := by
  rw [h.row.cellAt i (by omega)]
  simp [uv, hi]
theorem SetR.top {w : World} {p g bound : Nat} {ws : List Nat} {n : Nat} (h : SetR w p g bound ws n) {x : Nat} (hx : x < bound) : x / 64 < ws.length := by have := h.len; omega
theorem nat_u64 (a : Nat) (ha : a < 18446744073709551616) : (BitVec.ofInt 64 (a : Int)).toNat = a := by
  rw [BitVec.ofInt_natCast, BitVec.toNat_ofNat]; exact Nat.mod_eq_of_lt (by omega)
theorem and_u64 (a b : Nat) (ha : a < 18446744073709551616) (hb : b < 18446744073709551616) : bits .and .u64 (a : Int) (b : Int) = ((a &&& b : Nat) : Int) := by
  have hx : a &&& b < 2 ^ 64 := Nat.and_lt_two_pow _ (by omega)
  show IntKind.u64.wrap ((BitVec.ofInt 64 (a : Int) &&& BitVec.ofInt 64 (b : Int)).toNat : Int) = _
  rw [BitVec.toNat_and, nat_u64 a ha, nat_u64 b hb, IntKind.wrap_u64]
  omega
theorem xor_u64 (a b : Nat) (ha : a < 18446744073709551616) (hb : b < 18446744073709551616) : bits .xor .u64 (a : Int) (b : Int) = ((a ^^^ b : Nat) : Int) := by
  have hx : a ^^^ b < 2 ^ 64 := Nat.xor_lt_two_pow (by omega) (by omega)
  show IntKind.u64.wrap ((BitVec.ofInt 64 (a : Int) ^^^ BitVec.ofInt 64 (b : Int)).toNat : Int) = _
  rw [BitVec.toNat_xor, nat_u64 a ha, nat_u64 b hb, IntKind.wrap_u64]
  omega
theorem bit_u64 (z j : Nat) (hz : z < 18446744073709551616) : (bits .and .u64 ((z : Int) / 2 ^ j) 1 == 1) = z.testBit j := by
  have h0 : ((z : Int) / 2 ^ j) = ((z >>> j : Nat) : Int) := by rw [Nat.shiftRight_eq_div_pow]; norm_cast
  have hx : z >>> j < 18446744073709551616 := by rw [Nat.shiftRight_eq_div_pow]; exact Nat.lt_of_le_of_lt (Nat.div_le_self _ _) hz
  rw [h0, show (1 : Int) = ((1 : Nat) : Int) from rfl, and_u64 _ _ hx (by decide), Nat.testBit, Nat.and_comm]
  have h1 := Nat.and_one_is_mod (z >>> j)
  rcases Nat.mod_two_eq_zero_or_one (z >>> j) with e | e <;> rw [e] at h1 <;> rw [Nat.and_comm 1, h1] <;> rfl
set_option maxHeartbeats 1000000 in
theorem has_any (p g bound x n : Nat) (ws : List Nat) (w : World) (hx : x < 4294967296) (h : SetR w p g bound ws n) :
    Calls Tryz.prog 79 #[.pointer (some ⟨p, 0, none⟩), .int .u32 x] w fun e w' => e = .returned (.bool (hasW ws x)) ∧ w' = w := by
  have hF := sfor_any p bound x w hx h.c0 h.c1
  have c2 := h.c2
  have c0 := h.c0
  by_cases hlt : x < bound
  · have ht := h.top hlt
    have hw := h.word ht
    have hd : decide (x < bound) = true := by simp [hlt]
    rw [hd] at hF
    have hz : hasW ws x = (ws.getD (x / 64) 0).testBit (x % 64) := rfl
    have hwl : ws.getD (x / 64) 0 < 18446744073709551616 := by
      rw [List.getD_eq_getElem?_getD, List.getElem?_eq_getElem ht]
      exact h.wf _ (List.getElem_mem ht)
    generalize ws.getD (x / 64) 0 = z at hw hz hwl
    go_enter Tryz.func79, Tryz.ntmps79
    go_wp2_with (go_at_call 97; refine hF.mono ?_; rintro e w' ⟨rfl, hw'⟩; subst hw')
    go_ret
    rw [hz, ← bit_u64 z (x % 64) hwl]
    exact ⟨rfl, rfl⟩
  · have hd : decide (x < bound) = false := by simp [hlt]
    rw [hd] at hF
    have hH : hasW ws x = false := by
      cases he : hasW ws x with
      | false => rfl
      | true => exact absurd (h.hi x he) hlt
    go_enter Tryz.func79, Tryz.ntmps79
    go_wp2_with (go_at_call 97; refine hF.mono ?_; rintro e w' ⟨rfl, hw'⟩; subst hw')
    go_ret
    rw [hH]
    exact ⟨rfl, rfl⟩
theorem SetR.flip {w : World} {p g bound : Nat} {ws : List Nat} {n x : Nat} (h : SetR w p g bound ws n) (hx : x < bound) :
    SetR ((w.setCell ⟨g, x / 64, none⟩ (.int .u64 ((ws.getD (x / 64) 0 ^^^ 2 ^ (x % 64) : Nat) : Int))).drew) p g bound (flipW ws x) n := by
  have ht := h.top hx
  refine ⟨?_, ?_, h.ne, by rw [flipW_len]; exact h.len, h.bd, flipW_lt h.wf, fun y hy => ?_⟩
  · rw [flipW_len]
    exact (Below.heap_setCell w ⟨g, x / 64, none⟩ _ p h.ne).trans h.obj
  · rw [flipW_len]
    have := (h.row.stored (x / 64) (.int .u64 ((ws.getD (x / 64) 0 ^^^ 2 ^ (x % 64) : Nat) : Int))).1
    rw [show uv (flipW ws x) = (uv ws).set (x / 64) (.int .u64 ((ws.getD (x / 64) 0 ^^^ 2 ^ (x % 64) : Nat) : Int)) by simp [uv, flipW, List.map_set]]
    exact this
  · rw [hasW_flip ht] at hy
    by_cases he : y = x
    · omega
    · simp [he] at hy; exact h.hi y hy
theorem SetR.recount {w : World} {p g bound : Nat} {ws : List Nat} {n : Nat} (h : SetR w p g bound ws n) (m : Nat) : SetR (w.setCell ⟨p, 3, none⟩ (.int .i64 m)) p g bound ws m := by
  refine ⟨?_, ?_, h.ne, h.len, h.bd, h.wf, h.hi⟩
  · rw [heap_setCell_same w p 3 _ _ _ h.obj]
    rfl
  · exact (Kp.setCell (S := fun k => k = p) w ⟨p, 3, none⟩ _ rfl).own h.row (fun k e => by cases e; exact fun e => h.ne e.symm)
set_option maxHeartbeats 1000000 in
theorem turn_any (p g bound x n : Nat) (ws : List Nat) (w : World) (hx : x < bound) (h : SetR w p g bound ws n) :
    Calls Tryz.prog 98 #[.pointer (some ⟨p, 0, none⟩), .int .u32 x] w fun e w' => e = .returned (.tuple #[]) ∧ SetR w' p g bound (flipW ws x) n ∧ Kp (fun k => k = p ∨ k = g) w w' ∧ w'.heap.size = w.heap.size := by
  have HF := hidS (h.flip hx)
  have c2 := h.c2
  have ht := h.top hx
  have hw := h.word ht
  have fz := h.row.frozenAt (x / 64)
  have hb := h.bd
  have hwl : ws.getD (x / 64) 0 < 18446744073709551616 := by
    rw [List.getD_eq_getElem?_getD, List.getElem?_eq_getElem ht]
    exact h.wf _ (List.getElem_mem ht)
  generalize ws.getD (x / 64) 0 = z at hw hwl HF
  have hp : 2 ^ (x % 64) < 2 ^ 64 := Nat.pow_lt_pow_right (by decide) (Nat.mod_lt _ (by decide))
  have hx1 : bits .xor .u64 (z : Int) (IntKind.u64.wrap (2 ^ (x % 64))) = ((z ^^^ 2 ^ (x % 64) : Nat) : Int) := by
    rw [← xor_u64 z (2 ^ (x % 64)) hwl (by omega), IntKind.wrap_u64]
    congr 1
    have : (2 : Int) ^ (x % 64) = ((2 ^ (x % 64) : Nat) : Int) := by norm_cast
    rw [this]
    generalize 2 ^ (x % 64) = y at hp
    omega
  have HX := hidS hx1
  clear h hp hx1
  go_enter Tryz.func98, Tryz.ntmps98
  go_wp2
  go_region
  rw [HX.out]
  go_end0
  exact ⟨rfl, HF.out, ⟨rfl, rfl, rfl, by simp, fun k hk hn => Below.heap_setCell _ _ _ _ (fun e => hn (.inr e))⟩, by simp⟩
theorem els_flip_put {ws : List Nat} {bound x : Nat} (hb : ws.length = (bound + 63) / 64) (hx : x < bound) (hn : hasW ws x = false) : (els bound (hasW (flipW ws x))).length = (els bound (hasW ws)).length + 1 := by
  have := els_put bound (hasW ws) (hasW (flipW ws x)) x (fun y => by rw [hasW_flip (by omega)]; by_cases he : y = x <;> simp [he, hn]) hn
  rw [if_pos hx] at this
  exact this
theorem els_flip_drop {ws : List Nat} {bound x : Nat} (hb : ws.length = (bound + 63) / 64) (hx : x < bound) (hn : hasW ws x = true) : (els bound (hasW ws)).length = (els bound (hasW (flipW ws x))).length + 1 := by
  have := els_put bound (hasW (flipW ws x)) (hasW ws) x (fun y => by rw [hasW_flip (by omega)]; by_cases he : y = x <;> simp [he, hn]) (by rw [hasW_flip (by omega)]; simp [hn])
  rw [if_pos hx] at this
  exact this
theorem els_le (n : Nat) (p : Nat → Bool) : (els n p).length ≤ n := by
  have := List.length_filter_le p (List.range n)
  rw [List.length_range] at this
  exact this
/-- a number put in -/
def putW (bound : Nat) (ws : List Nat) (x : Nat) : List Nat := if x < bound ∧ hasW ws x = false then flipW ws x else ws
/-- a number taken out -/
def dropW (ws : List Nat) (x : Nat) : List Nat := if hasW ws x = true then flipW ws x else ws
set_option maxHeartbeats 1000000 in
theorem add_any (p g bound x : Nat) (ws : List Nat) (w : World) (hx : x < 4294967296) (h : SetS w p g bound ws) :
    Calls Tryz.prog 67 #[.pointer (some ⟨p, 0, none⟩), .int .u32 x] w fun e w' => e = .returned (.bool (decide (x < bound) && !hasW ws x)) ∧ SetS w' p g bound (putW bound ws x) ∧ Kp (fun k => k = p ∨ k = g) w w' ∧ w'.heap.size = w.heap.size := by
  have hF := sfor_any p bound x w hx h.c0 h.c1
  have hH := has_any p g bound x _ ws w hx h
  by_cases hlt : x < bound
  · have hd : decide (x < bound) = true := by simp [hlt]
    rw [hd] at hF ⊢
    cases he : hasW ws x with
    | true =>
      rw [he] at hH
      go_enter Tryz.func67, Tryz.ntmps67
      go_wp2_with (first | (go_at_call 97; refine hF.mono ?_; rintro e w' ⟨rfl, hw'⟩; subst hw') | (go_at_call 79; refine hH.mono ?_; rintro e w2 ⟨rfl, hw2⟩; subst hw2))
      go_ret
      refine ⟨rfl, ?_, Kp.refl _ _, rfl⟩
      rw [putW, if_neg (by simp [he])]
      exact h
    | false =>
      rw [he] at hH
      have hT := turn_any p g bound x _ ws w hlt h
      have HC := hidS (els_flip_put h.len hlt he)
      have HB := hidS (els_le bound (hasW ws))
      have hbd := h.bd
      generalize (els bound (hasW ws)).length = n at hT HC HB
      go_enter Tryz.func67, Tryz.ntmps67
      go_wp2_with (first | (go_at_call 97; refine hF.mono ?_; rintro e w' ⟨rfl, hw'⟩; subst hw') | (go_at_call 79; refine hH.mono ?_; rintro e w2 ⟨rfl, hw2⟩; subst hw2) | (go_at_call 98; refine hT.mono ?_; rintro e w3 ⟨rfl, hq, hk, hz⟩; have c3 := hq.c3; have f3 := obj_frozen hq.obj 3; have hnb : n ≤ 1048576 := by (have := HB.out; omega)))
      go_ret
      refine ⟨rfl, ?_, hk.trans (Kp.setCell (S := fun k => k = p ∨ k = g) _ _ _ (.inl rfl)) (fun _ _ e => e), by simp [hz]⟩
      have := hq.recount (n + 1)
      rw [putW, if_pos ⟨hlt, he⟩]
      unfold SetS
      rw [HC.out]
      exact this
  · have hd : decide (x < bound) = false := by simp [hlt]
    rw [hd] at hF ⊢
    go_enter Tryz.func67, Tryz.ntmps67
    go_wp2_with (first | (go_at_call 97; refine hF.mono ?_; rintro e w' ⟨rfl, hw'⟩; subst hw'))
    go_ret
    refine ⟨rfl, ?_, Kp.refl _ _, rfl⟩
    rw [putW, if_neg (by simp [hlt])]
    exact h
theorem len_any (p g bound n : Nat) (ws : List Nat) (w : World) (h : SetR w p g bound ws n) :
    Calls Tryz.prog 200 #[.pointer (some ⟨p, 0, none⟩)] w fun e w' => e = .returned (.int .i64 n) ∧ w' = w := by
  have hM := smade_any p w h.c0
  have c3 := h.c3
  go_enter Tryz.func200, Tryz.ntmps200
  go_wp2_with (go_at_call 132; refine hM.mono ?_; rintro e w2 ⟨rfl, hw2⟩; subst hw2)
  go_ret
  exact ⟨rfl, rfl⟩
theorem held_any (p g bound n : Nat) (ws : List Nat) (w : World) (h : SetR w p g bound ws n) :
    Calls Tryz.prog 100 #[.pointer (some ⟨p, 0, none⟩)] w fun e w' => e = .returned (.slice (some ⟨g, 0, none⟩) ws.length ws.length) ∧ w' = w := by
  have hM := smade_any p w h.c0
  have c2 := h.c2
  go_enter Tryz.func100, Tryz.ntmps100
  go_wp2_with (go_at_call 132; refine hM.mono ?_; rintro e w2 ⟨rfl, hw2⟩; subst hw2)
  go_ret
  exact ⟨rfl, rfl⟩
theorem makeU_any (n : Nat) (hn : n ≤ 70000) (w : World) : ∃ w', (Instr.makeSlice 161 (.int .i64 (n : Int)) (.int .i64 (n : Int))).run Tryz.prog w = .ok (.slice (some ⟨w.heap.size, 0, none⟩) n n) w' ∧
    w'.ownsRow w.heap.size 77 1 (.slice (some ⟨w.heap.size, 0, none⟩) n n) n (uv (List.replicate n 0)) ∧ Below w.heap.size w w' := by
  obtain ⟨i0, hi, hz0, hz1, hz2⟩ := info_parts Tryz.infoU
  obtain ⟨w', h1, h2, h3⟩ := run_make_full (P := Tryz.prog) w w.heap.size 161 77 i0 (.int .u64 0) 1 Tryz.underlying161 hi hz0 hz1 .i64 .i64 n (by rw [hz2]; omega) (by unfold maxLen; omega) (Nat.le_refl _)
  refine ⟨w', h1, ?_, ⟨h3.os, h3.tape, h3.output, h3.size, fun k hk => h3.block k hk (by simp)⟩⟩
  rw [Nat.mul_one, show (Value.int IntKind.u64 0).cells = #[.int .u64 0] from rfl, toList_madeCells_one] at h2
  rw [show uv (List.replicate n 0) = List.replicate n (Value.int .u64 0) by simp [uv]]
  exact h2
set_option maxHeartbeats 1000000 in
theorem newset_any (bound : Nat) (w : World) (hb : bound ≤ 1048576) :
    Calls Tryz.prog 96 #[.int .i64 bound] w fun e w' => ∃ p g, e = .returned (.tuple #[.pointer (some ⟨p, 0, none⟩), .int .i64 0]) ∧ SetS w' p g bound (List.replicate ((bound + 63) / 64) 0) ∧ w.heap.size ≤ p ∧ w.heap.size ≤ g ∧ Below w.heap.size w w' := by
  obtain ⟨n, hn⟩ : ∃ n, (bound + 63) / 64 = n := ⟨_, rfl⟩
  obtain ⟨w1, hm, hrow, hB⟩ := makeU_any n (by omega) w
  have hq : ((bound : Int) + 64 - 1) / 64 = (n : Int) := by omega
  have HR := hidS hrow
  have HB := hidS hB
  go_enter Tryz.func96, Tryz.ntmps96
  go_wp2
  go_ret2
  have hR := HR.out
  have hgl := (hR.lt w.heap.size rfl).2
  refine ⟨w1.heap.size, w.heap.size, rfl, ⟨?_, ?_, by omega, by simp, hb, by intro z hz; rw [List.eq_of_mem_replicate hz]; decide, fun x hx => by rw [hasW_zeros] at hx; cases hx⟩, by omega, Nat.le_refl _, HB.out.alloc HB.out.size _⟩
  · rw [hn, List.length_replicate]
    have e0 : (els bound (hasW (List.replicate n 0))).length = 0 := by
      unfold els
      rw [List.filter_eq_nil_iff.2 (fun x _ => by rw [hasW_zeros]; simp)]
      rfl
    rw [e0]
    exact heap_alloc_new w1 _
  · rw [hn, List.length_replicate]
    exact (Kp.alloc (S := fun _ => False) w1 _).own (own_base hR (Nat.zero_le _)) (fun _ _ h => h)
/-- words that are read -/
def URd (w : World) (b off : Nat) (ws : List Nat) : Prop := ∀ i, i < ws.length → w.cell? ⟨b, off + i, none⟩ = some (.int .u64 ((ws.getD i 0 : Nat) : Int))
theorem SetR.reads {w : World} {p g bound : Nat} {ws : List Nat} {n : Nat} (h : SetR w p g bound ws n) : URd w g 0 ws := fun i hi => by rw [Nat.zero_add]; exact h.word hi
theorem URd.take {w : World} {b off : Nat} {ws : List Nat} (h : URd w b off ws) (k : Nat) : URd w b off (ws.take k) := fun i hi => by
  rw [List.length_take] at hi
  rw [h i (by omega)]
  simp [show i < k by omega]
theorem URd.drop {w : World} {b off : Nat} {ws : List Nat} (h : URd w b off ws) (k : Nat) : URd w b (off + k) (ws.drop k) := fun i hi => by
  rw [List.length_drop] at hi
  rw [Nat.add_assoc, h (k + i) (by omega)]
  simp [List.getElem?_drop]
theorem take_snocN (zs : List Nat) (k : Nat) (h : k < zs.length) : zs.take (k + 1) = zs.take k ++ [zs.getD k 0] := by
  rw [List.take_succ_eq_append_getElem h]
  simp [List.getD, List.getElem?_eq_getElem h]
/-- no word is set -/
def nilW (ws : List Nat) : Bool := ws.all fun z => decide (z = 0)
end Go.Proofs.YtnalnlbainghoaaGreatDoor
