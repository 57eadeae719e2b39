import Derived.Test.YtcielbkfolklbaaGreatDoorPKp
namespace Go.Proofs.YtcielbkfolklbaaGreatDoor
open Go.RowKit Go.WideShapes
set_option maxRecDepth 100000

theorem Tryz.infoU : (Tryz.prog.info? 227).map (fun i => (i.zero, i.size, i.bytes)) = some (some (.int .u64 0), 1, 8) := by kernel_rfl
/-- words as values -/
def uv (ws : List Nat) : List Value := ws.map fun (z : Nat) => Value.int .u64 (z : Int)
theorem uv_len (ws : List Nat) : (uv ws).length = ws.length := by simp [uv]
/-- a set in memory: its object, its words -/
structure SetR (w : World) (p g bound : Nat) (ws : List Nat) (n : Nat) : Prop where
  obj : w.heap[p]? = some (.cells #[.pointer (some ⟨p, 0, none⟩), .int .i64 bound, .slice (some ⟨g, 0, none⟩) ws.length ws.length, .int .i64 n] 257 (0, 0))
  row : w.ownsRow 0 227 1 (.slice (some ⟨g, 0, none⟩) ws.length ws.length) ws.length (uv ws)
  ne : p ≠ g
  len : ws.length = (bound + 63) / 64
  bd : bound ≤ 1048576
  wf : ∀ z ∈ ws, z < 2 ^ 64
  hi : ∀ x, hasW ws x = true → x < bound
/-- a set whose count is right -/
abbrev SetS (w : World) (p g bound : Nat) (ws : List Nat) : Prop := SetR w p g bound ws (els bound (hasW ws)).length
theorem SetR.kept {S : Nat → Prop} {w w' : World} {p g bound : Nat} {ws : List Nat} {n : Nat} (h : SetR w p g bound ws n) (hk : Kp S w w') (hp : ¬ S p) (hg : ¬ S g) : SetR w' p g bound ws n :=
  ⟨by rw [hk.block p (Array.getElem?_eq_some_iff.1 h.obj).1 hp]; exact h.obj, hk.own h.row (fun k e => by cases e; exact hg), h.ne, h.len, h.bd, h.wf, h.hi⟩
theorem SetR.ltp {w : World} {p g bound : Nat} {ws : List Nat} {n : Nat} (h : SetR w p g bound ws n) : p < w.heap.size := (Array.getElem?_eq_some_iff.1 h.obj).1
theorem SetR.ltg {w : World} {p g bound : Nat} {ws : List Nat} {n : Nat} (h : SetR w p g bound ws n) : g < w.heap.size := (h.row.lt g rfl).2
theorem seq_self (a : Nat) (w : World) : (binOp .eql 243 (.pointer (some ⟨a, 0, none⟩)) (.pointer (some ⟨a, 0, none⟩))).run Tryz.prog w = .ok (.bool true) w := by
  have h : (Tryz.prog.info? 257).map (·.size) = some 4 := by kernel_rfl
  cases hi : Tryz.prog.info? 257 with
  | none => rw [hi] at h; cases h
  | some i => exact run_eql_ptr_same w ⟨a, 0, none⟩ Tryz.underlying243 hi
theorem smade_any (a : Nat) (w : World) (hc : w.cell? ⟨a, 0, none⟩ = some (.pointer (some ⟨a, 0, none⟩))) :
    Calls Tryz.prog 191 #[.pointer (some ⟨a, 0, none⟩)] w fun e w' => e = .returned (.bool true) ∧ w' = w := by
  have hq := seq_self a w
  go_enter Tryz.func191, Tryz.ntmps191
  go_wp2
  go_ret
  exact ⟨rfl, rfl⟩
theorem sfor_any (a : Nat) (bound x : Nat) (w : World) (hx : x < 4294967296) (hc : w.cell? ⟨a, 0, none⟩ = some (.pointer (some ⟨a, 0, none⟩))) (hb1 : w.cell? ⟨a, 1, none⟩ = some (.int .i64 bound)) :
    Calls Tryz.prog 185 #[.pointer (some ⟨a, 0, none⟩), .int .u32 x] w fun e w' => e = .returned (.bool (decide (x < bound))) ∧ w' = w := by
  go_enter Tryz.func185, Tryz.ntmps185
  go_wp2_with (go_at_call 191; refine (smade_any _ _ hc).mono ?_; rintro e w' ⟨rfl, hw'⟩; subst hw')
  go_ret
  exact ⟨rfl, rfl⟩
theorem SetR.c0 {w : World} {p g bound : Nat} {ws : List Nat} {n : Nat} (h : SetR w p g bound ws n) : w.cell? ⟨p, 0, none⟩ = some (.pointer (some ⟨p, 0, none⟩)) := obj_cell h.obj 0
theorem SetR.c1 {w : World} {p g bound : Nat} {ws : List Nat} {n : Nat} (h : SetR w p g bound ws n) : w.cell? ⟨p, 1, none⟩ = some (.int .i64 bound) := obj_cell h.obj 1
theorem SetR.c2 {w : World} {p g bound : Nat} {ws : List Nat} {n : Nat} (h : SetR w p g bound ws n) : w.cell? ⟨p, 2, none⟩ = some (.slice (some ⟨g, 0, none⟩) ws.length ws.length) := obj_cell h.obj 2
theorem SetR.c3 {w : World} {p g bound : Nat} {ws : List Nat} {n : Nat} (h : SetR w p g bound ws n) : w.cell? ⟨p, 3, none⟩ = some (.int .i64 n) := obj_cell h.obj 3
theorem SetR.word {w : World} {p g bound : Nat} {ws : List Nat} {n : Nat} (h : SetR w p g bound ws n) {i : Nat} (hi : i < ws.length) : w.cell? ⟨g, i, none⟩ = some (.int .u64 ((ws.getD i 0 : Nat) : Int)) := by
  rw [h.row.cellAt i (by omega)]
  simp [uv, hi]
theorem SetR.top {w : World} {p g bound : Nat} {ws : List Nat} {n : Nat} (h : SetR w p g bound ws n) {x : Nat} (hx : x < bound) : x / 64 < ws.length := by have := h.len; omega
theorem nat_u64 (a : Nat) (ha : a < 18446744073709551616) : (BitVec.ofInt 64 (a : Int)).toNat = a := by
  rw [BitVec.ofInt_natCast, BitVec.toNat_ofNat]; exact Nat.mod_eq_of_lt (by omega)
theorem and_u64 (a b : Nat) (ha : a < 18446744073709551616) (hb : b < 18446744073709551616) : bits .and .u64 (a : Int) (b : Int) = ((a &&& b : Nat) : Int) := by
  have hx : a &&& b < 2 ^ 64 := Nat.and_lt_two_pow _ (by omega)
  show IntKind.u64.wrap ((BitVec.ofInt 64 (a : Int) &&& BitVec.ofInt 64 (b : Int)).toNat : Int) = _
  rw [BitVec.toNat_and, nat_u64 a ha, nat_u64 b hb, IntKind.wrap_u64]
  omega
theorem xor_u64 (a b : Nat) (ha : a < 18446744073709551616) (hb : b < 18446744073709551616) : bits .xor .u64 (a : Int) (b : Int) = ((a ^^^ b : Nat) : Int) := by
  have hx : a ^^^ b < 2 ^ 64 := Nat.xor_lt_two_pow (by omega) (by omega)
  show IntKind.u64.wrap ((BitVec.ofInt 64 (a : Int) ^^^ BitVec.ofInt 64 (b : Int)).toNat : Int) = _
  rw [BitVec.toNat_xor, nat_u64 a ha, nat_u64 b hb, IntKind.wrap_u64]
  omega
theorem bit_u64 (z j : Nat) (hz : z < 18446744073709551616) : (bits .and .u64 ((z : Int) / 2 ^ j) 1 == 1) = z.testBit j := by
  have h0 : ((z : Int) / 2 ^ j) = ((z >>> j : Nat) : Int) := by rw [Nat.shiftRight_eq_div_pow]; norm_cast
  have hx : z >>> j < 18446744073709551616 := by rw [Nat.shiftRight_eq_div_pow]; exact Nat.lt_of_le_of_lt (Nat.div_le_self _ _) hz
  rw [h0, show (1 : Int) = ((1 : Nat) : Int) from rfl, and_u64 _ _ hx (by decide), Nat.testBit, Nat.and_comm]
  have h1 := Nat.and_one_is_mod (z >>> j)
  rcases Nat.mod_two_eq_zero_or_one (z >>> j) with e | e <;> rw [e] at h1 <;> rw [Nat.and_comm 1, h1] <;> rfl
set_option maxHeartbeats 1000000 in
theorem has_any (p g bound x n : Nat) (ws : List Nat) (w : World) (hx : x < 4294967296) (h : SetR w p g bound ws n) :
    Calls Tryz.prog 173 #[.pointer (some ⟨p, 0, none⟩), .int .u32 x] w fun e w' => e = .returned (.bool (hasW ws x)) ∧ w' = w := by
  have hF := sfor_any p bound x w hx h.c0 h.c1
  have c2 := h.c2
  have c0 := h.c0
  by_cases hlt : x < bound
  · have ht := h.top hlt
    have hw := h.word ht
    have hd : decide (x < bound) = true := by simp [hlt]
    rw [hd] at hF
    have hz : hasW ws x = (ws.getD (x / 64) 0).testBit (x % 64) := rfl
    have hwl : ws.getD (x / 64) 0 < 18446744073709551616 := by
      rw [List.getD_eq_getElem?_getD, List.getElem?_eq_getElem ht]
      exact h.wf _ (List.getElem_mem ht)
    generalize ws.getD (x / 64) 0 = z at hw hz hwl
    go_enter Tryz.func173, Tryz.ntmps173
    go_wp2_with (go_at_call 185; refine hF.mono ?_; rintro e w' ⟨rfl, hw'⟩; subst hw')
    go_ret
    rw [hz, ← bit_u64 z (x % 64) hwl]
    exact ⟨rfl, rfl⟩
  · have hd : decide (x < bound) = false := by simp [hlt]
    rw [hd] at hF
    have hH : hasW ws x = false := by
      cases he : hasW ws x with
      | false => rfl
      | true => exact absurd (h.hi x he) hlt
    go_enter Tryz.func173, Tryz.ntmps173
    go_wp2_with (go_at_call 185; refine hF.mono ?_; rintro e w' ⟨rfl, hw'⟩; subst hw')
    go_ret
    rw [hH]
    exact ⟨rfl, rfl⟩
theorem SetR.flip {w : World} {p g bound : Nat} {ws : List Nat} {n x : Nat} (h : SetR w p g bound ws n) (hx : x < bound) :
    SetR ((w.setCell ⟨g, x / 64, none⟩ (.int .u64 ((ws.getD (x / 64) 0 ^^^ 2 ^ (x % 64) : Nat) : Int))).drew) p g bound (flipW ws x) n := by
  have ht := h.top hx
  refine ⟨?_, ?_, h.ne, by rw [flipW_len]; exact h.len, h.bd, flipW_lt h.wf, fun y hy => ?_⟩
  · rw [flipW_len]
    exact (Below.heap_setCell w ⟨g, x / 64, none⟩ _ p h.ne).trans h.obj
  · rw [flipW_len]
    have := (h.row.stored (x / 64) (.int .u64 ((ws.getD (x / 64) 0 ^^^ 2 ^ (x % 64) : Nat) : Int))).1
    rw [show uv (flipW ws x) = (uv ws).set (x / 64) (.int .u64 ((ws.getD (x / 64) 0 ^^^ 2 ^ (x % 64) : Nat) : Int)) by simp [uv, flipW, List.map_set]]
    exact this
  · rw [hasW_flip ht] at hy
    by_cases he : y = x
    · omega
    · simp [he] at hy; exact h.hi y hy
theorem SetR.recount {w : World} {p g bound : Nat} {ws : List Nat} {n : Nat} (h : SetR w p g bound ws n) (m : Nat) : SetR (w.setCell ⟨p, 3, none⟩ (.int .i64 m)) p g bound ws m := by
  refine ⟨?_, ?_, h.ne, h.len, h.bd, h.wf, h.hi⟩
  · rw [heap_setCell_same w p 3 _ _ _ h.obj]
    rfl
  · exact (Kp.setCell (S := fun k => k = p) w ⟨p, 3, none⟩ _ rfl).own h.row (fun k e => by cases e; exact fun e => h.ne e.symm)
theorem els_flip_put {ws : List Nat} {bound x : Nat} (hb : ws.length = (bound + 63) / 64) (hx : x < bound) (hn : hasW ws x = false) : (els bound (hasW (flipW ws x))).length = (els bound (hasW ws)).length + 1 := by
  have := els_put bound (hasW ws) (hasW (flipW ws x)) x (fun y => by rw [hasW_flip (by omega)]; by_cases he : y = x <;> simp [he, hn]) hn
  rw [if_pos hx] at this
  exact this
theorem els_flip_drop {ws : List Nat} {bound x : Nat} (hb : ws.length = (bound + 63) / 64) (hx : x < bound) (hn : hasW ws x = true) : (els bound (hasW ws)).length = (els bound (hasW (flipW ws x))).length + 1 := by
  have := els_put bound (hasW (flipW ws x)) (hasW ws) x (fun y => by rw [hasW_flip (by omega)]; by_cases he : y = x <;> simp [he, hn]) (by rw [hasW_flip (by omega)]; simp [hn])
  rw [if_pos hx] at this
  exact this
theorem els_le (n : Nat) (p : Nat → Bool) : (els n p).length ≤ n := by
  have := List.length_filter_le p (List.range n)
  rw [List.length_range] at this
  exact this
/-- a number put in -/
def putW (bound : Nat) (ws : List Nat) (x : Nat) : List Nat := if x < bound ∧ hasW ws x = false then flipW ws x else ws
/-- a number taken out -/
def dropW (ws : List Nat) (x : Nat) : List Nat := if hasW ws x = true then flipW ws x else ws
theorem makeU_any (n : Nat) (hn : n ≤ 70000) (w : World) : ∃ w', (Instr.makeSlice 255 (.int .i64 (n : Int)) (.int .i64 (n : Int))).run Tryz.prog w = .ok (.slice (some ⟨w.heap.size, 0, none⟩) n n) w' ∧
    w'.ownsRow w.heap.size 227 1 (.slice (some ⟨w.heap.size, 0, none⟩) n n) n (uv (List.replicate n 0)) ∧ Below w.heap.size w w' := by
  obtain ⟨i0, hi, hz0, hz1, hz2⟩ := info_parts Tryz.infoU
  obtain ⟨w', h1, h2, h3⟩ := run_make_full (P := Tryz.prog) w w.heap.size 255 227 i0 (.int .u64 0) 1 Tryz.underlying255 hi hz0 hz1 .i64 .i64 n (by rw [hz2]; omega) (by unfold maxLen; omega) (Nat.le_refl _)
  refine ⟨w', h1, ?_, ⟨h3.os, h3.tape, h3.output, h3.size, fun k hk => h3.block k hk (by simp)⟩⟩
  rw [Nat.mul_one, show (Value.int IntKind.u64 0).cells = #[.int .u64 0] from rfl, toList_madeCells_one] at h2
  rw [show uv (List.replicate n 0) = List.replicate n (Value.int .u64 0) by simp [uv]]
  exact h2
/-- words that are read -/
def URd (w : World) (b off : Nat) (ws : List Nat) : Prop := ∀ i, i < ws.length → w.cell? ⟨b, off + i, none⟩ = some (.int .u64 ((ws.getD i 0 : Nat) : Int))
theorem SetR.reads {w : World} {p g bound : Nat} {ws : List Nat} {n : Nat} (h : SetR w p g bound ws n) : URd w g 0 ws := fun i hi => by rw [Nat.zero_add]; exact h.word hi
theorem URd.take {w : World} {b off : Nat} {ws : List Nat} (h : URd w b off ws) (k : Nat) : URd w b off (ws.take k) := fun i hi => by
  rw [List.length_take] at hi
  rw [h i (by omega)]
  simp [show i < k by omega]
theorem URd.drop {w : World} {b off : Nat} {ws : List Nat} (h : URd w b off ws) (k : Nat) : URd w b (off + k) (ws.drop k) := fun i hi => by
  rw [List.length_drop] at hi
  rw [Nat.add_assoc, h (k + i) (by omega)]
  simp [List.getElem?_drop]
theorem take_snocN (zs : List Nat) (k : Nat) (h : k < zs.length) : zs.take (k + 1) = zs.take k ++ [zs.getD k 0] := by
  rw [List.take_succ_eq_append_getElem h]
  simp [List.getD, List.getElem?_eq_getElem h]
/-- no word is set -/
def nilW (ws : List Nat) : Bool := ws.all fun z => decide (z = 0)
end Go.Proofs.YtcielbkfolklbaaGreatDoor
