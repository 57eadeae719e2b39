import Derived.Test.YtgbpfejodpplbaaGreatDoorCLBase
import Derived.RangeFuncNested
import Derived.RangeFuncBound
import Derived.RangeFuncCalls
import Derived.Test.YtgbpfejodpplbaaGreatDoorProg
import Derived.Sort.QuietIn
import Derived.OwnWalkIn
namespace Go.Proofs.YtgbpfejodpplbaaGreatDoor
open Go.RowKit Go.WideShapes
set_option maxRecDepth 100000

theorem Tryz.infoU : (Tryz.prog.info? 73).map (fun i => (i.zero, i.size, i.bytes)) = some (some (.int .u64 0), 1, 8) := by kernel_rfl
/-- words as values -/
def uv (ws : List Nat) : List Value := ws.map fun (z : Nat) => Value.int .u64 (z : Int)
theorem uv_len (ws : List Nat) : (uv ws).length = ws.length := by simp [uv]
/-- a set in memory: its object, its words -/
structure SetR (w : World) (p g bound : Nat) (ws : List Nat) (n : Nat) : Prop where
  obj : w.heap[p]? = some (.cells #[.pointer (some ⟨p, 0, none⟩), .int .i64 bound, .slice (some ⟨g, 0, none⟩) ws.length ws.length, .int .i64 n] 145 (0, 0))
  row : w.ownsRow 0 73 1 (.slice (some ⟨g, 0, none⟩) ws.length ws.length) ws.length (uv ws)
  ne : p ≠ g
  len : ws.length = (bound + 63) / 64
  bd : bound ≤ 1048576
  wf : ∀ z ∈ ws, z < 2 ^ 64
  hi : ∀ x, hasW ws x = true → x < bound
/-- a set whose count is right -/
abbrev SetS (w : World) (p g bound : Nat) (ws : List Nat) : Prop := SetR w p g bound ws (els bound (hasW ws)).length
theorem SetR.kept {S : Nat → Prop} {w w' : World} {p g bound : Nat} {ws : List Nat} {n : Nat} (h : SetR w p g bound ws n) (hk : Kp S w w') (hp : ¬ S p) (hg : ¬ S g) : SetR w' p g bound ws n :=
  ⟨by rw [hk.block p (Array.getElem?_eq_some_iff.1 h.obj).1 hp]; exact h.obj, hk.own h.row (fun k e => by cases e; exact hg), h.ne, h.len, h.bd, h.wf, h.hi⟩
theorem SetR.ltp {w : World} {p g bound : Nat} {ws : List Nat} {n : Nat} (h : SetR w p g bound ws n) : p < w.heap.size := (Array.getElem?_eq_some_iff.1 h.obj).1
theorem SetR.ltg {w : World} {p g bound : Nat} {ws : List Nat} {n : Nat} (h : SetR w p g bound ws n) : g < w.heap.size := (h.row.lt g rfl).2
theorem seq_self (a : Nat) (w : World) : (binOp .eql 108 (.pointer (some ⟨a, 0, none⟩)) (.pointer (some ⟨a, 0, none⟩))).run Tryz.prog w = .ok (.bool true) w := by
  have h : (Tryz.prog.info? 145).map (·.size) = some 4 := by kernel_rfl
  cases hi : Tryz.prog.info? 145 with
  | none => rw [hi] at h; cases h
  | some i => exact run_eql_ptr_same w ⟨a, 0, none⟩ Tryz.underlying108 hi
theorem smade_any (a : Nat) (w : World) (hc : w.cell? ⟨a, 0, none⟩ = some (.pointer (some ⟨a, 0, none⟩))) :
    Calls Tryz.prog 95 #[.pointer (some ⟨a, 0, none⟩)] w fun e w' => e = .returned (.bool true) ∧ w' = w := by
  have hq := seq_self a w
  go_enter Tryz.func95, Tryz.ntmps95
  go_wp2
  go_ret
  exact ⟨rfl, rfl⟩
theorem sfor_any (a : Nat) (bound x : Nat) (w : World) (hx : x < 4294967296) (hc : w.cell? ⟨a, 0, none⟩ = some (.pointer (some ⟨a, 0, none⟩))) (hb1 : w.cell? ⟨a, 1, none⟩ = some (.int .i64 bound)) :
    Calls Tryz.prog 67 #[.pointer (some ⟨a, 0, none⟩), .int .u32 x] w fun e w' => e = .returned (.bool (decide (x < bound))) ∧ w' = w := by
  go_enter Tryz.func67, Tryz.ntmps67
  go_wp2_with (go_at_call 95; refine (smade_any _ _ hc).mono ?_; rintro e w' ⟨rfl, hw'⟩; subst hw')
  go_ret
  exact ⟨rfl, rfl⟩
theorem SetR.c0 {w : World} {p g bound : Nat} {ws : List Nat} {n : Nat} (h : SetR w p g bound ws n) : w.cell? ⟨p, 0, none⟩ = some (.pointer (some ⟨p, 0, none⟩)) := obj_cell h.obj 0
theorem SetR.c1 {w : World} {p g bound : Nat} {ws : List Nat} {n : Nat} (h : SetR w p g bound ws n) : w.cell? ⟨p, 1, none⟩ = some (.int .i64 bound) := obj_cell h.obj 1
theorem SetR.c2 {w : World} {p g bound : Nat} {ws : List Nat} {n : Nat} (h : SetR w p g bound ws n) : w.cell? ⟨p, 2, none⟩ = some (.slice (some ⟨g, 0, none⟩) ws.length ws.length) := obj_cell h.obj 2
theorem SetR.c3 {w : World} {p g bound : Nat} {ws : List Nat} {n : Nat} (h : SetR w p g bound ws n) : w.cell? ⟨p, 3, none⟩ = some (.int .i64 n) := obj_cell h.obj 3
theorem SetR.word {w : World} {p g bound : Nat} {ws : List Nat} {n : Nat} (h : SetR w p g bound ws n) {i : Nat} (hi : i < ws.length) : w.cell? ⟨g, i, none⟩ = some (.int .u64 ((ws.getD i 0 : Nat) : Int)) := by
  rw [h.row.cellAt i (by omega)]
  simp [uv, hi]
theorem SetR.top {w : World} {p g bound : Nat} {ws : List Nat} {n : Nat} (h : SetR w p g bound ws n) {x : Nat} (hx : x < bound) : x / 64 < ws.length := by have := h.len; omega
theorem nat_u64 (a : Nat) (ha : a < 18446744073709551616) : (BitVec.ofInt 64 (a : Int)).toNat = a := by
  rw [BitVec.ofInt_natCast, BitVec.toNat_ofNat]; exact Nat.mod_eq_of_lt (by omega)
theorem and_u64 (a b : Nat) (ha : a < 18446744073709551616) (hb : b < 18446744073709551616) : bits .and .u64 (a : Int) (b : Int) = ((a &&& b : Nat) : Int) := by
  have hx : a &&& b < 2 ^ 64 := Nat.and_lt_two_pow _ (by omega)
  show IntKind.u64.wrap ((BitVec.ofInt 64 (a : Int) &&& BitVec.ofInt 64 (b : Int)).toNat : Int) = _
  rw [BitVec.toNat_and, nat_u64 a ha, nat_u64 b hb, IntKind.wrap_u64]
  omega
theorem xor_u64 (a b : Nat) (ha : a < 18446744073709551616) (hb : b < 18446744073709551616) : bits .xor .u64 (a : Int) (b : Int) = ((a ^^^ b : Nat) : Int) := by
  have hx : a ^^^ b < 2 ^ 64 := Nat.xor_lt_two_pow (by omega) (by omega)
  show IntKind.u64.wrap ((BitVec.ofInt 64 (a : Int) ^^^ BitVec.ofInt 64 (b : Int)).toNat : Int) = _
  rw [BitVec.toNat_xor, nat_u64 a ha, nat_u64 b hb, IntKind.wrap_u64]
  omega
theorem bit_u64 (z j : Nat) (hz : z < 18446744073709551616) : (bits .and .u64 ((z : Int) / 2 ^ j) 1 == 1) = z.testBit j := by
  have h0 : ((z : Int) / 2 ^ j) = ((z >>> j : Nat) : Int) := by rw [Nat.shiftRight_eq_div_pow]; norm_cast
  have hx : z >>> j < 18446744073709551616 := by rw [Nat.shiftRight_eq_div_pow]; exact Nat.lt_of_le_of_lt (Nat.div_le_self _ _) hz
  rw [h0, show (1 : Int) = ((1 : Nat) : Int) from rfl, and_u64 _ _ hx (by decide), Nat.testBit, Nat.and_comm]
  have h1 := Nat.and_one_is_mod (z >>> j)
  rcases Nat.mod_two_eq_zero_or_one (z >>> j) with e | e <;> rw [e] at h1 <;> rw [Nat.and_comm 1, h1] <;> rfl
set_option maxHeartbeats 1000000 in
theorem has_any (p g bound x n : Nat) (ws : List Nat) (w : World) (hx : x < 4294967296) (h : SetR w p g bound ws n) :
    Calls Tryz.prog 68 #[.pointer (some ⟨p, 0, none⟩), .int .u32 x] w fun e w' => e = .returned (.bool (hasW ws x)) ∧ w' = w := by
  have hF := sfor_any p bound x w hx h.c0 h.c1
  have c2 := h.c2
  have c0 := h.c0
  by_cases hlt : x < bound
  · have ht := h.top hlt
    have hw := h.word ht
    have hd : decide (x < bound) = true := by simp [hlt]
    rw [hd] at hF
    have hz : hasW ws x = (ws.getD (x / 64) 0).testBit (x % 64) := rfl
    have hwl : ws.getD (x / 64) 0 < 18446744073709551616 := by
      rw [List.getD_eq_getElem?_getD, List.getElem?_eq_getElem ht]
      exact h.wf _ (List.getElem_mem ht)
    generalize ws.getD (x / 64) 0 = z at hw hz hwl
    go_enter Tryz.func68, Tryz.ntmps68
    go_wp2_with (go_at_call 67; refine hF.mono ?_; rintro e w' ⟨rfl, hw'⟩; subst hw')
    go_ret
    rw [hz, ← bit_u64 z (x % 64) hwl]
    exact ⟨rfl, rfl⟩
  · have hd : decide (x < bound) = false := by simp [hlt]
    rw [hd] at hF
    have hH : hasW ws x = false := by
      cases he : hasW ws x with
      | false => rfl
      | true => exact absurd (h.hi x he) hlt
    go_enter Tryz.func68, Tryz.ntmps68
    go_wp2_with (go_at_call 67; refine hF.mono ?_; rintro e w' ⟨rfl, hw'⟩; subst hw')
    go_ret
    rw [hH]
    exact ⟨rfl, rfl⟩
theorem SetR.flip {w : World} {p g bound : Nat} {ws : List Nat} {n x : Nat} (h : SetR w p g bound ws n) (hx : x < bound) :
    SetR ((w.setCell ⟨g, x / 64, none⟩ (.int .u64 ((ws.getD (x / 64) 0 ^^^ 2 ^ (x % 64) : Nat) : Int))).drew) p g bound (flipW ws x) n := by
  have ht := h.top hx
  refine ⟨?_, ?_, h.ne, by rw [flipW_len]; exact h.len, h.bd, flipW_lt h.wf, fun y hy => ?_⟩
  · rw [flipW_len]
    exact (Below.heap_setCell w ⟨g, x / 64, none⟩ _ p h.ne).trans h.obj
  · rw [flipW_len]
    have := (h.row.stored (x / 64) (.int .u64 ((ws.getD (x / 64) 0 ^^^ 2 ^ (x % 64) : Nat) : Int))).1
    rw [show uv (flipW ws x) = (uv ws).set (x / 64) (.int .u64 ((ws.getD (x / 64) 0 ^^^ 2 ^ (x % 64) : Nat) : Int)) by simp [uv, flipW, List.map_set]]
    exact this
  · rw [hasW_flip ht] at hy
    by_cases he : y = x
    · omega
    · simp [he] at hy; exact h.hi y hy
theorem SetR.recount {w : World} {p g bound : Nat} {ws : List Nat} {n : Nat} (h : SetR w p g bound ws n) (m : Nat) : SetR (w.setCell ⟨p, 3, none⟩ (.int .i64 m)) p g bound ws m := by
  refine ⟨?_, ?_, h.ne, h.len, h.bd, h.wf, h.hi⟩
  · rw [heap_setCell_same w p 3 _ _ _ h.obj]
    rfl
  · exact (Kp.setCell (S := fun k => k = p) w ⟨p, 3, none⟩ _ rfl).own h.row (fun k e => by cases e; exact fun e => h.ne e.symm)
set_option maxHeartbeats 1000000 in
theorem turn_any (p g bound x n : Nat) (ws : List Nat) (w : World) (hx : x < bound) (h : SetR w p g bound ws n) :
    Calls Tryz.prog 69 #[.pointer (some ⟨p, 0, none⟩), .int .u32 x] w fun e w' => e = .returned (.tuple #[]) ∧ SetR w' p g bound (flipW ws x) n ∧ Kp (fun k => k = p ∨ k = g) w w' ∧ w'.heap.size = w.heap.size := by
  have HF := hidS (h.flip hx)
  have c2 := h.c2
  have ht := h.top hx
  have hw := h.word ht
  have fz := h.row.frozenAt (x / 64)
  have hb := h.bd
  have hwl : ws.getD (x / 64) 0 < 18446744073709551616 := by
    rw [List.getD_eq_getElem?_getD, List.getElem?_eq_getElem ht]
    exact h.wf _ (List.getElem_mem ht)
  generalize ws.getD (x / 64) 0 = z at hw hwl HF
  have hp : 2 ^ (x % 64) < 2 ^ 64 := Nat.pow_lt_pow_right (by decide) (Nat.mod_lt _ (by decide))
  have hx1 : bits .xor .u64 (z : Int) (IntKind.u64.wrap (2 ^ (x % 64))) = ((z ^^^ 2 ^ (x % 64) : Nat) : Int) := by
    rw [← xor_u64 z (2 ^ (x % 64)) hwl (by omega), IntKind.wrap_u64]
    congr 1
    have : (2 : Int) ^ (x % 64) = ((2 ^ (x % 64) : Nat) : Int) := by norm_cast
    rw [this]
    generalize 2 ^ (x % 64) = y at hp
    omega
  have HX := hidS hx1
  clear h hp hx1
  go_enter Tryz.func69, Tryz.ntmps69
  go_wp2
  go_region
  rw [HX.out]
  go_end0
  exact ⟨rfl, HF.out, ⟨rfl, rfl, rfl, by simp, fun k hk hn => Below.heap_setCell _ _ _ _ (fun e => hn (.inr e))⟩, by simp⟩
theorem els_flip_put {ws : List Nat} {bound x : Nat} (hb : ws.length = (bound + 63) / 64) (hx : x < bound) (hn : hasW ws x = false) : (els bound (hasW (flipW ws x))).length = (els bound (hasW ws)).length + 1 := by
  have := els_put bound (hasW ws) (hasW (flipW ws x)) x (fun y => by rw [hasW_flip (by omega)]; by_cases he : y = x <;> simp [he, hn]) hn
  rw [if_pos hx] at this
  exact this
theorem els_flip_drop {ws : List Nat} {bound x : Nat} (hb : ws.length = (bound + 63) / 64) (hx : x < bound) (hn : hasW ws x = true) : (els bound (hasW ws)).length = (els bound (hasW (flipW ws x))).length + 1 := by
  have := els_put bound (hasW (flipW ws x)) (hasW ws) x (fun y => by rw [hasW_flip (by omega)]; by_cases he : y = x <;> simp [he, hn]) (by rw [hasW_flip (by omega)]; simp [hn])
  rw [if_pos hx] at this
  exact this
theorem els_le (n : Nat) (p : Nat → Bool) : (els n p).length ≤ n := by
  have := List.length_filter_le p (List.range n)
  rw [List.length_range] at this
  exact this
/-- a number put in -/
def putW (bound : Nat) (ws : List Nat) (x : Nat) : List Nat := if x < bound ∧ hasW ws x = false then flipW ws x else ws
/-- a number taken out -/
def dropW (ws : List Nat) (x : Nat) : List Nat := if hasW ws x = true then flipW ws x else ws
set_option maxHeartbeats 1000000 in
theorem add_any (p g bound x : Nat) (ws : List Nat) (w : World) (hx : x < 4294967296) (h : SetS w p g bound ws) :
    Calls Tryz.prog 47 #[.pointer (some ⟨p, 0, none⟩), .int .u32 x] w fun e w' => e = .returned (.bool (decide (x < bound) && !hasW ws x)) ∧ SetS w' p g bound (putW bound ws x) ∧ Kp (fun k => k = p ∨ k = g) w w' ∧ w'.heap.size = w.heap.size := by
  have hF := sfor_any p bound x w hx h.c0 h.c1
  have hH := has_any p g bound x _ ws w hx h
  by_cases hlt : x < bound
  · have hd : decide (x < bound) = true := by simp [hlt]
    rw [hd] at hF ⊢
    cases he : hasW ws x with
    | true =>
      rw [he] at hH
      go_enter Tryz.func47, Tryz.ntmps47
      go_wp2_with (first | (go_at_call 67; refine hF.mono ?_; rintro e w' ⟨rfl, hw'⟩; subst hw') | (go_at_call 68; refine hH.mono ?_; rintro e w2 ⟨rfl, hw2⟩; subst hw2))
      go_ret
      refine ⟨rfl, ?_, Kp.refl _ _, rfl⟩
      rw [putW, if_neg (by simp [he])]
      exact h
    | false =>
      rw [he] at hH
      have hT := turn_any p g bound x _ ws w hlt h
      have HC := hidS (els_flip_put h.len hlt he)
      have HB := hidS (els_le bound (hasW ws))
      have hbd := h.bd
      generalize (els bound (hasW ws)).length = n at hT HC HB
      go_enter Tryz.func47, Tryz.ntmps47
      go_wp2_with (first | (go_at_call 67; refine hF.mono ?_; rintro e w' ⟨rfl, hw'⟩; subst hw') | (go_at_call 68; refine hH.mono ?_; rintro e w2 ⟨rfl, hw2⟩; subst hw2) | (go_at_call 69; refine hT.mono ?_; rintro e w3 ⟨rfl, hq, hk, hz⟩; have c3 := hq.c3; have f3 := obj_frozen hq.obj 3; have hnb : n ≤ 1048576 := by (have := HB.out; omega)))
      go_ret
      refine ⟨rfl, ?_, hk.trans (Kp.setCell (S := fun k => k = p ∨ k = g) _ _ _ (.inl rfl)) (fun _ _ e => e), by simp [hz]⟩
      have := hq.recount (n + 1)
      rw [putW, if_pos ⟨hlt, he⟩]
      unfold SetS
      rw [HC.out]
      exact this
  · have hd : decide (x < bound) = false := by simp [hlt]
    rw [hd] at hF ⊢
    go_enter Tryz.func47, Tryz.ntmps47
    go_wp2_with (first | (go_at_call 67; refine hF.mono ?_; rintro e w' ⟨rfl, hw'⟩; subst hw'))
    go_ret
    refine ⟨rfl, ?_, Kp.refl _ _, rfl⟩
    rw [putW, if_neg (by simp [hlt])]
    exact h
theorem len_any (p g bound n : Nat) (ws : List Nat) (w : World) (h : SetR w p g bound ws n) :
    Calls Tryz.prog 143 #[.pointer (some ⟨p, 0, none⟩)] w fun e w' => e = .returned (.int .i64 n) ∧ w' = w := by
  have hM := smade_any p w h.c0
  have c3 := h.c3
  go_enter Tryz.func143, Tryz.ntmps143
  go_wp2_with (go_at_call 95; refine hM.mono ?_; rintro e w2 ⟨rfl, hw2⟩; subst hw2)
  go_ret
  exact ⟨rfl, rfl⟩
theorem held_any (p g bound n : Nat) (ws : List Nat) (w : World) (h : SetR w p g bound ws n) :
    Calls Tryz.prog 71 #[.pointer (some ⟨p, 0, none⟩)] w fun e w' => e = .returned (.slice (some ⟨g, 0, none⟩) ws.length ws.length) ∧ w' = w := by
  have hM := smade_any p w h.c0
  have c2 := h.c2
  go_enter Tryz.func71, Tryz.ntmps71
  go_wp2_with (go_at_call 95; refine hM.mono ?_; rintro e w2 ⟨rfl, hw2⟩; subst hw2)
  go_ret
  exact ⟨rfl, rfl⟩
theorem makeU_any (n : Nat) (hn : n ≤ 70000) (w : World) : ∃ w', (Instr.makeSlice 143 (.int .i64 (n : Int)) (.int .i64 (n : Int))).run Tryz.prog w = .ok (.slice (some ⟨w.heap.size, 0, none⟩) n n) w' ∧
    w'.ownsRow w.heap.size 73 1 (.slice (some ⟨w.heap.size, 0, none⟩) n n) n (uv (List.replicate n 0)) ∧ Below w.heap.size w w' := by
  obtain ⟨i0, hi, hz0, hz1, hz2⟩ := info_parts Tryz.infoU
  obtain ⟨w', h1, h2, h3⟩ := run_make_full (P := Tryz.prog) w w.heap.size 143 73 i0 (.int .u64 0) 1 Tryz.underlying143 hi hz0 hz1 .i64 .i64 n (by rw [hz2]; omega) (by unfold maxLen; omega) (Nat.le_refl _)
  refine ⟨w', h1, ?_, ⟨h3.os, h3.tape, h3.output, h3.size, fun k hk => h3.block k hk (by simp)⟩⟩
  rw [Nat.mul_one, show (Value.int IntKind.u64 0).cells = #[.int .u64 0] from rfl, toList_madeCells_one] at h2
  rw [show uv (List.replicate n 0) = List.replicate n (Value.int .u64 0) by simp [uv]]
  exact h2
set_option maxHeartbeats 1000000 in
theorem newset_any (bound : Nat) (w : World) (hb : bound ≤ 1048576) :
    Calls Tryz.prog 66 #[.int .i64 bound] w fun e w' => ∃ p g, e = .returned (.tuple #[.pointer (some ⟨p, 0, none⟩), .int .i64 0]) ∧ SetS w' p g bound (List.replicate ((bound + 63) / 64) 0) ∧ w.heap.size ≤ p ∧ w.heap.size ≤ g ∧ Below w.heap.size w w' := by
  obtain ⟨n, hn⟩ : ∃ n, (bound + 63) / 64 = n := ⟨_, rfl⟩
  obtain ⟨w1, hm, hrow, hB⟩ := makeU_any n (by omega) w
  have hq : ((bound : Int) + 64 - 1) / 64 = (n : Int) := by omega
  have HR := hidS hrow
  have HB := hidS hB
  go_enter Tryz.func66, Tryz.ntmps66
  go_wp2
  go_ret2
  have hR := HR.out
  have hgl := (hR.lt w.heap.size rfl).2
  refine ⟨w1.heap.size, w.heap.size, rfl, ⟨?_, ?_, by omega, by simp, hb, by intro z hz; rw [List.eq_of_mem_replicate hz]; decide, fun x hx => by rw [hasW_zeros] at hx; cases hx⟩, by omega, Nat.le_refl _, HB.out.alloc HB.out.size _⟩
  · rw [hn, List.length_replicate]
    have e0 : (els bound (hasW (List.replicate n 0))).length = 0 := by
      unfold els
      rw [List.filter_eq_nil_iff.2 (fun x _ => by rw [hasW_zeros]; simp)]
      rfl
    rw [e0]
    exact heap_alloc_new w1 _
  · rw [hn, List.length_replicate]
    exact (Kp.alloc (S := fun _ => False) w1 _).own (own_base hR (Nat.zero_le _)) (fun _ _ h => h)
/-- words that are read -/
def URd (w : World) (b off : Nat) (ws : List Nat) : Prop := ∀ i, i < ws.length → w.cell? ⟨b, off + i, none⟩ = some (.int .u64 ((ws.getD i 0 : Nat) : Int))
theorem SetR.reads {w : World} {p g bound : Nat} {ws : List Nat} {n : Nat} (h : SetR w p g bound ws n) : URd w g 0 ws := fun i hi => by rw [Nat.zero_add]; exact h.word hi
theorem URd.take {w : World} {b off : Nat} {ws : List Nat} (h : URd w b off ws) (k : Nat) : URd w b off (ws.take k) := fun i hi => by
  rw [List.length_take] at hi
  rw [h i (by omega)]
  simp [show i < k by omega]
theorem URd.drop {w : World} {b off : Nat} {ws : List Nat} (h : URd w b off ws) (k : Nat) : URd w b (off + k) (ws.drop k) := fun i hi => by
  rw [List.length_drop] at hi
  rw [Nat.add_assoc, h (k + i) (by omega)]
  simp [List.getElem?_drop]
theorem take_snocN (zs : List Nat) (k : Nat) (h : k < zs.length) : zs.take (k + 1) = zs.take k ++ [zs.getD k 0] := by
  rw [List.take_succ_eq_append_getElem h]
  simp [List.getD, List.getElem?_eq_getElem h]
/-- no word is set -/
def nilW (ws : List Nat) : Bool := ws.all fun z => decide (z = 0)
end Go.Proofs.YtgbpfejodpplbaaGreatDoor
namespace Go.Proofs.YtgbpfejodpplbaaGreatDoor
open Go.RowKit
set_option maxRecDepth 100000

/-- the loops and marks that lay from a place on lie as they lay; cells may change -/
structure Upon (B : Nat) (W W' : World) : Prop where
  size : W.heap.size ≤ W'.heap.size
  same : ∀ (k : Nat) (o : Obj), B ≤ k → W.heap[k]? = some o → o.isCells = false → W'.heap[k]? = some o
theorem Upon.refl (B : Nat) (W : World) : Upon B W W := ⟨Nat.le_refl _, fun _ _ _ h _ => h⟩
theorem Upon.trans {B : Nat} {W X Y : World} (h : Upon B W X) (h' : Upon B X Y) : Upon B W Y := ⟨Nat.le_trans h.size h'.size, fun k o hB hk hc => h'.same k o hB (h.same k o hB hk hc) hc⟩
theorem Upon.mono {B C : Nat} {W W' : World} (h : Upon B W W') (hBC : B ≤ C) : Upon C W W' := ⟨h.size, fun k o hC hk hc => h.same k o (Nat.le_trans hBC hC) hk hc⟩
theorem Upon.of_below {B : Nat} {W W' : World} (h : Below W.heap.size W W') : Upon B W W' := ⟨h.size, fun k _ _ hk _ => (h.block k (Array.getElem?_eq_some_iff.1 hk).1).trans hk⟩
theorem Upon.alloc (B : Nat) (W : World) (o : Obj) : Upon B W (W.alloc o) := ⟨by simp, fun k _ _ hk _ => (Below.heap_alloc W o k (Array.getElem?_eq_some_iff.1 hk).1).trans hk⟩
theorem Upon.putObj {B l : Nat} (W : World) (o : Obj) (h : l < B) : Upon B W (W.putObj l o) := ⟨by simp, fun k _ hB hk _ => (World.putObj_heap_other (by omega)).trans hk⟩
theorem Upon.setCell {B : Nat} (W : World) (a : Addr) (v : Value) : Upon B W (W.setCell a v) := ⟨(KeepsWalks.setCell W a v).size, fun k o _ hk hc => (KeepsOthers.setCell W a v).same k o hk hc⟩
theorem Upon.at {B l : Nat} {W W' : World} {o : Obj} (h : Upon B W W') (hB : B ≤ l) (hl : W.heap[l]? = some o) (hc : o.isCells = false := by rfl) : W'.heap[l]? = some o := h.same l o hB hl hc
theorem Upon.from {B : Nat} {W W' : World} (h : Upon B W W') : KeepsFrom B W W' := ⟨h.size, fun _ _ hB hk hc => h.at hB hk hc⟩
/-- how the body of a round may be left -/
def uponPost {α : Type} (B : Nat) (Kp : World → World → Prop) (I : List α → World → Prop) (Ix : Code → List α → World → Prop) (xs : List α) (W : World) : Exit → Act → World → Prop
  | .normal, _, W' => Upon B W W' ∧ Kp W W' ∧ I xs W'
  | .ret, _, W' => Upon B W W' ∧ Ix .ret xs W'
  | .exit id, _, W' => Upon B W W' ∧ Ix (.exit id) xs W'
  | .goto t, _, W' => Upon B W W' ∧ Ix (.goto t) xs W'
  | .panic _, _, _ => False
  | .outgrown, _, _ => False
/-- what an iterator promises that may itself range over an iterator: the caller's word speaks of cells alone -/
def SeqOwn {α : Type} (F : Fence) (n : Nat) (P : Program) (g : Nat) (lb : Array Value) (encs : α → Array Value) (Kp : World → World → Prop) (S Sp : List α → Prop) (N : Nat) (w : World) : Prop :=
  ∀ (l : Nat) (J Jx : List α → World → Prop) (W : World), Below w.heap.size w W → OwnFrom W.heap.size J → OwnFrom W.heap.size Jx →
    (∀ pre x W1, J pre W1 → pre.length < N → Sp (pre ++ [x]) → YieldAt F (n - 1) P l (encs x) W1 fun e W' =>
      (e = .returned (.bool true) ∧ J (pre ++ [x]) W' ∧ Kp W1 W' ∧ Upon W.heap.size W1 W') ∨ (e = .returned (.bool false) ∧ Jx (pre ++ [x]) W' ∧ Upon W.heap.size W1 W')) →
    J [] W →
    CallsIn F n P g (#[.func (.yield l) #[] #[]] ++ lb) W fun e W' => (∃ v, e = .returned v) ∧ ((∃ xs, S xs ∧ J xs W') ∨ (∃ pre, Sp pre ∧ Jx pre W'))
theorem SeqOwn.later {α : Type} {F : Fence} {n : Nat} {P : Program} {g : Nat} {lb : Array Value} {encs : α → Array Value} {Kp : World → World → Prop} {S Sp : List α → Prop} {N : Nat} {w w' : World} (h : SeqOwn F n P g lb encs Kp S Sp N w) (hb : Below w.heap.size w w') : SeqOwn F n P g lb encs Kp S Sp N w' :=
  fun l J Jx W hW => h l J Jx W (hb.trans (hW.mono hb.size))
/-- a block that lies below what is turned -/
theorem low_kept {A C : World} {row : Option Nat} {B l : Nat} {o : Obj} (h : A.heap[l]? = some o) (hl : l < B) (hg : A.grownBy C row) (hr : ∀ r, row = some r → B ≤ r ∧ ∃ o : Obj, A.heap[r]? = some o ∧ o.isCells = false) : C.heap[l]? = some o :=
  (hg.block l (Array.getElem?_eq_some_iff.1 h).1 (fun e => by have := (hr l e.symm).1; omega)).trans h
/-- how a round of such a loop may be left -/
theorem seq_core {α : Type} {F : Fence} {m : Nat} {P : Program} {gf : Nat} {lb : Array Value} {encs : α → Array Value} {Kp : World → World → Prop} {S Sp : List α → Prop} {N : Nat} {w0 W1 : World} (hseq : SeqOwn F m P gf lb encs Kp S Sp N w0)
    (hKt : ∀ {A B C : World}, Kp A B → Kp B C → Kp A C) {B l : Nat} (hKb : ∀ (W : World) (o o' : Obj), W.heap[l]? = some o → o.isCells = false → o.isWalk = false → Kp W (W.putObj l o')) (hb1 : Below w0.heap.size w0 W1)
    (r0 : Loop) (hst : r0.state = .ready) (hpe : r0.pending = none) (hfn : F.fn r0.fn) (hps : ∀ x, (encs x).size = r0.params.size) (hL : W1.heap[l]? = some (.loop r0)) (hB : B ≤ l)
    (I : List α → World → Prop) (Ix : Code → List α → World → Prop) (hI : OwnFrom B I) (hIx : ∀ c, OwnFrom B (Ix c)) (h0 : I [] W1) (Ax : α → Act → World → Prop) (hAx : ∀ x a', OwnFrom B (fun (_ : Unit) W => Ax x a' W))
    (hassign : ∀ (pre : List α) (x : α) (W : World) (K : Act → World → Prop), I pre W → (∀ a' W', Upon B W W' → Kp W W' → I pre W' → Ax x a' W' → K a' W') →
      r0.assign.wpIn (F.inRound l) (m - 1) P (Exit.then K (fun _ _ _ => False)) { tmps := (r0.params.zip (encs x)).foldl (fun t (p, v) => t.setIfInBounds p v) r0.tmps, defers := [] } W)
    (hbody : ∀ (pre : List α) (x : α) (a' : Act) (W : World), (∃ r, W.heap[l]? = some (.loop r)) → I pre W → Ax x a' W → pre.length < N → Sp (pre ++ [x]) → r0.body.wpIn (F.inRound l) (m - 1) P (uponPost B Kp I Ix (pre ++ [x]) W) a' W)
    (X : World → Prop) (hX0 : X W1) (hXo : OwnFrom W1.heap.size (fun (_ : Unit) W => X W)) (hXp : ∀ W o', X W → X (W.putObj l o')) (hXk : ∀ W W', Upon B W W' → X W → X W') :
    CallsIn F m P gf (#[.func (.yield l) #[] #[]] ++ lb) W1 fun e W2 => (∃ v, e = .returned v) ∧
      ((∃ xs, S xs ∧ I xs W2 ∧ W2.heap[l]? = some (.loop r0) ∧ X W2) ∨ (∃ pre c, Sp pre ∧ Ix c pre W2 ∧ W2.heap[l]? = some (.loop { r0 with state := .done, pending := some c }) ∧ X W2)) := by
  have hlW : l < W1.heap.size := (Array.getElem?_eq_some_iff.1 hL).1
  have up : ∀ {A : World} {row : Option Nat}, (∀ r, row = some r → W1.heap.size ≤ r ∧ ∃ o : Obj, A.heap[r]? = some o ∧ o.isCells = false) → (∀ r, row = some r → B ≤ r ∧ ∃ o : Obj, A.heap[r]? = some o ∧ o.isCells = false) := fun h r e => ⟨by have := (h r e).1; omega, (h r e).2⟩
  refine (hseq l (fun pre W => I pre W ∧ W.heap[l]? = some (.loop r0) ∧ X W) (fun pre W => ∃ c, Ix c pre W ∧ W.heap[l]? = some (.loop { r0 with state := .done, pending := some c }) ∧ X W) W1 hb1
    (fun s A C row hs hg hr => ⟨hI s A C row hs.1 hg (up hr), low_kept hs.2.1 hlW hg hr, hXo () A C row hs.2.2 hg hr⟩)
    (fun s A C row ⟨c, hs1, hs2, hs3⟩ hg hr => ⟨c, hIx c s A C row hs1 hg (up hr), low_kept hs2 hlW hg hr, hXo () A C row hs3 hg hr⟩) ?_ ⟨h0, hL, hX0⟩).mono ?_
  · rintro pre x W ⟨hi, hl, hx⟩ hlen hsp
    refine ⟨r0.fn, _, r0.assign, r0.body, run_yield hl (hps x), roundIn_of_wpIn hfn (hassign pre x W _ hi ?_)⟩
    intro a' Wa hkf hkp hia hax
    have hla := hkf.at hB hl
    have hxa := hXk _ _ hkf hx
    have hll : l < Wa.heap.size := (Array.getElem?_eq_some_iff.1 hla).1
    refine ⟨_, run_beginRound hla hst, ?_⟩
    have hlb : (Wa.putObj l (.loop { r0 with state := .busy })).heap[l]? = some (.loop { r0 with state := .busy }) := World.putObj_heap_same hll
    refine wpIn_mono (hbody pre x a' _ ⟨_, hlb⟩ (hI.putObj _ hia hB hla rfl) ((hAx x a').putObj (s := ()) _ hax hB hla rfl) hlen hsp) ?_
    have hkb : Kp W (Wa.putObj l (.loop { r0 with state := .busy })) := hKt hkp (hKb _ _ _ hla rfl rfl)
    have upA : ∀ (W3 : World) (o : Obj), Upon B (Wa.putObj l (.loop { r0 with state := .busy })) W3 → Upon W1.heap.size W (W3.putObj l o) := fun W3 o hk3 => (((hkf.mono (by omega)).trans (Upon.putObj _ _ hlW)).trans (hk3.mono (by omega))).trans (Upon.putObj _ _ hlW)
    have leave : ∀ (W3 : World) (c : Code), Upon B (Wa.putObj l (.loop { r0 with state := .busy })) W3 → Ix c (pre ++ [x]) W3 →
        ∃ v W4, (Instr.endRound l (some c)).run P W3 = .ok v W4 ∧ ((Ending.returned v = .returned (.bool true) ∧ (I (pre ++ [x]) W4 ∧ W4.heap[l]? = some (.loop r0) ∧ X W4) ∧ Kp W W4 ∧ Upon W1.heap.size W W4) ∨ (Ending.returned v = .returned (.bool false) ∧ (∃ c', Ix c' (pre ++ [x]) W4 ∧ W4.heap[l]? = some (.loop { r0 with state := .done, pending := some c' }) ∧ X W4) ∧ Upon W1.heap.size W W4)) := fun W3 c hk3 hi3 => by
      have hl3 := hk3.at hB hlb
      exact ⟨_, _, run_endRound (some c) hl3, .inr ⟨rfl, ⟨c, (hIx c).putObj _ hi3 hB hl3 rfl, World.putObj_heap_same (Array.getElem?_eq_some_iff.1 hl3).1, hXp _ _ (hXk _ _ hk3 (hXp _ _ hxa))⟩, upA _ _ hk3⟩⟩
    rintro e a3 W3 hp
    cases e with
    | normal =>
      obtain ⟨hk3, hkp3, hi3⟩ := hp
      have hl3 := hk3.at hB hlb
      have he := run_endRound (P := P) none hl3
      have hre : ({ ({ r0 with state := .busy } : Loop) with state := if (none : Option Code).isNone then .ready else .done, pending := none } : Loop) = r0 := by
        cases r0
        simp only at hst hpe
        subst hst hpe
        rfl
      rw [hre] at he
      exact ⟨_, _, he, .inl ⟨rfl, ⟨hI.putObj _ hi3 hB hl3 rfl, World.putObj_heap_same (Array.getElem?_eq_some_iff.1 hl3).1, hXp _ _ (hXk _ _ hk3 (hXp _ _ hxa))⟩, hKt (hKt hkb hkp3) (hKb _ _ _ hl3 rfl rfl), upA _ _ hk3⟩⟩
    | ret => exact leave W3 .ret hp.1 hp.2
    | exit id => exact leave W3 (.exit id) hp.1 hp.2
    | goto t => exact leave W3 (.goto t) hp.1 hp.2
    | panic ch => exact hp.elim
    | outgrown => exact hp.elim
  · rintro e W2 ⟨hv, ⟨xs, hS, hi, hl, hx⟩ | ⟨pre, hSp, c, hi, hl, hx⟩⟩
    · exact ⟨hv, .inl ⟨xs, hS, hi, hl, hx⟩⟩
    · exact ⟨hv, .inr ⟨pre, c, hSp, hi, hl, hx⟩⟩
/-- a range over such an iterator, the outermost -/
theorem range_outer {α : Type} {F : Fence} {n : Nat} {P : Program} {g : Operand} {ps : Array Tmp} {assign body : Code} {Q : Exit → Act → World → Prop} {a : Act} {w : World} (hro : F.round = none) (h1 : 1 ≤ n) {gf : Nat} {lb : Array Value} (hg : a.eval g = .func (.func gf) #[] lb) (hFg : F.fn gf) (eg : ∀ args w, (callFunc gf args).run P w = .ok (.enter gf args) w)
    {encs : α → Array Value} {Kp : World → World → Prop} {S Sp : List α → Prop} {N : Nat} {w0 : World} (hseq : SeqOwn F (n - 1) P gf lb encs Kp S Sp N w0)
    (hKt : ∀ {A B C : World}, Kp A B → Kp B C → Kp A C) (hKb : ∀ (W : World) (l : Nat) (o o' : Obj), w.heap.size ≤ l → W.heap[l]? = some o → o.isCells = false → o.isWalk = false → Kp W (W.putObj l o')) (hb0 : Below w0.heap.size w0 w) (hps : ∀ x, (encs x).size = ps.size)
    (I : List α → World → Prop) (Ix : Code → List α → World → Prop) (hI : OwnFrom w.heap.size I) (hIx : ∀ c, OwnFrom w.heap.size (Ix c)) (h0 : I [] w) (Ax : α → Act → World → Prop) (hAx : ∀ x a', OwnFrom w.heap.size (fun (_ : Unit) W => Ax x a' W))
    (hassign : ∀ (l : Nat) (pre : List α) (x : α) (W : World) (K : Act → World → Prop), I pre W → (∀ a' W', Upon w.heap.size W W' → Kp W W' → I pre W' → Ax x a' W' → K a' W') →
      assign.wpIn (F.inRound l) (n - 1 - 1) P (Exit.then K (fun _ _ _ => False)) { tmps := (ps.zip (encs x)).foldl (fun t (p, v) => t.setIfInBounds p v) a.tmps, defers := [] } W)
    (hbody : ∀ (l : Nat) (pre : List α) (x : α) (a' : Act) (W : World), w.heap.size ≤ l → (∃ r, W.heap[l]? = some (.loop r)) → I pre W → Ax x a' W → pre.length < N → Sp (pre ++ [x]) → body.wpIn (F.inRound l) (n - 1 - 1) P (uponPost w.heap.size Kp I Ix (pre ++ [x]) W) a' W)
    (hdone : ∀ (D : Nat) (xs : List α) (W : World), w.heap.size ≤ D → S xs → I xs W → W.heap[D]? = some (.deferred (some [])) → Q .normal { a with defers := { target := .collected D, args := #[] } :: a.defers } W)
    (hstop : ∀ (D : Nat) (c : Code) (pre : List α) (W : World), w.heap.size ≤ D → Sp pre → Ix c pre W → W.heap[D]? = some (.deferred (some [])) → c.wpIn F n P Q { a with defers := { target := .collected D, args := #[] } :: a.defers } W) :
    (Code.rangeFunc g ps assign body).wpIn F n P Q a w := by
  refine wpIn_rangeFunc fun fn hfn => ?_
  rw [hro]
  obtain ⟨W1, hW1⟩ : ∃ W1, (w.alloc (.deferred (some []))).alloc (.loop { state := .ready, pending := none, fn, tmps := a.tmps, params := ps, assign, body, defers := w.heap.size }) = W1 := ⟨_, rfl⟩
  have hsz : W1.heap.size = w.heap.size + 1 + 1 := by rw [← hW1, World.size_alloc, World.size_alloc]
  have hL : W1.heap[w.heap.size + 1]? = some (.loop { state := .ready, pending := none, fn, tmps := a.tmps, params := ps, assign, body, defers := w.heap.size }) := by
    have := World.alloc_heap_new (w.alloc (.deferred (some []))) (.loop { state := .ready, pending := none, fn, tmps := a.tmps, params := ps, assign, body, defers := w.heap.size })
    rwa [World.size_alloc, hW1] at this
  have hD : W1.heap[w.heap.size]? = some (.deferred (some [])) := by
    rw [← hW1, Below.heap_alloc _ _ _ (by simp)]
    exact World.alloc_heap_new w _
  have hbW : Below w.heap.size w W1 := by
    rw [← hW1]
    exact ((Below.refl _ w).alloc (Nat.le_refl _) _).alloc (by simp) _
  refine ⟨_, _, W1, { target := .fn (.func gf) lb, args := #[.func (.yield (w.heap.size + 1)) #[] #[]] }, W1, gf, #[.func (.yield (w.heap.size + 1)) #[] #[]] ++ lb, W1, hW1 ▸ run_enterLoop_outer _ _ _ _ _, ?_, ?_, ?_, fun _ => h1, ?_⟩
  · simp only [resolve, hg]
    simp [go_sem]
  · intro f' hf'
    simp [Target.leads] at hf'
    subst hf'
    exact hFg
  · simp [invoke, go_sem, eg]
  · refine (seq_core hseq (fun x y => hKt x y) (B := w.heap.size) (l := w.heap.size + 1) (fun W o o' => hKb W _ o o' (by omega)) (hb0.trans (hbW.mono hb0.size)) _ rfl rfl hfn hps hL (by omega) I Ix hI hIx (by rw [← hW1]; exact hI.alloc _ (hI.alloc _ h0)) Ax hAx
      (fun pre x W K => hassign _ pre x W K) (fun pre x a' W => hbody _ pre x a' W (by omega)) (fun W => W.heap[w.heap.size]? = some (.deferred (some []))) hD (fun _ A C row hs hg' hr => low_kept hs (by omega) hg' hr) (fun W o' h => (World.putObj_heap_other (by omega)).trans h) (fun W W' hk h => hk.at (Nat.le_refl _) h)).mono ?_
    rintro e W2 ⟨⟨v, rfl⟩, ⟨xs, hS, hi, hl, hx⟩ | ⟨pre, c, hSp, hi, hl, hx⟩⟩
    · exact ⟨_, _, run_endLoop hl (by simp), hdone _ xs _ (Nat.le_refl _) hS (hI.putObj _ hi (by omega) hl rfl) ((World.putObj_heap_other (by omega)).trans hx)⟩
    · exact ⟨_, _, run_endLoop hl (by simp), hstop _ c pre _ (Nat.le_refl _) hSp ((hIx c).putObj _ hi (by omega) hl rfl) ((World.putObj_heap_other (by omega)).trans hx)⟩
/-- a range that is left by break alone: both ends lead to the same -/
theorem range_break {α : Type} {F : Fence} {n : Nat} {P : Program} {g : Operand} {ps : Array Tmp} {assign body : Code} {id : Nat} {Q : Exit → Act → World → Prop} {a : Act} {w : World} (hro : F.round = none) (h1 : 1 ≤ n) {gf : Nat} {lb : Array Value} (hg : a.eval g = .func (.func gf) #[] lb) (hFg : F.fn gf) (eg : ∀ args w, (callFunc gf args).run P w = .ok (.enter gf args) w)
    {encs : α → Array Value} {Kp : World → World → Prop} {S Sp : List α → Prop} {N : Nat} {w0 : World} (hseq : SeqOwn F (n - 1) P gf lb encs Kp S Sp N w0)
    (hKt : ∀ {A B C : World}, Kp A B → Kp B C → Kp A C) (hKb : ∀ (W : World) (l : Nat) (o o' : Obj), w.heap.size ≤ l → W.heap[l]? = some o → o.isCells = false → o.isWalk = false → Kp W (W.putObj l o')) (hb0 : Below w0.heap.size w0 w) (hps : ∀ x, (encs x).size = ps.size)
    (I Ib : List α → World → Prop) (hI : OwnFrom w.heap.size I) (hIb : OwnFrom w.heap.size Ib) (h0 : I [] w) (Ax : α → Act → World → Prop) (hAx : ∀ x a', OwnFrom w.heap.size (fun (_ : Unit) W => Ax x a' W))
    (hassign : ∀ (l : Nat) (pre : List α) (x : α) (W : World) (K : Act → World → Prop), I pre W → (∀ a' W', Upon w.heap.size W W' → Kp W W' → I pre W' → Ax x a' W' → K a' W') →
      assign.wpIn (F.inRound l) (n - 1 - 1) P (Exit.then K (fun _ _ _ => False)) { tmps := (ps.zip (encs x)).foldl (fun t (p, v) => t.setIfInBounds p v) a.tmps, defers := [] } W)
    (hbody : ∀ (l : Nat) (pre : List α) (x : α) (a' : Act) (W : World), w.heap.size ≤ l → (∃ r, W.heap[l]? = some (.loop r)) → I pre W → Ax x a' W → pre.length < N → Sp (pre ++ [x]) → body.wpIn (F.inRound l) (n - 1 - 1) P (uponPost w.heap.size Kp I (fun c pre W => c = .exit id ∧ Ib pre W) (pre ++ [x]) W) a' W)
    (hend : ∀ (D : Nat) (pre : List α) (W : World), w.heap.size ≤ D → ((S pre ∧ I pre W) ∨ (Sp pre ∧ Ib pre W)) → W.heap[D]? = some (.deferred (some [])) → Q .normal { a with defers := { target := .collected D, args := #[] } :: a.defers } W) :
    (Code.rangeFunc g ps assign body).wpIn F n P (Exit.inBlock id Q) a w :=
  range_outer hro h1 hg hFg eg hseq hKt hKb hb0 hps I (fun c pre W => c = .exit id ∧ Ib pre W) hI (fun c s A C row h hg hr => ⟨h.1, hIb s A C row h.2 hg hr⟩) h0 Ax hAx hassign hbody
    (fun D xs W hD hS hi hd => hend D xs W hD (.inl ⟨hS, hi⟩) hd)
    (fun D c pre W hD hS hi hd => by
      obtain ⟨rfl, hi⟩ := hi
      refine wpIn_exit ?_
      simp only [Exit.inBlock, if_true]
      exact hend D pre W hD (.inr ⟨hS, hi⟩) hd)
/-- a range over such an iterator, within a round of another -/
theorem range_inner {α : Type} {F : Fence} {n : Nat} {P : Program} {g : Operand} {ps : Array Tmp} {assign body : Code} {Q : Exit → Act → World → Prop} {a : Act} {w : World} {l0 : Nat} {q0 : Loop} (hro : F.round = some l0) (hq0 : w.heap[l0]? = some (.loop q0)) (h1 : 1 ≤ n) {gf : Nat} {lb : Array Value} (hg : a.eval g = .func (.func gf) #[] lb) (hFg : F.fn gf) (eg : ∀ args w, (callFunc gf args).run P w = .ok (.enter gf args) w)
    {encs : α → Array Value} {Kp : World → World → Prop} {S Sp : List α → Prop} {N : Nat} {w0 : World} (hseq : SeqOwn F (n - 1) P gf lb encs Kp S Sp N w0)
    (hKt : ∀ {A B C : World}, Kp A B → Kp B C → Kp A C) (hKb : ∀ (W : World) (l : Nat) (o o' : Obj), w.heap.size ≤ l → W.heap[l]? = some o → o.isCells = false → o.isWalk = false → Kp W (W.putObj l o')) (hb0 : Below w0.heap.size w0 w) (hps : ∀ x, (encs x).size = ps.size)
    (I : List α → World → Prop) (Ix : Code → List α → World → Prop) (hI : OwnFrom w.heap.size I) (hIx : ∀ c, OwnFrom w.heap.size (Ix c)) (h0 : I [] w) (Ax : α → Act → World → Prop) (hAx : ∀ x a', OwnFrom w.heap.size (fun (_ : Unit) W => Ax x a' W))
    (hassign : ∀ (l : Nat) (pre : List α) (x : α) (W : World) (K : Act → World → Prop), I pre W → (∀ a' W', Upon w.heap.size W W' → Kp W W' → I pre W' → Ax x a' W' → K a' W') →
      assign.wpIn (F.inRound l) (n - 1 - 1) P (Exit.then K (fun _ _ _ => False)) { tmps := (ps.zip (encs x)).foldl (fun t (p, v) => t.setIfInBounds p v) a.tmps, defers := [] } W)
    (hbody : ∀ (l : Nat) (pre : List α) (x : α) (a' : Act) (W : World), w.heap.size ≤ l → (∃ r, W.heap[l]? = some (.loop r)) → I pre W → Ax x a' W → pre.length < N → Sp (pre ++ [x]) → body.wpIn (F.inRound l) (n - 1 - 1) P (uponPost w.heap.size Kp I Ix (pre ++ [x]) W) a' W)
    (hdone : ∀ (xs : List α) (W : World), S xs → I xs W → Q .normal a W)
    (hstop : ∀ (c : Code) (pre : List α) (W : World), Sp pre → Ix c pre W → c.wpIn F n P Q a W) :
    (Code.rangeFunc g ps assign body).wpIn F n P Q a w := by
  refine wpIn_rangeFunc fun fn hfn => ?_
  rw [hro]
  obtain ⟨W1, hW1⟩ : ∃ W1, w.alloc (.loop { state := .ready, pending := none, fn, tmps := a.tmps, params := ps, assign, body, defers := q0.defers }) = W1 := ⟨_, rfl⟩
  have hsz : W1.heap.size = w.heap.size + 1 := by rw [← hW1, World.size_alloc]
  have hL : W1.heap[w.heap.size]? = some (.loop { state := .ready, pending := none, fn, tmps := a.tmps, params := ps, assign, body, defers := q0.defers }) := by rw [← hW1]; exact World.alloc_heap_new w _
  have hbW : Below w.heap.size w W1 := by rw [← hW1]; exact (Below.refl _ w).alloc (Nat.le_refl _) _
  refine ⟨_, _, W1, { target := .fn (.func gf) lb, args := #[.func (.yield w.heap.size) #[] #[]] }, W1, gf, #[.func (.yield w.heap.size) #[] #[]] ++ lb, W1, hW1 ▸ run_enterLoop_inner hq0 _ _ _ _ _, ?_, ?_, ?_, fun _ => h1, ?_⟩
  · simp only [resolve, hg]
    simp [go_sem]
  · intro f' hf'
    simp [Target.leads] at hf'
    subst hf'
    exact hFg
  · simp [invoke, go_sem, eg]
  · refine (seq_core hseq (fun x y => hKt x y) (B := w.heap.size) (l := w.heap.size) (fun W o o' => hKb W _ o o' (Nat.le_refl _)) (hb0.trans (hbW.mono hb0.size)) _ rfl rfl hfn hps hL (Nat.le_refl _) I Ix hI hIx (by rw [← hW1]; exact hI.alloc _ h0) Ax hAx
      (fun pre x W K => hassign _ pre x W K) (fun pre x a' W => hbody _ pre x a' W (Nat.le_refl _)) (fun _ => True) trivial (fun _ _ _ _ _ _ _ => trivial) (fun _ _ _ => trivial) (fun _ _ _ _ => trivial)).mono ?_
    rintro e W2 ⟨⟨v, rfl⟩, ⟨xs, hS, hi, hl, _⟩ | ⟨pre, c, hSp, hi, hl, _⟩⟩
    · exact ⟨_, _, run_endLoop hl (by simp), hdone xs _ hS (hI.putObj _ hi (Nat.le_refl _) hl rfl)⟩
    · exact ⟨_, _, run_endLoop hl (by simp), hstop c pre _ hSp ((hIx c).putObj _ hi (Nat.le_refl _) hl rfl)⟩
end Go.Proofs.YtgbpfejodpplbaaGreatDoor
namespace Go.Proofs.YtgbpfejodpplbaaGreatDoor
open Go.RowKit
set_option maxRecDepth 100000

/-- an operation that lays nothing aside -/
def noDefer (o : Oper) : Bool := match o.op with | .defer _ => false | _ => true
theorem noDefer_spec {o : Oper} (h : noDefer o = true) : ∀ c, o.op ≠ .defer c := by
  intro c e
  simp [noDefer, e] at h
theorem op_plain {F : Fence} {n : Nat} {P : Program} {o : Oper} {a : Act} {w : World} {K : Act → World → Prop} {Q : Exit → Act → World → Prop} (hd : noDefer o = true) (h : o.wpIn F.plain n P a w K Q) : o.wpIn F n P a w K Q := by
  unfold Oper.wpIn at *
  rw [Oper.semAt_plain F.plain _ o (noDefer_spec hd)] at h
  rw [Oper.semAt_plain F _ o (noDefer_spec hd)]
  exact h
theorem any_plain {F : Fence} {n : Nat} {P : Program} {md : Region.Mode} {ops : Array Oper} {Q : Exit → Act → World → Prop} (hd : ∀ (i : Nat) (o : Oper), ops[i]? = some o → noDefer o = true) :
    ∀ (fuel : Nat) (listed : Array Bool) (a : Act) (w : World), wpAnyIn F.plain n P md ops Q fuel listed a w → wpAnyIn F n P md ops Q fuel listed a w
  | 0, _, _, _, h => h
  | fuel + 1, _, _, _, h => ⟨h.1, fun i hi => by
    have := wpOpIn_mono (fun a w => any_plain hd fuel _ a w) (h.2 i hi)
    unfold wpOpIn at this ⊢
    split
    · rename_i ho; simp only [ho] at this; exact this
    · rename_i o ho
      simp only [ho] at this
      split
      · rename_i hw; simp only [hw, if_true] at this; exact op_plain (hd i o ho) this
      · rename_i hw; simp only [hw] at this; exact this⟩
theorem region_quiet_r {F : Fence} {n : Nat} {P : Program} {id : Nat} {Q : Exit → Act → World → Prop} {a : Act} {w : World} {l : List Oper} (hd : l.all noDefer = true) (hm : P.follows .mixedOrders = true) (hB : Region.lexB .any l.toArray = true)
    (h : wpQuietIn F.plain n P l.toArray (fun w' => ∃ n, w' = w.drewN n) (fun a' => ∀ w', (∃ n, w' = w.drewN n) → Q .normal a' w') l a) : (Code.region id l.toArray true).wpIn F n P Q a w := by
  simp only [Region.lexB, Bool.and_eq_true] at hB
  have hd' : ∀ (i : Nat) (o : Oper), l.toArray[i]? = some o → noDefer o = true := fun i o ho => List.all_eq_true.1 hd o (List.mem_of_getElem? (by simpa using ho))
  refine wpIn_region_any hm (any_plain hd' _ _ _ _ (wpAnyIn_of_quiet (F := F.plain) (C := fun w' => ∃ n, w' = w.drewN n) (Q := fun a' => ∀ w', (∃ n, w' = w.drewN n) → Q .normal a' w') rfl (fun _ w' hw' h => h w' hw') _ _ _ _ ⟨1, rfl⟩ ?_))
  have := wpAnyQIn_lex (F := F.plain) (n := n) (C := fun w' => ∃ n, w' = w.drewN n) (md := .any) hB.1 l 0 (Array.replicate l.toArray.size false) a (by simp) (by simpa using hB.2) h
  simpa using this
end Go.Proofs.YtgbpfejodpplbaaGreatDoor
