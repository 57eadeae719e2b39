import Derived.Test.YtnlfgijmkgihcaaDoorPSu
namespace Go.Proofs.YtnlfgijmkgihcaaDoor
open Go.RowKit Go.WideShapes
set_option maxRecDepth 100000

/-- a set in memory: its object, its words -/
structure SetRI (w : World) (p g bound : Nat) (ws : List Nat) (n : Nat) : Prop where
  obj : w.heap[p]? = some (.cells #[.pointer (some ⟨p, 0, none⟩), .int .i64 bound, .slice (some ⟨g, 0, none⟩) ws.length ws.length, .int .i64 n] 45 (0, 0))
  row : w.ownsRow 0 82 1 (.slice (some ⟨g, 0, none⟩) ws.length ws.length) ws.length (uv ws)
  ne : p ≠ g
  len : ws.length = (bound + 63) / 64
  bd : bound ≤ 1048576
  wf : ∀ z ∈ ws, z < 2 ^ 64
  hi : ∀ x, hasW ws x = true → x < bound
/-- a set whose count is right -/
abbrev SetSI (w : World) (p g bound : Nat) (ws : List Nat) : Prop := SetRI w p g bound ws (els bound (hasW ws)).length
theorem SetRI.kept {S : Nat → Prop} {w w' : World} {p g bound : Nat} {ws : List Nat} {n : Nat} (h : SetRI w p g bound ws n) (hk : Kp S w w') (hp : ¬ S p) (hg : ¬ S g) : SetRI w' p g bound ws n :=
  ⟨by rw [hk.block p (Array.getElem?_eq_some_iff.1 h.obj).1 hp]; exact h.obj, hk.own h.row (fun k e => by cases e; exact hg), h.ne, h.len, h.bd, h.wf, h.hi⟩
theorem SetRI.ltp {w : World} {p g bound : Nat} {ws : List Nat} {n : Nat} (h : SetRI w p g bound ws n) : p < w.heap.size := (Array.getElem?_eq_some_iff.1 h.obj).1
theorem SetRI.ltg {w : World} {p g bound : Nat} {ws : List Nat} {n : Nat} (h : SetRI w p g bound ws n) : g < w.heap.size := (h.row.lt g rfl).2
theorem seq_selfI (a : Nat) (w : World) : (binOp .eql 42 (.pointer (some ⟨a, 0, none⟩)) (.pointer (some ⟨a, 0, none⟩))).run Tryd.prog w = .ok (.bool true) w := by
  have h : (Tryd.prog.info? 45).map (·.size) = some 4 := by kernel_rfl
  cases hi : Tryd.prog.info? 45 with
  | none => rw [hi] at h; cases h
  | some i => exact run_eql_ptr_same w ⟨a, 0, none⟩ Tryd.underlying42 hi
theorem smade_anyI (a : Nat) (w : World) (hc : w.cell? ⟨a, 0, none⟩ = some (.pointer (some ⟨a, 0, none⟩))) :
    Calls Tryd.prog 41 #[.pointer (some ⟨a, 0, none⟩)] w fun e w' => e = .returned (.bool true) ∧ w' = w := by
  have hq := seq_selfI a w
  go_enter Tryd.func41, Tryd.ntmps41
  go_wp2
  go_ret
  exact ⟨rfl, rfl⟩
theorem sfor_anyI (a : Nat) (bound x : Nat) (w : World) (hc : w.cell? ⟨a, 0, none⟩ = some (.pointer (some ⟨a, 0, none⟩))) (hb1 : w.cell? ⟨a, 1, none⟩ = some (.int .i64 bound)) :
    Calls Tryd.prog 39 #[.pointer (some ⟨a, 0, none⟩), .int .i64 x] w fun e w' => e = .returned (.bool (decide (x < bound))) ∧ w' = w := by
  go_enter Tryd.func39, Tryd.ntmps39
  go_wp2_with (go_at_call 41; refine (smade_anyI _ _ hc).mono ?_; rintro e w' ⟨rfl, hw'⟩; subst hw')
  go_ret
  exact ⟨rfl, rfl⟩
theorem SetRI.c0 {w : World} {p g bound : Nat} {ws : List Nat} {n : Nat} (h : SetRI w p g bound ws n) : w.cell? ⟨p, 0, none⟩ = some (.pointer (some ⟨p, 0, none⟩)) := obj_cell h.obj 0
theorem SetRI.c1 {w : World} {p g bound : Nat} {ws : List Nat} {n : Nat} (h : SetRI w p g bound ws n) : w.cell? ⟨p, 1, none⟩ = some (.int .i64 bound) := obj_cell h.obj 1
theorem SetRI.c2 {w : World} {p g bound : Nat} {ws : List Nat} {n : Nat} (h : SetRI w p g bound ws n) : w.cell? ⟨p, 2, none⟩ = some (.slice (some ⟨g, 0, none⟩) ws.length ws.length) := obj_cell h.obj 2
theorem SetRI.c3 {w : World} {p g bound : Nat} {ws : List Nat} {n : Nat} (h : SetRI w p g bound ws n) : w.cell? ⟨p, 3, none⟩ = some (.int .i64 n) := obj_cell h.obj 3
theorem SetRI.word {w : World} {p g bound : Nat} {ws : List Nat} {n : Nat} (h : SetRI w p g bound ws n) {i : Nat} (hi : i < ws.length) : w.cell? ⟨g, i, none⟩ = some (.int .u64 ((ws.getD i 0 : Nat) : Int)) := by
  rw [h.row.cellAt i (by omega)]
  simp [uv, hi]
theorem SetRI.top {w : World} {p g bound : Nat} {ws : List Nat} {n : Nat} (h : SetRI w p g bound ws n) {x : Nat} (hx : x < bound) : x / 64 < ws.length := by have := h.len; omega
set_option maxHeartbeats 1000000 in
theorem has_anyI (p g bound x n : Nat) (ws : List Nat) (w : World) (hx : x < 9223372036854775808) (h : SetRI w p g bound ws n) :
    Calls Tryd.prog 16 #[.pointer (some ⟨p, 0, none⟩), .int .i64 x] w fun e w' => e = .returned (.bool (hasW ws x)) ∧ w' = w := by
  have hF := sfor_anyI p bound x w h.c0 h.c1
  have c2 := h.c2
  have c0 := h.c0
  by_cases hlt : x < bound
  · have ht := h.top hlt
    have hw := h.word ht
    have hd : decide (x < bound) = true := by simp [hlt]
    rw [hd] at hF
    have hz : hasW ws x = (ws.getD (x / 64) 0).testBit (x % 64) := rfl
    have hwl : ws.getD (x / 64) 0 < 18446744073709551616 := by
      rw [List.getD_eq_getElem?_getD, List.getElem?_eq_getElem ht]
      exact h.wf _ (List.getElem_mem ht)
    generalize ws.getD (x / 64) 0 = z at hw hz hwl
    go_enter Tryd.func16, Tryd.ntmps16
    go_wp2_with (go_at_call 39; refine hF.mono ?_; rintro e w' ⟨rfl, hw'⟩; subst hw')
    go_ret
    rw [hz, ← bit_u64 z (x % 64) hwl]
    exact ⟨rfl, rfl⟩
  · have hd : decide (x < bound) = false := by simp [hlt]
    rw [hd] at hF
    have hH : hasW ws x = false := by
      cases he : hasW ws x with
      | false => rfl
      | true => exact absurd (h.hi x he) hlt
    go_enter Tryd.func16, Tryd.ntmps16
    go_wp2_with (go_at_call 39; refine hF.mono ?_; rintro e w' ⟨rfl, hw'⟩; subst hw')
    go_ret
    rw [hH]
    exact ⟨rfl, rfl⟩
theorem SetRI.flip {w : World} {p g bound : Nat} {ws : List Nat} {n x : Nat} (h : SetRI w p g bound ws n) (hx : x < bound) :
    SetRI ((w.setCell ⟨g, x / 64, none⟩ (.int .u64 ((ws.getD (x / 64) 0 ^^^ 2 ^ (x % 64) : Nat) : Int))).drew) p g bound (flipW ws x) n := by
  have ht := h.top hx
  refine ⟨?_, ?_, h.ne, by rw [flipW_len]; exact h.len, h.bd, flipW_lt h.wf, fun y hy => ?_⟩
  · rw [flipW_len]
    exact (Below.heap_setCell w ⟨g, x / 64, none⟩ _ p h.ne).trans h.obj
  · rw [flipW_len]
    have := (h.row.stored (x / 64) (.int .u64 ((ws.getD (x / 64) 0 ^^^ 2 ^ (x % 64) : Nat) : Int))).1
    rw [show uv (flipW ws x) = (uv ws).set (x / 64) (.int .u64 ((ws.getD (x / 64) 0 ^^^ 2 ^ (x % 64) : Nat) : Int)) by simp [uv, flipW, List.map_set]]
    exact this
  · rw [hasW_flip ht] at hy
    by_cases he : y = x
    · omega
    · simp [he] at hy; exact h.hi y hy
theorem SetRI.recount {w : World} {p g bound : Nat} {ws : List Nat} {n : Nat} (h : SetRI w p g bound ws n) (m : Nat) : SetRI (w.setCell ⟨p, 3, none⟩ (.int .i64 m)) p g bound ws m := by
  refine ⟨?_, ?_, h.ne, h.len, h.bd, h.wf, h.hi⟩
  · rw [heap_setCell_same w p 3 _ _ _ h.obj]
    rfl
  · exact (Kp.setCell (S := fun k => k = p) w ⟨p, 3, none⟩ _ rfl).own h.row (fun k e => by cases e; exact fun e => h.ne e.symm)
set_option maxHeartbeats 1000000 in
theorem turn_anyI (p g bound x n : Nat) (ws : List Nat) (w : World) (hx : x < bound) (h : SetRI w p g bound ws n) :
    Calls Tryd.prog 40 #[.pointer (some ⟨p, 0, none⟩), .int .i64 x] w fun e w' => e = .returned (.tuple #[]) ∧ SetRI w' p g bound (flipW ws x) n ∧ Kp (fun k => k = p ∨ k = g) w w' ∧ w'.heap.size = w.heap.size := by
  have HF := hidS (h.flip hx)
  have c2 := h.c2
  have ht := h.top hx
  have hw := h.word ht
  have fz := h.row.frozenAt (x / 64)
  have hb := h.bd
  have hwl : ws.getD (x / 64) 0 < 18446744073709551616 := by
    rw [List.getD_eq_getElem?_getD, List.getElem?_eq_getElem ht]
    exact h.wf _ (List.getElem_mem ht)
  generalize ws.getD (x / 64) 0 = z at hw hwl HF
  have hp : 2 ^ (x % 64) < 2 ^ 64 := Nat.pow_lt_pow_right (by decide) (Nat.mod_lt _ (by decide))
  have hx1 : bits .xor .u64 (z : Int) (IntKind.u64.wrap (2 ^ (x % 64))) = ((z ^^^ 2 ^ (x % 64) : Nat) : Int) := by
    rw [← xor_u64 z (2 ^ (x % 64)) hwl (by omega), IntKind.wrap_u64]
    congr 1
    have : (2 : Int) ^ (x % 64) = ((2 ^ (x % 64) : Nat) : Int) := by norm_cast
    rw [this]
    generalize 2 ^ (x % 64) = y at hp
    omega
  have HX := hidS hx1
  clear h hp hx1
  go_enter Tryd.func40, Tryd.ntmps40
  go_wp2
  go_region
  rw [HX.out]
  go_end0
  exact ⟨rfl, HF.out, ⟨rfl, rfl, rfl, by simp, fun k hk hn => Below.heap_setCell _ _ _ _ (fun e => hn (.inr e))⟩, by simp⟩
set_option maxHeartbeats 1000000 in
theorem add_anyI (p g bound x : Nat) (ws : List Nat) (w : World) (hx : x < 9223372036854775808) (h : SetSI w p g bound ws) :
    Calls Tryd.prog 14 #[.pointer (some ⟨p, 0, none⟩), .int .i64 x] w fun e w' => e = .returned (.bool (decide (x < bound) && !hasW ws x)) ∧ SetSI w' p g bound (putW bound ws x) ∧ Kp (fun k => k = p ∨ k = g) w w' ∧ w'.heap.size = w.heap.size := by
  have hF := sfor_anyI p bound x w h.c0 h.c1
  have hH := has_anyI p g bound x _ ws w hx h
  by_cases hlt : x < bound
  · have hd : decide (x < bound) = true := by simp [hlt]
    rw [hd] at hF ⊢
    cases he : hasW ws x with
    | true =>
      rw [he] at hH
      go_enter Tryd.func14, Tryd.ntmps14
      go_wp2_with (first | (go_at_call 39; refine hF.mono ?_; rintro e w' ⟨rfl, hw'⟩; subst hw') | (go_at_call 16; refine hH.mono ?_; rintro e w2 ⟨rfl, hw2⟩; subst hw2))
      go_ret
      refine ⟨rfl, ?_, Kp.refl _ _, rfl⟩
      rw [putW, if_neg (by simp [he])]
      exact h
    | false =>
      rw [he] at hH
      have hT := turn_anyI p g bound x _ ws w hlt h
      have HC := hidS (els_flip_put h.len hlt he)
      have HB := hidS (els_le bound (hasW ws))
      have hbd := h.bd
      generalize (els bound (hasW ws)).length = n at hT HC HB
      go_enter Tryd.func14, Tryd.ntmps14
      go_wp2_with (first | (go_at_call 39; refine hF.mono ?_; rintro e w' ⟨rfl, hw'⟩; subst hw') | (go_at_call 16; refine hH.mono ?_; rintro e w2 ⟨rfl, hw2⟩; subst hw2) | (go_at_call 40; refine hT.mono ?_; rintro e w3 ⟨rfl, hq, hk, hz⟩; have c3 := hq.c3; have f3 := obj_frozen hq.obj 3; have hnb : n ≤ 1048576 := by (have := HB.out; omega)))
      go_ret
      refine ⟨rfl, ?_, hk.trans (Kp.setCell (S := fun k => k = p ∨ k = g) _ _ _ (.inl rfl)) (fun _ _ e => e), by simp [hz]⟩
      have := hq.recount (n + 1)
      rw [putW, if_pos ⟨hlt, he⟩]
      unfold SetSI
      rw [HC.out]
      exact this
  · have hd : decide (x < bound) = false := by simp [hlt]
    rw [hd] at hF ⊢
    go_enter Tryd.func14, Tryd.ntmps14
    go_wp2_with (first | (go_at_call 39; refine hF.mono ?_; rintro e w' ⟨rfl, hw'⟩; subst hw'))
    go_ret
    refine ⟨rfl, ?_, Kp.refl _ _, rfl⟩
    rw [putW, if_neg (by simp [hlt])]
    exact h
set_option maxHeartbeats 1000000 in
theorem drop_anyI (p g bound x : Nat) (ws : List Nat) (w : World) (hx : x < 9223372036854775808) (h : SetSI w p g bound ws) :
    Calls Tryd.prog 15 #[.pointer (some ⟨p, 0, none⟩), .int .i64 x] w fun e w' => e = .returned (.bool (hasW ws x)) ∧ SetSI w' p g bound (dropW ws x) ∧ Kp (fun k => k = p ∨ k = g) w w' ∧ w'.heap.size = w.heap.size := by
  have hH := has_anyI p g bound x _ ws w hx h
  cases he : hasW ws x with
  | false =>
    rw [he] at hH
    go_enter Tryd.func15, Tryd.ntmps15
    go_wp2_with (first | (go_at_call 16; refine hH.mono ?_; rintro e w2 ⟨rfl, hw2⟩; subst hw2))
    go_ret
    refine ⟨rfl, ?_, Kp.refl _ _, rfl⟩
    rw [dropW, if_neg (by simp [he])]
    exact h
  | true =>
    rw [he] at hH
    have hlt := h.hi x he
    have hT := turn_anyI p g bound x _ ws w hlt h
    have hc1 := els_flip_drop h.len hlt he
    have HB := hidS (els_le bound (hasW ws))
    have hbd := h.bd
    have hn1 : 1 ≤ (els bound (hasW ws)).length := by omega
    have HC := hidS hc1
    clear hc1
    generalize (els bound (hasW ws)).length = n at hT HC HB hn1
    go_enter Tryd.func15, Tryd.ntmps15
    go_wp2_with (first | (go_at_call 16; refine hH.mono ?_; rintro e w2 ⟨rfl, hw2⟩; subst hw2) | (go_at_call 40; refine hT.mono ?_; rintro e w3 ⟨rfl, hq, hk, hz⟩; have c3 := hq.c3; have f3 := obj_frozen hq.obj 3; have hnb : n ≤ 1048576 := by (have := HB.out; omega)))
    go_ret
    refine ⟨rfl, ?_, hk.trans (Kp.setCell (S := fun k => k = p ∨ k = g) _ _ _ (.inl rfl)) (fun _ _ e => e), by simp [hz]⟩
    have := hq.recount (n - 1)
    rw [dropW, if_pos he]
    unfold SetSI
    have e1 : (els bound (hasW (flipW ws x))).length = n - 1 := by have := HC.out; omega
    rw [e1]
    rw [show ((n - 1 : Nat) : Int) = (n : Int) - 1 by omega] at this
    exact this
theorem len_anyI (p g bound n : Nat) (ws : List Nat) (w : World) (h : SetRI w p g bound ws n) :
    Calls Tryd.prog 17 #[.pointer (some ⟨p, 0, none⟩)] w fun e w' => e = .returned (.int .i64 n) ∧ w' = w := by
  have hM := smade_anyI p w h.c0
  have c3 := h.c3
  go_enter Tryd.func17, Tryd.ntmps17
  go_wp2_with (go_at_call 41; refine hM.mono ?_; rintro e w2 ⟨rfl, hw2⟩; subst hw2)
  go_ret
  exact ⟨rfl, rfl⟩
theorem held_anyI (p g bound n : Nat) (ws : List Nat) (w : World) (h : SetRI w p g bound ws n) :
    Calls Tryd.prog 42 #[.pointer (some ⟨p, 0, none⟩)] w fun e w' => e = .returned (.slice (some ⟨g, 0, none⟩) ws.length ws.length) ∧ w' = w := by
  have hM := smade_anyI p w h.c0
  have c2 := h.c2
  go_enter Tryd.func42, Tryd.ntmps42
  go_wp2_with (go_at_call 41; refine hM.mono ?_; rintro e w2 ⟨rfl, hw2⟩; subst hw2)
  go_ret
  exact ⟨rfl, rfl⟩
set_option maxHeartbeats 1000000 in
theorem newset_anyI (bound : Nat) (w : World) (hb : bound ≤ 1048576) :
    Calls Tryd.prog 13 #[.int .i64 bound] w fun e w' => ∃ p g, e = .returned (.tuple #[.pointer (some ⟨p, 0, none⟩), .int .i64 0]) ∧ SetSI w' p g bound (List.replicate ((bound + 63) / 64) 0) ∧ w.heap.size ≤ p ∧ w.heap.size ≤ g ∧ Below w.heap.size w w' := by
  obtain ⟨n, hn⟩ : ∃ n, (bound + 63) / 64 = n := ⟨_, rfl⟩
  obtain ⟨w1, hm, hrow, hB⟩ := makeU_any n (by omega) w
  have hq : ((bound : Int) + 64 - 1) / 64 = (n : Int) := by omega
  have HR := hidS hrow
  have HB := hidS hB
  go_enter Tryd.func13, Tryd.ntmps13
  go_wp2
  go_ret2
  have hR := HR.out
  have hgl := (hR.lt w.heap.size rfl).2
  refine ⟨w1.heap.size, w.heap.size, rfl, ⟨?_, ?_, by omega, by simp, hb, by intro z hz; rw [List.eq_of_mem_replicate hz]; decide, fun x hx => by rw [hasW_zeros] at hx; cases hx⟩, by omega, Nat.le_refl _, HB.out.alloc HB.out.size _⟩
  · rw [hn, List.length_replicate]
    have e0 : (els bound (hasW (List.replicate n 0))).length = 0 := by
      unfold els
      rw [List.filter_eq_nil_iff.2 (fun x _ => by rw [hasW_zeros]; simp)]
      rfl
    rw [e0]
    exact heap_alloc_new w1 _
  · rw [hn, List.length_replicate]
    exact (Kp.alloc (S := fun _ => False) w1 _).own (own_base hR (Nat.zero_le _)) (fun _ _ h => h)
theorem SetRI.reads {w : World} {p g bound : Nat} {ws : List Nat} {n : Nat} (h : SetRI w p g bound ws n) : URd w g 0 ws := fun i hi => by rw [Nat.zero_add]; exact h.word hi
set_option maxHeartbeats 1000000 in
set_option maxHeartbeats 1000000 in
theorem negfor_anyI (a : Nat) (x : Int) (w : World) (hx : x < 0) (hx2 : -9223372036854775808 ≤ x) (hc : w.cell? ⟨a, 0, none⟩ = some (.pointer (some ⟨a, 0, none⟩))) :
    Calls Tryd.prog 39 #[.pointer (some ⟨a, 0, none⟩), .int .i64 x] w fun e w' => e = .returned (.bool false) ∧ w' = w := by
  have hd : decide (0 ≤ x) = false := decide_eq_false (by omega)
  have hn : ¬ 0 ≤ x := by omega
  go_enter Tryd.func39, Tryd.ntmps39
  go_wp2_with (go_at_call 41; refine (smade_anyI _ _ hc).mono ?_; rintro e w' ⟨rfl, hw'⟩; subst hw')
  go_ret
  exact ⟨rfl, rfl⟩
theorem neghas_anyI (a : Nat) (x : Int) (w : World) (hx : x < 0) (hx2 : -9223372036854775808 ≤ x) (hc : w.cell? ⟨a, 0, none⟩ = some (.pointer (some ⟨a, 0, none⟩))) :
    Calls Tryd.prog 16 #[.pointer (some ⟨a, 0, none⟩), .int .i64 x] w fun e w' => e = .returned (.bool false) ∧ w' = w := by
  have hF := negfor_anyI a x w hx hx2 hc
  go_enter Tryd.func16, Tryd.ntmps16
  go_wp2_with (go_at_call 39; refine hF.mono ?_; rintro e w' ⟨rfl, hw'⟩; subst hw')
  go_ret
  exact ⟨rfl, rfl⟩
theorem negadd_anyI (a : Nat) (x : Int) (w : World) (hx : x < 0) (hx2 : -9223372036854775808 ≤ x) (hc : w.cell? ⟨a, 0, none⟩ = some (.pointer (some ⟨a, 0, none⟩))) :
    Calls Tryd.prog 14 #[.pointer (some ⟨a, 0, none⟩), .int .i64 x] w fun e w' => e = .returned (.bool false) ∧ w' = w := by
  have hF := negfor_anyI a x w hx hx2 hc
  go_enter Tryd.func14, Tryd.ntmps14
  go_wp2_with (go_at_call 39; refine hF.mono ?_; rintro e w' ⟨rfl, hw'⟩; subst hw')
  go_ret
  exact ⟨rfl, rfl⟩
theorem negdrop_anyI (a : Nat) (x : Int) (w : World) (hx : x < 0) (hx2 : -9223372036854775808 ≤ x) (hc : w.cell? ⟨a, 0, none⟩ = some (.pointer (some ⟨a, 0, none⟩))) :
    Calls Tryd.prog 15 #[.pointer (some ⟨a, 0, none⟩), .int .i64 x] w fun e w' => e = .returned (.bool false) ∧ w' = w := by
  have hF := neghas_anyI a x w hx hx2 hc
  go_enter Tryd.func15, Tryd.ntmps15
  go_wp2_with (go_at_call 16; refine hF.mono ?_; rintro e w' ⟨rfl, hw'⟩; subst hw')
  go_ret
  exact ⟨rfl, rfl⟩
end Go.Proofs.YtnlfgijmkgihcaaDoor
