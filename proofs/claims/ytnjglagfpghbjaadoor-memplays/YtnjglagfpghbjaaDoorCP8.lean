import Derived.Test.YtnjglagfpghbjaaDoorCP7
import Derived.Test.YtnjglagfpghbjaaDoorCP4
namespace Go.Proofs.YtnjglagfpghbjaaDoor
open Go.RowKit Go.WideShapes
set_option maxRecDepth 100000

/-- Go's table, as far as it is read -/
structure TabA (w : World) : Prop where
  t8 : w.cell? ⟨1, 61, none⟩ = some (.int .u8 8)
  t9 : w.cell? ⟨1, 59, none⟩ = some (.int .u8 9)
  t10 : w.cell? ⟨1, 55, none⟩ = some (.int .u8 10)
  t11 : w.cell? ⟨1, 47, none⟩ = some (.int .u8 11)
  t12 : w.cell? ⟨1, 30, none⟩ = some (.int .u8 12)
  t13 : w.cell? ⟨1, 60, none⟩ = some (.int .u8 13)
  t14 : w.cell? ⟨1, 57, none⟩ = some (.int .u8 14)
  t15 : w.cell? ⟨1, 51, none⟩ = some (.int .u8 15)
  t16 : w.cell? ⟨1, 39, none⟩ = some (.int .u8 16)
theorem TabA.below {B : Nat} {w w' : World} (h : TabA w) (hb : Below B w w') (hB : 1 < B) : TabA w' :=
  ⟨(hb.cell (p := ⟨1, 61, none⟩) hB).trans h.t8, (hb.cell (p := ⟨1, 59, none⟩) hB).trans h.t9, (hb.cell (p := ⟨1, 55, none⟩) hB).trans h.t10, (hb.cell (p := ⟨1, 47, none⟩) hB).trans h.t11, (hb.cell (p := ⟨1, 30, none⟩) hB).trans h.t12, (hb.cell (p := ⟨1, 60, none⟩) hB).trans h.t13, (hb.cell (p := ⟨1, 57, none⟩) hB).trans h.t14, (hb.cell (p := ⟨1, 51, none⟩) hB).trans h.t15, (hb.cell (p := ⟨1, 39, none⟩) hB).trans h.t16⟩
theorem tzA_8 (w : World) (hc : w.cell? ⟨1, 61, none⟩ = some (.int .u8 8)) : Calls Tryd.prog 72 #[.int .u64 256] w fun e w' => e = .returned (.int .i64 8) ∧ w' = w := by
  have hb : bits .and .u64 256 18446744073709551360 = 256 := by kernel_rfl
  have hw0 : IntKind.u64.wrap (-256) = 18446744073709551360 := by kernel_rfl
  have hw1 : IntKind.u64.wrap 73182774541146589440 = 17842542320017934592 := by kernel_rfl
  go_enter Tryd.func72, Tryd.ntmps72
  go_wp2
  go_ret
  exact ⟨rfl, rfl⟩
theorem tzB_8 (w : World) (hc : w.cell? ⟨1, 61, none⟩ = some (.int .u8 8)) : Calls Tryd.prog 65 #[.int .u64 256] w fun e w' => e = .returned (.int .i64 8) ∧ w' = w := by
  have hO := tzA_8 w hc
  clear hc
  go_enter Tryd.func65, Tryd.ntmps65
  go_wp2_with (first
    | (go_at_call 72; with_reducible refine hO.mono ?_; rintro e wq ⟨rfl, hq⟩; subst wq)
    | fail)
  go_ret
  exact ⟨rfl, rfl⟩
theorem bitsA_8 (a g cap : Nat) (bs : List Int) (lg : Bool) (tv : Value) (ts : List (Int × Bool)) (w : World) (h : MemS w a g cap bs lg tv ts) (hl : bs.length = 256) (hc : w.cell? ⟨1, 61, none⟩ = some (.int .u8 8)) :
    Calls Tryd.prog 51 #[.pointer (some ⟨a, 0, none⟩)] w fun e w' => e = .returned (.int .i64 8) ∧ w' = w := by
  have hO := tzB_8 w hc
  have hM := made_yes a w ((obj_cell h.obj 0).trans rfl)
  have c1 : w.cell? ⟨a, 1, none⟩ = some (.slice (some ⟨g, 0, none⟩) 256 cap) := by rw [← hl]; exact (obj_cell h.obj 1).trans rfl
  clear h hc
  go_enter Tryd.func51, Tryd.ntmps51
  go_wp2_with (first
    | (go_at_call 24; with_reducible refine hM.mono ?_; rintro e wq ⟨rfl, hq⟩; subst wq)
    | (go_at_call 65; with_reducible refine hO.mono ?_; rintro e wq ⟨rfl, hq⟩; subst wq)
    | fail)
  go_ret
  exact ⟨rfl, rfl⟩
theorem tzA_9 (w : World) (hc : w.cell? ⟨1, 59, none⟩ = some (.int .u8 9)) : Calls Tryd.prog 72 #[.int .u64 512] w fun e w' => e = .returned (.int .i64 9) ∧ w' = w := by
  have hb : bits .and .u64 512 18446744073709551104 = 512 := by kernel_rfl
  have hw0 : IntKind.u64.wrap (-512) = 18446744073709551104 := by kernel_rfl
  have hw1 : IntKind.u64.wrap 146365549082293178880 = 17238340566326317568 := by kernel_rfl
  go_enter Tryd.func72, Tryd.ntmps72
  go_wp2
  go_ret
  exact ⟨rfl, rfl⟩
theorem tzB_9 (w : World) (hc : w.cell? ⟨1, 59, none⟩ = some (.int .u8 9)) : Calls Tryd.prog 65 #[.int .u64 512] w fun e w' => e = .returned (.int .i64 9) ∧ w' = w := by
  have hO := tzA_9 w hc
  clear hc
  go_enter Tryd.func65, Tryd.ntmps65
  go_wp2_with (first
    | (go_at_call 72; with_reducible refine hO.mono ?_; rintro e wq ⟨rfl, hq⟩; subst wq)
    | fail)
  go_ret
  exact ⟨rfl, rfl⟩
theorem bitsA_9 (a g cap : Nat) (bs : List Int) (lg : Bool) (tv : Value) (ts : List (Int × Bool)) (w : World) (h : MemS w a g cap bs lg tv ts) (hl : bs.length = 512) (hc : w.cell? ⟨1, 59, none⟩ = some (.int .u8 9)) :
    Calls Tryd.prog 51 #[.pointer (some ⟨a, 0, none⟩)] w fun e w' => e = .returned (.int .i64 9) ∧ w' = w := by
  have hO := tzB_9 w hc
  have hM := made_yes a w ((obj_cell h.obj 0).trans rfl)
  have c1 : w.cell? ⟨a, 1, none⟩ = some (.slice (some ⟨g, 0, none⟩) 512 cap) := by rw [← hl]; exact (obj_cell h.obj 1).trans rfl
  clear h hc
  go_enter Tryd.func51, Tryd.ntmps51
  go_wp2_with (first
    | (go_at_call 24; with_reducible refine hM.mono ?_; rintro e wq ⟨rfl, hq⟩; subst wq)
    | (go_at_call 65; with_reducible refine hO.mono ?_; rintro e wq ⟨rfl, hq⟩; subst wq)
    | fail)
  go_ret
  exact ⟨rfl, rfl⟩
theorem tzA_10 (w : World) (hc : w.cell? ⟨1, 55, none⟩ = some (.int .u8 10)) : Calls Tryd.prog 72 #[.int .u64 1024] w fun e w' => e = .returned (.int .i64 10) ∧ w' = w := by
  have hb : bits .and .u64 1024 18446744073709550592 = 1024 := by kernel_rfl
  have hw0 : IntKind.u64.wrap (-1024) = 18446744073709550592 := by kernel_rfl
  have hw1 : IntKind.u64.wrap 292731098164586357760 = 16029937058943083520 := by kernel_rfl
  go_enter Tryd.func72, Tryd.ntmps72
  go_wp2
  go_ret
  exact ⟨rfl, rfl⟩
theorem tzB_10 (w : World) (hc : w.cell? ⟨1, 55, none⟩ = some (.int .u8 10)) : Calls Tryd.prog 65 #[.int .u64 1024] w fun e w' => e = .returned (.int .i64 10) ∧ w' = w := by
  have hO := tzA_10 w hc
  clear hc
  go_enter Tryd.func65, Tryd.ntmps65
  go_wp2_with (first
    | (go_at_call 72; with_reducible refine hO.mono ?_; rintro e wq ⟨rfl, hq⟩; subst wq)
    | fail)
  go_ret
  exact ⟨rfl, rfl⟩
theorem bitsA_10 (a g cap : Nat) (bs : List Int) (lg : Bool) (tv : Value) (ts : List (Int × Bool)) (w : World) (h : MemS w a g cap bs lg tv ts) (hl : bs.length = 1024) (hc : w.cell? ⟨1, 55, none⟩ = some (.int .u8 10)) :
    Calls Tryd.prog 51 #[.pointer (some ⟨a, 0, none⟩)] w fun e w' => e = .returned (.int .i64 10) ∧ w' = w := by
  have hO := tzB_10 w hc
  have hM := made_yes a w ((obj_cell h.obj 0).trans rfl)
  have c1 : w.cell? ⟨a, 1, none⟩ = some (.slice (some ⟨g, 0, none⟩) 1024 cap) := by rw [← hl]; exact (obj_cell h.obj 1).trans rfl
  clear h hc
  go_enter Tryd.func51, Tryd.ntmps51
  go_wp2_with (first
    | (go_at_call 24; with_reducible refine hM.mono ?_; rintro e wq ⟨rfl, hq⟩; subst wq)
    | (go_at_call 65; with_reducible refine hO.mono ?_; rintro e wq ⟨rfl, hq⟩; subst wq)
    | fail)
  go_ret
  exact ⟨rfl, rfl⟩
theorem tzA_11 (w : World) (hc : w.cell? ⟨1, 47, none⟩ = some (.int .u8 11)) : Calls Tryd.prog 72 #[.int .u64 2048] w fun e w' => e = .returned (.int .i64 11) ∧ w' = w := by
  have hb : bits .and .u64 2048 18446744073709549568 = 2048 := by kernel_rfl
  have hw0 : IntKind.u64.wrap (-2048) = 18446744073709549568 := by kernel_rfl
  have hw1 : IntKind.u64.wrap 585462196329172715520 = 13613130044176615424 := by kernel_rfl
  go_enter Tryd.func72, Tryd.ntmps72
  go_wp2
  go_ret
  exact ⟨rfl, rfl⟩
theorem tzB_11 (w : World) (hc : w.cell? ⟨1, 47, none⟩ = some (.int .u8 11)) : Calls Tryd.prog 65 #[.int .u64 2048] w fun e w' => e = .returned (.int .i64 11) ∧ w' = w := by
  have hO := tzA_11 w hc
  clear hc
  go_enter Tryd.func65, Tryd.ntmps65
  go_wp2_with (first
    | (go_at_call 72; with_reducible refine hO.mono ?_; rintro e wq ⟨rfl, hq⟩; subst wq)
    | fail)
  go_ret
  exact ⟨rfl, rfl⟩
theorem bitsA_11 (a g cap : Nat) (bs : List Int) (lg : Bool) (tv : Value) (ts : List (Int × Bool)) (w : World) (h : MemS w a g cap bs lg tv ts) (hl : bs.length = 2048) (hc : w.cell? ⟨1, 47, none⟩ = some (.int .u8 11)) :
    Calls Tryd.prog 51 #[.pointer (some ⟨a, 0, none⟩)] w fun e w' => e = .returned (.int .i64 11) ∧ w' = w := by
  have hO := tzB_11 w hc
  have hM := made_yes a w ((obj_cell h.obj 0).trans rfl)
  have c1 : w.cell? ⟨a, 1, none⟩ = some (.slice (some ⟨g, 0, none⟩) 2048 cap) := by rw [← hl]; exact (obj_cell h.obj 1).trans rfl
  clear h hc
  go_enter Tryd.func51, Tryd.ntmps51
  go_wp2_with (first
    | (go_at_call 24; with_reducible refine hM.mono ?_; rintro e wq ⟨rfl, hq⟩; subst wq)
    | (go_at_call 65; with_reducible refine hO.mono ?_; rintro e wq ⟨rfl, hq⟩; subst wq)
    | fail)
  go_ret
  exact ⟨rfl, rfl⟩
theorem tzA_12 (w : World) (hc : w.cell? ⟨1, 30, none⟩ = some (.int .u8 12)) : Calls Tryd.prog 72 #[.int .u64 4096] w fun e w' => e = .returned (.int .i64 12) ∧ w' = w := by
  have hb : bits .and .u64 4096 18446744073709547520 = 4096 := by kernel_rfl
  have hw0 : IntKind.u64.wrap (-4096) = 18446744073709547520 := by kernel_rfl
  have hw1 : IntKind.u64.wrap 1170924392658345431040 = 8779516014643679232 := by kernel_rfl
  go_enter Tryd.func72, Tryd.ntmps72
  go_wp2
  go_ret
  exact ⟨rfl, rfl⟩
theorem tzB_12 (w : World) (hc : w.cell? ⟨1, 30, none⟩ = some (.int .u8 12)) : Calls Tryd.prog 65 #[.int .u64 4096] w fun e w' => e = .returned (.int .i64 12) ∧ w' = w := by
  have hO := tzA_12 w hc
  clear hc
  go_enter Tryd.func65, Tryd.ntmps65
  go_wp2_with (first
    | (go_at_call 72; with_reducible refine hO.mono ?_; rintro e wq ⟨rfl, hq⟩; subst wq)
    | fail)
  go_ret
  exact ⟨rfl, rfl⟩
theorem bitsA_12 (a g cap : Nat) (bs : List Int) (lg : Bool) (tv : Value) (ts : List (Int × Bool)) (w : World) (h : MemS w a g cap bs lg tv ts) (hl : bs.length = 4096) (hc : w.cell? ⟨1, 30, none⟩ = some (.int .u8 12)) :
    Calls Tryd.prog 51 #[.pointer (some ⟨a, 0, none⟩)] w fun e w' => e = .returned (.int .i64 12) ∧ w' = w := by
  have hO := tzB_12 w hc
  have hM := made_yes a w ((obj_cell h.obj 0).trans rfl)
  have c1 : w.cell? ⟨a, 1, none⟩ = some (.slice (some ⟨g, 0, none⟩) 4096 cap) := by rw [← hl]; exact (obj_cell h.obj 1).trans rfl
  clear h hc
  go_enter Tryd.func51, Tryd.ntmps51
  go_wp2_with (first
    | (go_at_call 24; with_reducible refine hM.mono ?_; rintro e wq ⟨rfl, hq⟩; subst wq)
    | (go_at_call 65; with_reducible refine hO.mono ?_; rintro e wq ⟨rfl, hq⟩; subst wq)
    | fail)
  go_ret
  exact ⟨rfl, rfl⟩
theorem tzA_13 (w : World) (hc : w.cell? ⟨1, 60, none⟩ = some (.int .u8 13)) : Calls Tryd.prog 72 #[.int .u64 8192] w fun e w' => e = .returned (.int .i64 13) ∧ w' = w := by
  have hb : bits .and .u64 8192 18446744073709543424 = 8192 := by kernel_rfl
  have hw0 : IntKind.u64.wrap (-8192) = 18446744073709543424 := by kernel_rfl
  have hw1 : IntKind.u64.wrap 2341848785316690862080 = 17559032029287358464 := by kernel_rfl
  go_enter Tryd.func72, Tryd.ntmps72
  go_wp2
  go_ret
  exact ⟨rfl, rfl⟩
theorem tzB_13 (w : World) (hc : w.cell? ⟨1, 60, none⟩ = some (.int .u8 13)) : Calls Tryd.prog 65 #[.int .u64 8192] w fun e w' => e = .returned (.int .i64 13) ∧ w' = w := by
  have hO := tzA_13 w hc
  clear hc
  go_enter Tryd.func65, Tryd.ntmps65
  go_wp2_with (first
    | (go_at_call 72; with_reducible refine hO.mono ?_; rintro e wq ⟨rfl, hq⟩; subst wq)
    | fail)
  go_ret
  exact ⟨rfl, rfl⟩
theorem bitsA_13 (a g cap : Nat) (bs : List Int) (lg : Bool) (tv : Value) (ts : List (Int × Bool)) (w : World) (h : MemS w a g cap bs lg tv ts) (hl : bs.length = 8192) (hc : w.cell? ⟨1, 60, none⟩ = some (.int .u8 13)) :
    Calls Tryd.prog 51 #[.pointer (some ⟨a, 0, none⟩)] w fun e w' => e = .returned (.int .i64 13) ∧ w' = w := by
  have hO := tzB_13 w hc
  have hM := made_yes a w ((obj_cell h.obj 0).trans rfl)
  have c1 : w.cell? ⟨a, 1, none⟩ = some (.slice (some ⟨g, 0, none⟩) 8192 cap) := by rw [← hl]; exact (obj_cell h.obj 1).trans rfl
  clear h hc
  go_enter Tryd.func51, Tryd.ntmps51
  go_wp2_with (first
    | (go_at_call 24; with_reducible refine hM.mono ?_; rintro e wq ⟨rfl, hq⟩; subst wq)
    | (go_at_call 65; with_reducible refine hO.mono ?_; rintro e wq ⟨rfl, hq⟩; subst wq)
    | fail)
  go_ret
  exact ⟨rfl, rfl⟩
theorem tzA_14 (w : World) (hc : w.cell? ⟨1, 57, none⟩ = some (.int .u8 14)) : Calls Tryd.prog 72 #[.int .u64 16384] w fun e w' => e = .returned (.int .i64 14) ∧ w' = w := by
  have hb : bits .and .u64 16384 18446744073709535232 = 16384 := by kernel_rfl
  have hw0 : IntKind.u64.wrap (-16384) = 18446744073709535232 := by kernel_rfl
  have hw1 : IntKind.u64.wrap 4683697570633381724160 = 16671319984865165312 := by kernel_rfl
  go_enter Tryd.func72, Tryd.ntmps72
  go_wp2
  go_ret
  exact ⟨rfl, rfl⟩
theorem tzB_14 (w : World) (hc : w.cell? ⟨1, 57, none⟩ = some (.int .u8 14)) : Calls Tryd.prog 65 #[.int .u64 16384] w fun e w' => e = .returned (.int .i64 14) ∧ w' = w := by
  have hO := tzA_14 w hc
  clear hc
  go_enter Tryd.func65, Tryd.ntmps65
  go_wp2_with (first
    | (go_at_call 72; with_reducible refine hO.mono ?_; rintro e wq ⟨rfl, hq⟩; subst wq)
    | fail)
  go_ret
  exact ⟨rfl, rfl⟩
theorem bitsA_14 (a g cap : Nat) (bs : List Int) (lg : Bool) (tv : Value) (ts : List (Int × Bool)) (w : World) (h : MemS w a g cap bs lg tv ts) (hl : bs.length = 16384) (hc : w.cell? ⟨1, 57, none⟩ = some (.int .u8 14)) :
    Calls Tryd.prog 51 #[.pointer (some ⟨a, 0, none⟩)] w fun e w' => e = .returned (.int .i64 14) ∧ w' = w := by
  have hO := tzB_14 w hc
  have hM := made_yes a w ((obj_cell h.obj 0).trans rfl)
  have c1 : w.cell? ⟨a, 1, none⟩ = some (.slice (some ⟨g, 0, none⟩) 16384 cap) := by rw [← hl]; exact (obj_cell h.obj 1).trans rfl
  clear h hc
  go_enter Tryd.func51, Tryd.ntmps51
  go_wp2_with (first
    | (go_at_call 24; with_reducible refine hM.mono ?_; rintro e wq ⟨rfl, hq⟩; subst wq)
    | (go_at_call 65; with_reducible refine hO.mono ?_; rintro e wq ⟨rfl, hq⟩; subst wq)
    | fail)
  go_ret
  exact ⟨rfl, rfl⟩
theorem tzA_15 (w : World) (hc : w.cell? ⟨1, 51, none⟩ = some (.int .u8 15)) : Calls Tryd.prog 72 #[.int .u64 32768] w fun e w' => e = .returned (.int .i64 15) ∧ w' = w := by
  have hb : bits .and .u64 32768 18446744073709518848 = 32768 := by kernel_rfl
  have hw0 : IntKind.u64.wrap (-32768) = 18446744073709518848 := by kernel_rfl
  have hw1 : IntKind.u64.wrap 9367395141266763448320 = 14895895896020779008 := by kernel_rfl
  go_enter Tryd.func72, Tryd.ntmps72
  go_wp2
  go_ret
  exact ⟨rfl, rfl⟩
theorem tzB_15 (w : World) (hc : w.cell? ⟨1, 51, none⟩ = some (.int .u8 15)) : Calls Tryd.prog 65 #[.int .u64 32768] w fun e w' => e = .returned (.int .i64 15) ∧ w' = w := by
  have hO := tzA_15 w hc
  clear hc
  go_enter Tryd.func65, Tryd.ntmps65
  go_wp2_with (first
    | (go_at_call 72; with_reducible refine hO.mono ?_; rintro e wq ⟨rfl, hq⟩; subst wq)
    | fail)
  go_ret
  exact ⟨rfl, rfl⟩
theorem bitsA_15 (a g cap : Nat) (bs : List Int) (lg : Bool) (tv : Value) (ts : List (Int × Bool)) (w : World) (h : MemS w a g cap bs lg tv ts) (hl : bs.length = 32768) (hc : w.cell? ⟨1, 51, none⟩ = some (.int .u8 15)) :
    Calls Tryd.prog 51 #[.pointer (some ⟨a, 0, none⟩)] w fun e w' => e = .returned (.int .i64 15) ∧ w' = w := by
  have hO := tzB_15 w hc
  have hM := made_yes a w ((obj_cell h.obj 0).trans rfl)
  have c1 : w.cell? ⟨a, 1, none⟩ = some (.slice (some ⟨g, 0, none⟩) 32768 cap) := by rw [← hl]; exact (obj_cell h.obj 1).trans rfl
  clear h hc
  go_enter Tryd.func51, Tryd.ntmps51
  go_wp2_with (first
    | (go_at_call 24; with_reducible refine hM.mono ?_; rintro e wq ⟨rfl, hq⟩; subst wq)
    | (go_at_call 65; with_reducible refine hO.mono ?_; rintro e wq ⟨rfl, hq⟩; subst wq)
    | fail)
  go_ret
  exact ⟨rfl, rfl⟩
theorem tzA_16 (w : World) (hc : w.cell? ⟨1, 39, none⟩ = some (.int .u8 16)) : Calls Tryd.prog 72 #[.int .u64 65536] w fun e w' => e = .returned (.int .i64 16) ∧ w' = w := by
  have hb : bits .and .u64 65536 18446744073709486080 = 65536 := by kernel_rfl
  have hw0 : IntKind.u64.wrap (-65536) = 18446744073709486080 := by kernel_rfl
  have hw1 : IntKind.u64.wrap 18734790282533526896640 = 11345047718332006400 := by kernel_rfl
  go_enter Tryd.func72, Tryd.ntmps72
  go_wp2
  go_ret
  exact ⟨rfl, rfl⟩
theorem tzB_16 (w : World) (hc : w.cell? ⟨1, 39, none⟩ = some (.int .u8 16)) : Calls Tryd.prog 65 #[.int .u64 65536] w fun e w' => e = .returned (.int .i64 16) ∧ w' = w := by
  have hO := tzA_16 w hc
  clear hc
  go_enter Tryd.func65, Tryd.ntmps65
  go_wp2_with (first
    | (go_at_call 72; with_reducible refine hO.mono ?_; rintro e wq ⟨rfl, hq⟩; subst wq)
    | fail)
  go_ret
  exact ⟨rfl, rfl⟩
theorem bitsA_16 (a g cap : Nat) (bs : List Int) (lg : Bool) (tv : Value) (ts : List (Int × Bool)) (w : World) (h : MemS w a g cap bs lg tv ts) (hl : bs.length = 65536) (hc : w.cell? ⟨1, 39, none⟩ = some (.int .u8 16)) :
    Calls Tryd.prog 51 #[.pointer (some ⟨a, 0, none⟩)] w fun e w' => e = .returned (.int .i64 16) ∧ w' = w := by
  have hO := tzB_16 w hc
  have hM := made_yes a w ((obj_cell h.obj 0).trans rfl)
  have c1 : w.cell? ⟨a, 1, none⟩ = some (.slice (some ⟨g, 0, none⟩) 65536 cap) := by rw [← hl]; exact (obj_cell h.obj 1).trans rfl
  clear h hc
  go_enter Tryd.func51, Tryd.ntmps51
  go_wp2_with (first
    | (go_at_call 24; with_reducible refine hM.mono ?_; rintro e wq ⟨rfl, hq⟩; subst wq)
    | (go_at_call 65; with_reducible refine hO.mono ?_; rintro e wq ⟨rfl, hq⟩; subst wq)
    | fail)
  go_ret
  exact ⟨rfl, rfl⟩
/-- Bits -/
def biV : Option Sl → Nat
  | none => 0
  | some s => Nat.log2 s.g.bs.length
theorem pw_log {n : Nat} (h : Pw n) : n = 2 ^ Nat.log2 n ∧ Nat.log2 n ≤ 16 := by
  rcases h with rfl | rfl | rfl | rfl | rfl | rfl | rfl | rfl | rfl <;> exact ⟨by decide +kernel, by decide +kernel⟩
theorem bi_h (S : Option Sl) (F : Nat → Prop) (W : World) (h : (segO S).h F W) (hT : TabA W) :
    Calls Tryd.prog 51 #[haveV S] W fun e w' => e = .returned (.int .i64 (biV S)) ∧ w' = W := by
  cases S with
  | none => exact nbits _ W (notmade_nil W)
  | some s =>
    obtain ⟨g, cap, tv, h1, h3⟩ := h
    have hp := h1.pw
    show Calls Tryd.prog 51 #[.pointer (some ⟨s.a, 0, none⟩)] W fun e w' => e = .returned (.int .i64 (Nat.log2 s.g.bs.length : Nat)) ∧ w' = W
    rcases hp with e | e | e | e | e | e | e | e | e
    · rw [e, show Nat.log2 256 = 8 by decide +kernel]; exact bitsA_8 s.a g cap s.g.bs s.g.lg tv s.g.ts W h1 e hT.t8
    · rw [e, show Nat.log2 512 = 9 by decide +kernel]; exact bitsA_9 s.a g cap s.g.bs s.g.lg tv s.g.ts W h1 e hT.t9
    · rw [e, show Nat.log2 1024 = 10 by decide +kernel]; exact bitsA_10 s.a g cap s.g.bs s.g.lg tv s.g.ts W h1 e hT.t10
    · rw [e, show Nat.log2 2048 = 11 by decide +kernel]; exact bitsA_11 s.a g cap s.g.bs s.g.lg tv s.g.ts W h1 e hT.t11
    · rw [e, show Nat.log2 4096 = 12 by decide +kernel]; exact bitsA_12 s.a g cap s.g.bs s.g.lg tv s.g.ts W h1 e hT.t12
    · rw [e, show Nat.log2 8192 = 13 by decide +kernel]; exact bitsA_13 s.a g cap s.g.bs s.g.lg tv s.g.ts W h1 e hT.t13
    · rw [e, show Nat.log2 16384 = 14 by decide +kernel]; exact bitsA_14 s.a g cap s.g.bs s.g.lg tv s.g.ts W h1 e hT.t14
    · rw [e, show Nat.log2 32768 = 15 by decide +kernel]; exact bitsA_15 s.a g cap s.g.bs s.g.lg tv s.g.ts W h1 e hT.t15
    · rw [e, show Nat.log2 65536 = 16 by decide +kernel]; exact bitsA_16 s.a g cap s.g.bs s.g.lg tv s.g.ts W h1 e hT.t16
theorem bi_w (S : Option Sl) (F : Nat → Prop) (W : World) (h : (refO S).h F W) :
    Calls Tryd.prog 52 #[wantV S] W fun e w' => e = .returned (.int .i64 (biV S)) ∧ w' = W := by
  cases S with
  | none => exact gn_bits W
  | some s =>
    obtain ⟨g, cap, tv, h1, h3⟩ := h
    exact bits_r s.r g cap _ s.g.bs s.g.lg tv s.g.ts W h1 (pw_log h1.pw).1 (pw_log h1.pw).2
/-- Same -/
def smB : Option Sl → Option Sl → Bool
  | some s, some t => decide (s.g.bs = t.g.bs)
  | _, _ => false
theorem same_mn (a : Nat) (w : World) (c0 : w.cell? ⟨a, 0, none⟩ = some (.pointer (some ⟨a, 0, none⟩))) :
    Calls Tryd.prog 49 #[.pointer (some ⟨a, 0, none⟩), .pointer none] w fun e w' => e = .returned (.bool false) ∧ ∃ n, w' = w.drewN n := by
  have HM := hidS (fun n => made_yes a (w.drewN n) c0)
  have HN := hidS (fun n => made_nil (w.drewN n))
  clear c0
  go_enter Tryd.func49, Tryd.ntmps49
  go_wp2_with fail
  go_quiet (first | (with_reducible refine Calls.quiet_of_same (HM.out _)) | (with_reducible refine Calls.quiet_of_same (HN.out _)))
  go_wp2_with fail
  go_ret
  exact ⟨rfl, _, rfl⟩
theorem sm_h (S T : Option Sl) (F G : Nat → Prop) (W : World) (h : (segO S).h F W) (h2 : (segO T).h G W) :
    Calls Tryd.prog 49 #[haveV S, haveV T] W fun e w' => e = .returned (.bool (smB S T)) ∧ ∃ n, w' = W.drewN n := by
  cases S with
  | none => exact nsame _ _ W (fun _ _ => notmade_nil _)
  | some s =>
    obtain ⟨g, cap, tv, h1, h3⟩ := h
    cases T with
    | none => exact same_mn s.a W ((obj_cell h1.obj 0).trans rfl)
    | some t =>
      obtain ⟨g', cap', tv', h1', h3'⟩ := h2
      exact same_m s.a g cap t.a g' cap' s.g.bs t.g.bs s.g.lg t.g.lg tv tv' s.g.ts t.g.ts W h1 h1'
theorem same_n1 (q : Value) (w : World) :
    Calls Tryd.prog 50 #[.pointer none, q] w fun e w' => e = .returned (.bool false) ∧ ∃ n, w' = w.drewN n := by
  go_enter Tryd.func50, Tryd.ntmps50
  go_wp2_with fail
  go_quiet (fail)
  go_wp2_with fail
  go_ret
  exact ⟨rfl, _, rfl⟩
theorem same_n2 (a : Nat) (w : World) :
    Calls Tryd.prog 50 #[.pointer (some ⟨a, 0, none⟩), .pointer none] w fun e w' => e = .returned (.bool false) ∧ ∃ n, w' = w.drewN n := by
  go_enter Tryd.func50, Tryd.ntmps50
  go_wp2_with fail
  go_quiet (fail)
  go_wp2_with fail
  go_ret
  exact ⟨rfl, _, rfl⟩
theorem sm_w (S T : Option Sl) (F G : Nat → Prop) (W : World) (h : (refO S).h F W) (h2 : (refO T).h G W) :
    Calls Tryd.prog 50 #[wantV S, wantV T] W fun e w' => e = .returned (.bool (smB S T)) ∧ ∃ n, w' = W.drewN n := by
  cases S with
  | none => exact same_n1 _ W
  | some s =>
    obtain ⟨g, cap, tv, h1, h3⟩ := h
    cases T with
    | none => exact same_n2 s.r W
    | some t =>
      obtain ⟨g', cap', tv', h1', h3'⟩ := h2
      exact same_r s.r g cap t.r g' cap' s.g.bs t.g.bs s.g.lg t.g.lg tv tv' s.g.ts t.g.ts W h1 h1'
/-- Clone -/
def clS (a r : Nat) : Option Sl → Option Sl
  | none => none
  | some s => some ⟨a, r, ⟨s.g.bs, false, []⟩⟩
theorem clS_have (a r q : Nat) (S : Option Sl) : haveV (clS a r S) = haveV (clS a q S) := by cases S <;> rfl
theorem clS_want (a r q : Nat) (S : Option Sl) : wantV (clS a r S) = wantV (clS q r S) := by cases S <;> rfl
theorem clS_seg (a r q : Nat) (S : Option Sl) : segO (clS a r S) = segO (clS a q S) := by cases S <;> rfl
theorem clS_ref (a r q : Nat) (S : Option Sl) : refO (clS a r S) = refO (clS q r S) := by cases S <;> rfl
theorem foot_new {a g : Nat} {B : Nat} (h1 : B ≤ a) (h2 : B ≤ g) : ∀ k, Foot a g (.slice none 0 0) k → B ≤ k := by
  rintro k (e | e | e)
  · omega
  · omega
  · simp [Value.ownBlock] at e
theorem cl_h (S : Option Sl) (F : Nat → Prop) (W : World) (h : (segO S).h F W) :
    Calls Tryd.prog 34 #[haveV S] W fun e w' => ∃ a, e = .returned (haveV (clS a 0 S)) ∧ (segO (clS a 0 S)).h (fun k => W.heap.size ≤ k) w' ∧ Below W.heap.size W w' := by
  cases S with
  | none => exact (nclone _ W (notmade_nil W)).mono fun e w' ⟨he, hw⟩ => ⟨0, he, trivial, by rw [hw]; exact Below.refl _ _⟩
  | some s =>
    obtain ⟨g, cap, tv, h1, h3⟩ := h
    exact (clone_m s.a g cap s.g.bs s.g.lg tv s.g.ts W h1).mono fun e w' ⟨o, g', cap', he, p, p1, p2, hb⟩ => ⟨o, he, ⟨g', cap', _, p, foot_new p1 p2⟩, hb⟩
theorem cl_w (S : Option Sl) (F : Nat → Prop) (W : World) (h : (refO S).h F W) :
    Calls Tryd.prog 35 #[wantV S] W fun e w' => ∃ r, e = .returned (wantV (clS 0 r S)) ∧ (refO (clS 0 r S)).h (fun k => W.heap.size ≤ k) w' ∧ Below W.heap.size W w' := by
  cases S with
  | none => exact (gn_clone W).mono fun e w' ⟨he, hw⟩ => ⟨0, he, trivial, by rw [hw]; exact Below.refl _ _⟩
  | some s =>
    obtain ⟨g, cap, tv, h1, h3⟩ := h
    exact (clone_r s.r g cap s.g.bs s.g.lg tv s.g.ts W h1).mono fun e w' ⟨o, g', cap', he, p, p1, p2, hb⟩ => ⟨o, he, ⟨g', cap', _, p, foot_new p1 p2⟩, hb⟩
/-- New -/
def nwS (a r : Nat) (N : Int) : Option Sl := if 8 ≤ N ∧ N ≤ 16 then some ⟨a, r, ⟨List.replicate (2 ^ N.toNat) 0, false, []⟩⟩ else none
def nwE (N : Int) : Int := if 8 ≤ N ∧ N ≤ 16 then 0 else 90
theorem nwS_have (a r q : Nat) (N : Int) : haveV (nwS a r N) = haveV (nwS a q N) := by unfold nwS; split <;> rfl
theorem nwS_want (a r q : Nat) (N : Int) : wantV (nwS a r N) = wantV (nwS q r N) := by unfold nwS; split <;> rfl
theorem nwS_seg (a r q : Nat) (N : Int) : segO (nwS a r N) = segO (nwS a q N) := by unfold nwS; split <;> rfl
theorem nwS_ref (a r q : Nat) (N : Int) : refO (nwS a r N) = refO (nwS q r N) := by unfold nwS; split <;> rfl
theorem nw_h (N : Int) (W : World) :
    Calls Tryd.prog 27 #[.int .i64 N] W fun e w' => ∃ a, e = .returned (.tuple #[haveV (nwS a 0 N), .int .i64 (nwE N)]) ∧ (segO (nwS a 0 N)).h (fun k => W.heap.size ≤ k) w' ∧ Below W.heap.size W w' := by
  by_cases hn : 8 ≤ N ∧ N ≤ 16
  · simp only [nwS, nwE, hn, and_self, if_true]
    obtain ⟨n, rfl⟩ := Int.eq_ofNat_of_zero_le (show 0 ≤ N by omega)
    rw [Int.toNat_natCast]
    exact (new_m n W (by omega) (by omega)).mono fun e w' ⟨a, g, cap, he, p, hb, p1, p2⟩ => ⟨a, he, ⟨g, cap, _, p, foot_new p1 p2⟩, hb⟩
  · simp only [nwS, nwE, hn, if_false]
    exact (new_bad N W (by omega)).mono fun e w' ⟨he, hw⟩ => ⟨0, he, trivial, by rw [hw]; exact Below.refl _ _⟩
theorem nw_w (N : Int) (W : World) :
    Calls Tryd.prog 28 #[.int .i64 N] W fun e w' => ∃ r, e = .returned (.tuple #[wantV (nwS 0 r N), .int .i64 (nwE N)]) ∧ (refO (nwS 0 r N)).h (fun k => W.heap.size ≤ k) w' ∧ Below W.heap.size W w' := by
  by_cases hn : 8 ≤ N ∧ N ≤ 16
  · simp only [nwS, nwE, hn, and_self, if_true]
    obtain ⟨n, rfl⟩ := Int.eq_ofNat_of_zero_le (show 0 ≤ N by omega)
    rw [Int.toNat_natCast]
    exact (new_r n W (by omega) (by omega)).mono fun e w' ⟨r, g, cap, he, hq⟩ => ⟨r, he, ⟨g, cap, _, hq.out.1, foot_new hq.out.2.2.1 hq.out.2.2.2⟩, hq.out.2.1⟩
  · simp only [nwS, nwE, hn, if_false]
    exact (new_rbad N W (by omega)).mono fun e w' ⟨he, hw⟩ => ⟨0, he, trivial, by rw [hw]; exact Below.refl _ _⟩
end Go.Proofs.YtnjglagfpghbjaaDoor
namespace Go.Proofs.YtnjglagfpghbjaaDoor
open Go.RowKit Go.WideShapes
set_option maxRecDepth 100000

def stpC (s : Stp) : Array Value := #[.int .u8 s.d, .int .u8 s.a, .int .u8 s.b, .int .u32 s.at_, .int .u32 s.v, .int .i64 s.n, .bool s.on, .slice s.da s.dz.length s.dc]
theorem stt_forget {W : World} {M M' : Col → Pc} (c : Col) (h : Stt W M) (hc : M' c = noP) (hd : ∀ d, d ≠ c → M' d = M d) : Stt W M' :=
  stt_drop h (fun d => by
    by_cases e : d = c
    · exact .inr (e ▸ hc)
    · exact .inl (hd d e))
theorem upd_self {M : Col → Pc} {c : Col} {p : Pc} (h : M c = p) : upd M c p = M := by
  funext d
  by_cases e : d = c
  · rw [e, upd_eq, h]
  · rw [upd_ne e]
/-- a step in a block of its own -/
theorem stt_stp {W : World} {M : Col → Pc} (c : Col) (s : Stp) (h : Stt W M) : Stt (W.alloc (.cells (stpC s) 34)) (upd M c (objP W.heap.size (stpC s) 34)) :=
  stt_new h ((Below.refl _ _).alloc (Nat.le_refl _) _) ⟨heap_alloc_new W _, Nat.le_refl _⟩
theorem stt_c {W : World} {M : Col → Pc} {c : Col} {o : Nat} {s : Stp} (h : Stt W M) (hc : M c = objP o (stpC s) 34) :
    W.cell? ⟨o, 0, none⟩ = some (.int .u8 s.d) ∧ W.cell? ⟨o, 3, none⟩ = some (.int .u32 s.at_) ∧ W.cell? ⟨o, 4, none⟩ = some (.int .u32 s.v) ∧ W.cell? ⟨o, 5, none⟩ = some (.int .i64 s.n) ∧ W.cell? ⟨o, 6, none⟩ = some (.bool s.on) ∧ W.cell? ⟨o, 7, none⟩ = some (.slice s.da s.dz.length s.dc) :=
  ⟨stt_cell h hc 0 _ rfl, stt_cell h hc 3 _ rfl, stt_cell h hc 4 _ rfl, stt_cell h hc 5 _ rfl, stt_cell h hc 6 _ rfl, stt_cell h hc 7 _ rfl⟩
/-- what a call on a word leaves in a slot -/
def wdS (s : Stp) (S : Option Sl) : Option Sl :=
  if s.d = 2 then mapS (rdG s.at_ 1) S else if s.d = 3 then mapS (rdG s.at_ 2) S else if s.d = 4 then mapS (rdG s.at_ 4) S else
  if s.d = 5 then mapS (stG s.at_ 1 s.v) S else if s.d = 6 then mapS (stG s.at_ 2 s.v) S else if s.d = 7 then mapS (stG s.at_ 4 s.v) S else S
theorem ld1_w (S : Option Sl) (x : Nat) (F : Nat → Prop) (W : World) (h : (refO S).h F W) (hB : ∀ k, W.heap.size ≤ k → F k) (hx : x < 4294967296) :
    Calls Tryd.prog 37 #[wantV S, .int .u32 x, .int .i64 1] W fun e w' => e = .returned (.int .u32 (ldV x 1 S)) ∧ (refO (mapS (rdG x 1) S)).h F w' ∧ Kp F W w' := ld_w 1 (by decide) (by decide) S x F W h hB hx
theorem st1_w (S : Option Sl) (x v : Nat) (F : Nat → Prop) (W : World) (h : (refO S).h F W) (hB : ∀ k, W.heap.size ≤ k → F k) (hx : x < 4294967296) (hv : v < 4294967296) :
    Calls Tryd.prog 14 #[wantV S, .int .u32 x, .int .u32 v, .int .i64 1] W fun e w' => e = .returned (.tuple #[]) ∧ (refO (mapS (stG x 1 v) S)).h F w' ∧ Kp F W w' := st_w 1 (by decide) (by decide) S x v F W h hB hx hv
theorem ld2_w (S : Option Sl) (x : Nat) (F : Nat → Prop) (W : World) (h : (refO S).h F W) (hB : ∀ k, W.heap.size ≤ k → F k) (hx : x < 4294967296) :
    Calls Tryd.prog 37 #[wantV S, .int .u32 x, .int .i64 2] W fun e w' => e = .returned (.int .u32 (ldV x 2 S)) ∧ (refO (mapS (rdG x 2) S)).h F w' ∧ Kp F W w' := ld_w 2 (by decide) (by decide) S x F W h hB hx
theorem st2_w (S : Option Sl) (x v : Nat) (F : Nat → Prop) (W : World) (h : (refO S).h F W) (hB : ∀ k, W.heap.size ≤ k → F k) (hx : x < 4294967296) (hv : v < 4294967296) :
    Calls Tryd.prog 14 #[wantV S, .int .u32 x, .int .u32 v, .int .i64 2] W fun e w' => e = .returned (.tuple #[]) ∧ (refO (mapS (stG x 2 v) S)).h F w' ∧ Kp F W w' := st_w 2 (by decide) (by decide) S x v F W h hB hx hv
theorem ld4_w (S : Option Sl) (x : Nat) (F : Nat → Prop) (W : World) (h : (refO S).h F W) (hB : ∀ k, W.heap.size ≤ k → F k) (hx : x < 4294967296) :
    Calls Tryd.prog 37 #[wantV S, .int .u32 x, .int .i64 4] W fun e w' => e = .returned (.int .u32 (ldV x 4 S)) ∧ (refO (mapS (rdG x 4) S)).h F w' ∧ Kp F W w' := ld_w 4 (by decide) (by decide) S x F W h hB hx
theorem st4_w (S : Option Sl) (x v : Nat) (F : Nat → Prop) (W : World) (h : (refO S).h F W) (hB : ∀ k, W.heap.size ≤ k → F k) (hx : x < 4294967296) (hv : v < 4294967296) :
    Calls Tryd.prog 14 #[wantV S, .int .u32 x, .int .u32 v, .int .i64 4] W fun e w' => e = .returned (.tuple #[]) ∧ (refO (mapS (stG x 4 v) S)).h F w' ∧ Kp F W w' := st_w 4 (by decide) (by decide) S x v F W h hB hx hv
end Go.Proofs.YtnjglagfpghbjaaDoor
namespace Go.Proofs.YtnjglagfpghbjaaDoor
open Go.RowKit Go.WideShapes
set_option maxRecDepth 100000

set_option maxHeartbeats 1000000 in
theorem words2 (o : Nat) (M : Col → Pc) (i : Nat) (S : Option Sl) (s : Stp) (W : World) (hS : Stt W M) (h1 : M (1, i) = segO S) (h2 : M (2, i) = refO S) (h8 : M (8, 3) = noP) (hs : StpOk s) (hd : s.d = 2) :
    Calls Tryd.prog 16 #[.pointer (some ⟨o, 0, none⟩), .agg (stpC s), haveV S, wantV S] W fun e w' => e = .returned (.bool true) ∧ Hid (Stt w' (upd (upd M (1, i) (segO (mapS (rdG s.at_ 1) S))) (2, i) (refO (mapS (rdG s.at_ 1) S)))) := by
  have hS0 := stt_stp (8, 3) s hS
  have hdI : (s.d : Int) = 2 := by omega
  have hc := fun W' h => stt_c (W := W') (M := upd M (8, 3) (objP W.heap.size (stpC s) 34)) (c := (8, 3)) h (upd_eq _ _ _)
  have HC1 := hidS (fun W' h => stt_c (W := W') (M := upd (upd M (8, 3) (objP W.heap.size (stpC s) 34)) (1, i) (segO (mapS (rdG s.at_ 1) S))) (o := W.heap.size) (s := s) (c := (8, 3)) h (by simp [upd]))
  have HC2 := hidS (fun W' h => stt_c (W := W') (M := upd (upd (upd M (8, 3) (objP W.heap.size (stpC s) 34)) (1, i) (segO (mapS (rdG s.at_ 1) S))) (2, i) (refO (mapS (rdG s.at_ 1) S))) (o := W.heap.size) (s := s) (c := (8, 3)) h (by simp [upd]))
  have HL := hidS (fun W' h => stt_call (W := W') (M := upd M (8, 3) (objP W.heap.size (stpC s) 34)) (c := (1, i)) (p := segO S) (by simp [upd, h1]) h (fun F h hB => ld1_h S s.at_ F W' h hB hs.at_))
  have HR := hidS (fun W' h => stt_call (W := W') (M := upd (upd M (8, 3) (objP W.heap.size (stpC s) 34)) (1, i) (segO (mapS (rdG s.at_ 1) S))) (c := (2, i)) (p := refO S) (by simp [upd, h2]) h (fun F h hB => ld1_w S s.at_ F W' h hB hs.at_))
  have hfin : ∀ W', Stt W' (upd (upd (upd M (8, 3) (objP W.heap.size (stpC s) 34)) (1, i) (segO (mapS (rdG s.at_ 1) S))) (2, i) (refO (mapS (rdG s.at_ 1) S))) → Stt W' (upd (upd M (1, i) (segO (mapS (rdG s.at_ 1) S))) (2, i) (refO (mapS (rdG s.at_ 1) S))) := fun W' h => stt_forget (8, 3) h (by simp [upd, h8]) (fun d hd => by simp [upd, hd])
  obtain ⟨c0, c3, c4, -, -, -⟩ := hc _ hS0
  have HS0 := hidS hS0
  have HF := hidS hfin
  clear hS hs hd hc hfin hS0 h1 h2 h8
  go_enter Tryd.func16, Tryd.ntmps16
  go_wp2_with fail
  go_region_held3 (fun w' => w'.cell? ⟨W.heap.size, 3, none⟩ = some (.int .u32 s.at_)) ((first | exact c3 | exact (HC2.out _ HQ2.out).2.1 | exact (HC1.out _ HQ1.out).2.1)) (first
    | (go_at_call 36; with_reducible refine (HL.out _ (by (repeat (first | exact HS0.out | with_reducible refine stt_drew ?_)))).mono ?_; rintro e w1 ⟨rfl, HQ1⟩)
    | (go_at_call 37; with_reducible refine (HR.out _ (by (repeat (first | exact HQ1.out | with_reducible refine stt_drew ?_)))).mono ?_; rintro e w2 ⟨rfl, HQ2⟩)
    | fail)
  go_wp2_with fail
  go_ret
  exact ⟨rfl, HF.out _ HQ2.out⟩
set_option maxHeartbeats 1000000 in
theorem words3 (o : Nat) (M : Col → Pc) (i : Nat) (S : Option Sl) (s : Stp) (W : World) (hS : Stt W M) (h1 : M (1, i) = segO S) (h2 : M (2, i) = refO S) (h8 : M (8, 3) = noP) (hs : StpOk s) (hd : s.d = 3) :
    Calls Tryd.prog 16 #[.pointer (some ⟨o, 0, none⟩), .agg (stpC s), haveV S, wantV S] W fun e w' => e = .returned (.bool true) ∧ Hid (Stt w' (upd (upd M (1, i) (segO (mapS (rdG s.at_ 2) S))) (2, i) (refO (mapS (rdG s.at_ 2) S)))) := by
  have hS0 := stt_stp (8, 3) s hS
  have hdI : (s.d : Int) = 3 := by omega
  have hc := fun W' h => stt_c (W := W') (M := upd M (8, 3) (objP W.heap.size (stpC s) 34)) (c := (8, 3)) h (upd_eq _ _ _)
  have HC1 := hidS (fun W' h => stt_c (W := W') (M := upd (upd M (8, 3) (objP W.heap.size (stpC s) 34)) (1, i) (segO (mapS (rdG s.at_ 2) S))) (o := W.heap.size) (s := s) (c := (8, 3)) h (by simp [upd]))
  have HC2 := hidS (fun W' h => stt_c (W := W') (M := upd (upd (upd M (8, 3) (objP W.heap.size (stpC s) 34)) (1, i) (segO (mapS (rdG s.at_ 2) S))) (2, i) (refO (mapS (rdG s.at_ 2) S))) (o := W.heap.size) (s := s) (c := (8, 3)) h (by simp [upd]))
  have HL := hidS (fun W' h => stt_call (W := W') (M := upd M (8, 3) (objP W.heap.size (stpC s) 34)) (c := (1, i)) (p := segO S) (by simp [upd, h1]) h (fun F h hB => ld2_h S s.at_ F W' h hB hs.at_))
  have HR := hidS (fun W' h => stt_call (W := W') (M := upd (upd M (8, 3) (objP W.heap.size (stpC s) 34)) (1, i) (segO (mapS (rdG s.at_ 2) S))) (c := (2, i)) (p := refO S) (by simp [upd, h2]) h (fun F h hB => ld2_w S s.at_ F W' h hB hs.at_))
  have hfin : ∀ W', Stt W' (upd (upd (upd M (8, 3) (objP W.heap.size (stpC s) 34)) (1, i) (segO (mapS (rdG s.at_ 2) S))) (2, i) (refO (mapS (rdG s.at_ 2) S))) → Stt W' (upd (upd M (1, i) (segO (mapS (rdG s.at_ 2) S))) (2, i) (refO (mapS (rdG s.at_ 2) S))) := fun W' h => stt_forget (8, 3) h (by simp [upd, h8]) (fun d hd => by simp [upd, hd])
  obtain ⟨c0, c3, c4, -, -, -⟩ := hc _ hS0
  have HS0 := hidS hS0
  have HF := hidS hfin
  clear hS hs hd hc hfin hS0 h1 h2 h8
  go_enter Tryd.func16, Tryd.ntmps16
  go_wp2_with fail
  go_region_held3 (fun w' => w'.cell? ⟨W.heap.size, 3, none⟩ = some (.int .u32 s.at_)) ((first | exact c3 | exact (HC2.out _ HQ2.out).2.1 | exact (HC1.out _ HQ1.out).2.1)) (first
    | (go_at_call 38; with_reducible refine (HL.out _ (by (repeat (first | exact HS0.out | with_reducible refine stt_drew ?_)))).mono ?_; rintro e w1 ⟨rfl, HQ1⟩)
    | (go_at_call 37; with_reducible refine (HR.out _ (by (repeat (first | exact HQ1.out | with_reducible refine stt_drew ?_)))).mono ?_; rintro e w2 ⟨rfl, HQ2⟩)
    | fail)
  go_wp2_with fail
  go_ret
  exact ⟨rfl, HF.out _ HQ2.out⟩
set_option maxHeartbeats 1000000 in
theorem words4 (o : Nat) (M : Col → Pc) (i : Nat) (S : Option Sl) (s : Stp) (W : World) (hS : Stt W M) (h1 : M (1, i) = segO S) (h2 : M (2, i) = refO S) (h8 : M (8, 3) = noP) (hs : StpOk s) (hd : s.d = 4) :
    Calls Tryd.prog 16 #[.pointer (some ⟨o, 0, none⟩), .agg (stpC s), haveV S, wantV S] W fun e w' => e = .returned (.bool true) ∧ Hid (Stt w' (upd (upd M (1, i) (segO (mapS (rdG s.at_ 4) S))) (2, i) (refO (mapS (rdG s.at_ 4) S)))) := by
  have hS0 := stt_stp (8, 3) s hS
  have hdI : (s.d : Int) = 4 := by omega
  have hc := fun W' h => stt_c (W := W') (M := upd M (8, 3) (objP W.heap.size (stpC s) 34)) (c := (8, 3)) h (upd_eq _ _ _)
  have HC1 := hidS (fun W' h => stt_c (W := W') (M := upd (upd M (8, 3) (objP W.heap.size (stpC s) 34)) (1, i) (segO (mapS (rdG s.at_ 4) S))) (o := W.heap.size) (s := s) (c := (8, 3)) h (by simp [upd]))
  have HC2 := hidS (fun W' h => stt_c (W := W') (M := upd (upd (upd M (8, 3) (objP W.heap.size (stpC s) 34)) (1, i) (segO (mapS (rdG s.at_ 4) S))) (2, i) (refO (mapS (rdG s.at_ 4) S))) (o := W.heap.size) (s := s) (c := (8, 3)) h (by simp [upd]))
  have HL := hidS (fun W' h => stt_call (W := W') (M := upd M (8, 3) (objP W.heap.size (stpC s) 34)) (c := (1, i)) (p := segO S) (by simp [upd, h1]) h (fun F h hB => ld4_h S s.at_ F W' h hB hs.at_))
  have HR := hidS (fun W' h => stt_call (W := W') (M := upd (upd M (8, 3) (objP W.heap.size (stpC s) 34)) (1, i) (segO (mapS (rdG s.at_ 4) S))) (c := (2, i)) (p := refO S) (by simp [upd, h2]) h (fun F h hB => ld4_w S s.at_ F W' h hB hs.at_))
  have hfin : ∀ W', Stt W' (upd (upd (upd M (8, 3) (objP W.heap.size (stpC s) 34)) (1, i) (segO (mapS (rdG s.at_ 4) S))) (2, i) (refO (mapS (rdG s.at_ 4) S))) → Stt W' (upd (upd M (1, i) (segO (mapS (rdG s.at_ 4) S))) (2, i) (refO (mapS (rdG s.at_ 4) S))) := fun W' h => stt_forget (8, 3) h (by simp [upd, h8]) (fun d hd => by simp [upd, hd])
  obtain ⟨c0, c3, c4, -, -, -⟩ := hc _ hS0
  have HS0 := hidS hS0
  have HF := hidS hfin
  clear hS hs hd hc hfin hS0 h1 h2 h8
  go_enter Tryd.func16, Tryd.ntmps16
  go_wp2_with fail
  go_region_held3 (fun w' => w'.cell? ⟨W.heap.size, 3, none⟩ = some (.int .u32 s.at_)) ((first | exact c3 | exact (HC2.out _ HQ2.out).2.1 | exact (HC1.out _ HQ1.out).2.1)) (first
    | (go_at_call 39; with_reducible refine (HL.out _ (by (repeat (first | exact HS0.out | with_reducible refine stt_drew ?_)))).mono ?_; rintro e w1 ⟨rfl, HQ1⟩)
    | (go_at_call 37; with_reducible refine (HR.out _ (by (repeat (first | exact HQ1.out | with_reducible refine stt_drew ?_)))).mono ?_; rintro e w2 ⟨rfl, HQ2⟩)
    | fail)
  go_wp2_with fail
  go_ret
  exact ⟨rfl, HF.out _ HQ2.out⟩
set_option maxHeartbeats 1000000 in
theorem words5 (o : Nat) (M : Col → Pc) (i : Nat) (S : Option Sl) (s : Stp) (W : World) (hS : Stt W M) (h1 : M (1, i) = segO S) (h2 : M (2, i) = refO S) (h8 : M (8, 3) = noP) (hs : StpOk s) (hd : s.d = 5) :
    Calls Tryd.prog 16 #[.pointer (some ⟨o, 0, none⟩), .agg (stpC s), haveV S, wantV S] W fun e w' => e = .returned (.bool true) ∧ Hid (Stt w' (upd (upd M (1, i) (segO (mapS (stG s.at_ 1 s.v) S))) (2, i) (refO (mapS (stG s.at_ 1 s.v) S)))) := by
  have hS0 := stt_stp (8, 3) s hS
  have hdI : (s.d : Int) = 5 := by omega
  have hc := fun W' h => stt_c (W := W') (M := upd M (8, 3) (objP W.heap.size (stpC s) 34)) (c := (8, 3)) h (upd_eq _ _ _)
  have HC1 := hidS (fun W' h => stt_c (W := W') (M := upd (upd M (8, 3) (objP W.heap.size (stpC s) 34)) (1, i) (segO (mapS (stG s.at_ 1 s.v) S))) (o := W.heap.size) (s := s) (c := (8, 3)) h (by simp [upd]))
  have HC2 := hidS (fun W' h => stt_c (W := W') (M := upd (upd (upd M (8, 3) (objP W.heap.size (stpC s) 34)) (1, i) (segO (mapS (stG s.at_ 1 s.v) S))) (2, i) (refO (mapS (stG s.at_ 1 s.v) S))) (o := W.heap.size) (s := s) (c := (8, 3)) h (by simp [upd]))
  have HL := hidS (fun W' h => stt_call (W := W') (M := upd M (8, 3) (objP W.heap.size (stpC s) 34)) (c := (1, i)) (p := segO S) (by simp [upd, h1]) h (fun F h hB => st1_h S s.at_ s.v F W' h hB hs.at_ hs.v))
  have HR := hidS (fun W' h => stt_call (W := W') (M := upd (upd M (8, 3) (objP W.heap.size (stpC s) 34)) (1, i) (segO (mapS (stG s.at_ 1 s.v) S))) (c := (2, i)) (p := refO S) (by simp [upd, h2]) h (fun F h hB => st1_w S s.at_ s.v F W' h hB hs.at_ hs.v))
  have hfin : ∀ W', Stt W' (upd (upd (upd M (8, 3) (objP W.heap.size (stpC s) 34)) (1, i) (segO (mapS (stG s.at_ 1 s.v) S))) (2, i) (refO (mapS (stG s.at_ 1 s.v) S))) → Stt W' (upd (upd M (1, i) (segO (mapS (stG s.at_ 1 s.v) S))) (2, i) (refO (mapS (stG s.at_ 1 s.v) S))) := fun W' h => stt_forget (8, 3) h (by simp [upd, h8]) (fun d hd => by simp [upd, hd])
  obtain ⟨c0, c3, c4, -, -, -⟩ := hc _ hS0
  have HS0 := hidS hS0
  have HF := hidS hfin
  clear hS hs hd hc hfin hS0 h1 h2 h8
  go_enter Tryd.func16, Tryd.ntmps16
  go_wp2_with (first
    | (go_at_call 13; with_reducible refine (HL.out _ HS0.out).mono ?_; rintro e w1 ⟨rfl, HQ1⟩; obtain ⟨-, d3, d4, -, -, -⟩ := HC1.out _ HQ1.out)
    | (go_at_call 14; with_reducible refine (HR.out _ HQ1.out).mono ?_; rintro e w2 ⟨rfl, HQ2⟩)
    | fail)
  go_ret
  exact ⟨rfl, HF.out _ HQ2.out⟩
set_option maxHeartbeats 1000000 in
theorem words6 (o : Nat) (M : Col → Pc) (i : Nat) (S : Option Sl) (s : Stp) (W : World) (hS : Stt W M) (h1 : M (1, i) = segO S) (h2 : M (2, i) = refO S) (h8 : M (8, 3) = noP) (hs : StpOk s) (hd : s.d = 6) :
    Calls Tryd.prog 16 #[.pointer (some ⟨o, 0, none⟩), .agg (stpC s), haveV S, wantV S] W fun e w' => e = .returned (.bool true) ∧ Hid (Stt w' (upd (upd M (1, i) (segO (mapS (stG s.at_ 2 s.v) S))) (2, i) (refO (mapS (stG s.at_ 2 s.v) S)))) := by
  have hS0 := stt_stp (8, 3) s hS
  have hdI : (s.d : Int) = 6 := by omega
  have hc := fun W' h => stt_c (W := W') (M := upd M (8, 3) (objP W.heap.size (stpC s) 34)) (c := (8, 3)) h (upd_eq _ _ _)
  have HC1 := hidS (fun W' h => stt_c (W := W') (M := upd (upd M (8, 3) (objP W.heap.size (stpC s) 34)) (1, i) (segO (mapS (stG s.at_ 2 s.v) S))) (o := W.heap.size) (s := s) (c := (8, 3)) h (by simp [upd]))
  have HC2 := hidS (fun W' h => stt_c (W := W') (M := upd (upd (upd M (8, 3) (objP W.heap.size (stpC s) 34)) (1, i) (segO (mapS (stG s.at_ 2 s.v) S))) (2, i) (refO (mapS (stG s.at_ 2 s.v) S))) (o := W.heap.size) (s := s) (c := (8, 3)) h (by simp [upd]))
  have HL := hidS (fun W' h => stt_call (W := W') (M := upd M (8, 3) (objP W.heap.size (stpC s) 34)) (c := (1, i)) (p := segO S) (by simp [upd, h1]) h (fun F h hB => st2_h S s.at_ s.v F W' h hB hs.at_ hs.v))
  have HR := hidS (fun W' h => stt_call (W := W') (M := upd (upd M (8, 3) (objP W.heap.size (stpC s) 34)) (1, i) (segO (mapS (stG s.at_ 2 s.v) S))) (c := (2, i)) (p := refO S) (by simp [upd, h2]) h (fun F h hB => st2_w S s.at_ s.v F W' h hB hs.at_ hs.v))
  have hfin : ∀ W', Stt W' (upd (upd (upd M (8, 3) (objP W.heap.size (stpC s) 34)) (1, i) (segO (mapS (stG s.at_ 2 s.v) S))) (2, i) (refO (mapS (stG s.at_ 2 s.v) S))) → Stt W' (upd (upd M (1, i) (segO (mapS (stG s.at_ 2 s.v) S))) (2, i) (refO (mapS (stG s.at_ 2 s.v) S))) := fun W' h => stt_forget (8, 3) h (by simp [upd, h8]) (fun d hd => by simp [upd, hd])
  obtain ⟨c0, c3, c4, -, -, -⟩ := hc _ hS0
  have HS0 := hidS hS0
  have HF := hidS hfin
  clear hS hs hd hc hfin hS0 h1 h2 h8
  go_enter Tryd.func16, Tryd.ntmps16
  go_wp2_with (first
    | (go_at_call 40; with_reducible refine (HL.out _ HS0.out).mono ?_; rintro e w1 ⟨rfl, HQ1⟩; obtain ⟨-, d3, d4, -, -, -⟩ := HC1.out _ HQ1.out)
    | (go_at_call 14; with_reducible refine (HR.out _ HQ1.out).mono ?_; rintro e w2 ⟨rfl, HQ2⟩)
    | fail)
  go_ret
  exact ⟨rfl, HF.out _ HQ2.out⟩
set_option maxHeartbeats 1000000 in
theorem words7 (o : Nat) (M : Col → Pc) (i : Nat) (S : Option Sl) (s : Stp) (W : World) (hS : Stt W M) (h1 : M (1, i) = segO S) (h2 : M (2, i) = refO S) (h8 : M (8, 3) = noP) (hs : StpOk s) (hd : s.d = 7) :
    Calls Tryd.prog 16 #[.pointer (some ⟨o, 0, none⟩), .agg (stpC s), haveV S, wantV S] W fun e w' => e = .returned (.bool true) ∧ Hid (Stt w' (upd (upd M (1, i) (segO (mapS (stG s.at_ 4 s.v) S))) (2, i) (refO (mapS (stG s.at_ 4 s.v) S)))) := by
  have hS0 := stt_stp (8, 3) s hS
  have hdI : (s.d : Int) = 7 := by omega
  have hc := fun W' h => stt_c (W := W') (M := upd M (8, 3) (objP W.heap.size (stpC s) 34)) (c := (8, 3)) h (upd_eq _ _ _)
  have HC1 := hidS (fun W' h => stt_c (W := W') (M := upd (upd M (8, 3) (objP W.heap.size (stpC s) 34)) (1, i) (segO (mapS (stG s.at_ 4 s.v) S))) (o := W.heap.size) (s := s) (c := (8, 3)) h (by simp [upd]))
  have HC2 := hidS (fun W' h => stt_c (W := W') (M := upd (upd (upd M (8, 3) (objP W.heap.size (stpC s) 34)) (1, i) (segO (mapS (stG s.at_ 4 s.v) S))) (2, i) (refO (mapS (stG s.at_ 4 s.v) S))) (o := W.heap.size) (s := s) (c := (8, 3)) h (by simp [upd]))
  have HL := hidS (fun W' h => stt_call (W := W') (M := upd M (8, 3) (objP W.heap.size (stpC s) 34)) (c := (1, i)) (p := segO S) (by simp [upd, h1]) h (fun F h hB => st4_h S s.at_ s.v F W' h hB hs.at_ hs.v))
  have HR := hidS (fun W' h => stt_call (W := W') (M := upd (upd M (8, 3) (objP W.heap.size (stpC s) 34)) (1, i) (segO (mapS (stG s.at_ 4 s.v) S))) (c := (2, i)) (p := refO S) (by simp [upd, h2]) h (fun F h hB => st4_w S s.at_ s.v F W' h hB hs.at_ hs.v))
  have hfin : ∀ W', Stt W' (upd (upd (upd M (8, 3) (objP W.heap.size (stpC s) 34)) (1, i) (segO (mapS (stG s.at_ 4 s.v) S))) (2, i) (refO (mapS (stG s.at_ 4 s.v) S))) → Stt W' (upd (upd M (1, i) (segO (mapS (stG s.at_ 4 s.v) S))) (2, i) (refO (mapS (stG s.at_ 4 s.v) S))) := fun W' h => stt_forget (8, 3) h (by simp [upd, h8]) (fun d hd => by simp [upd, hd])
  obtain ⟨c0, c3, c4, -, -, -⟩ := hc _ hS0
  have HS0 := hidS hS0
  have HF := hidS hfin
  clear hS hs hd hc hfin hS0 h1 h2 h8
  go_enter Tryd.func16, Tryd.ntmps16
  go_wp2_with (first
    | (go_at_call 41; with_reducible refine (HL.out _ HS0.out).mono ?_; rintro e w1 ⟨rfl, HQ1⟩; obtain ⟨-, d3, d4, -, -, -⟩ := HC1.out _ HQ1.out)
    | (go_at_call 14; with_reducible refine (HR.out _ HQ1.out).mono ?_; rintro e w2 ⟨rfl, HQ2⟩)
    | fail)
  go_ret
  exact ⟨rfl, HF.out _ HQ2.out⟩
set_option maxHeartbeats 1000000 in
theorem words_no (o : Nat) (M : Col → Pc) (m r : Value) (s : Stp) (W : World) (hS : Stt W M) (h8 : M (8, 3) = noP) (hd : s.d < 2 ∨ 7 < s.d) :
    Calls Tryd.prog 16 #[.pointer (some ⟨o, 0, none⟩), .agg (stpC s), m, r] W fun e w' => e = .returned (.bool true) ∧ Hid (Stt w' M) := by
  have hS0 := stt_stp (8, 3) s hS
  obtain ⟨c0, -, -, -, -, -⟩ := stt_c hS0 (upd_eq _ _ _)
  have HF := hidS (stt_forget (M' := M) (8, 3) hS0 h8 (fun d hd => by simp [upd, hd]))
  have d2 : ¬ (s.d : Int) = 2 := by omega
  have d3 : ¬ (s.d : Int) = 3 := by omega
  have d4 : ¬ (s.d : Int) = 4 := by omega
  have d5 : ¬ (s.d : Int) = 5 := by omega
  have d6 : ¬ (s.d : Int) = 6 := by omega
  have d7 : ¬ (s.d : Int) = 7 := by omega
  clear hS hS0 h8 hd
  go_enter Tryd.func16, Tryd.ntmps16
  go_wp2_with fail
  go_ret
  exact ⟨rfl, HF⟩
theorem words_any (o : Nat) (M : Col → Pc) (i : Nat) (S : Option Sl) (s : Stp) (W : World) (hS : Stt W M) (h1 : M (1, i) = segO S) (h2 : M (2, i) = refO S) (h8 : M (8, 3) = noP) (hs : StpOk s) :
    Calls Tryd.prog 16 #[.pointer (some ⟨o, 0, none⟩), .agg (stpC s), haveV S, wantV S] W fun e w' => e = .returned (.bool true) ∧ Hid (Stt w' (upd (upd M (1, i) (segO (wdS s S))) (2, i) (refO (wdS s S)))) := by
  by_cases e2 : s.d = 2
  · rw [show wdS s S = mapS (rdG s.at_ 1) S by simp [wdS, e2]]; exact words2 o M i S s W hS h1 h2 h8 hs e2
  by_cases e3 : s.d = 3
  · rw [show wdS s S = mapS (rdG s.at_ 2) S by simp [wdS, e3]]; exact words3 o M i S s W hS h1 h2 h8 hs e3
  by_cases e4 : s.d = 4
  · rw [show wdS s S = mapS (rdG s.at_ 4) S by simp [wdS, e4]]; exact words4 o M i S s W hS h1 h2 h8 hs e4
  by_cases e5 : s.d = 5
  · rw [show wdS s S = mapS (stG s.at_ 1 s.v) S by simp [wdS, e5]]; exact words5 o M i S s W hS h1 h2 h8 hs e5
  by_cases e6 : s.d = 6
  · rw [show wdS s S = mapS (stG s.at_ 2 s.v) S by simp [wdS, e6]]; exact words6 o M i S s W hS h1 h2 h8 hs e6
  by_cases e7 : s.d = 7
  · rw [show wdS s S = mapS (stG s.at_ 4 s.v) S by simp [wdS, e7]]; exact words7 o M i S s W hS h1 h2 h8 hs e7
  · rw [show wdS s S = S by simp [wdS, e2, e3, e4, e5, e6, e7], upd_self h1, upd_self h2]
    exact words_no o M _ _ s W hS h8 (by omega)
end Go.Proofs.YtnjglagfpghbjaaDoor
namespace Go.Proofs.YtnjglagfpghbjaaDoor
open Go.RowKit Go.WideShapes
set_option maxRecDepth 100000

theorem infoLB : (Tryd.prog.info? 32).map (fun i => (i.zero, i.size, i.bytes)) = some (some (.slice none 0 0), 1, 24) := by kernel_rfl
theorem infoLT : (Tryd.prog.info? 40).map (fun i => (i.zero, i.size, i.bytes)) = some (some (.slice none 0 0), 1, 24) := by kernel_rfl
/-- the law's world -/
structure Wd where
  s : Nat → Option Sl
  vg : Value
  vk : Value
  vn : Value
  vw : Value
  lg : List (Value × List Int)
  lk : List (Value × List Int)
  ln : List (Value × List (Int × Bool))
  lw : List (Value × List (Int × Bool))
def wldC (A : Wd) : Array Value := #[haveV (A.s 0), haveV (A.s 1), haveV (A.s 2), haveV (A.s 3), wantV (A.s 0), wantV (A.s 1), wantV (A.s 2), wantV (A.s 3), A.vg, A.vk, A.vn, A.vw]
structure Inv (o : Nat) (A : Wd) (M : Col → Pc) : Prop where
  obj : M (0, 0) = objP o (wldC A) 30
  seg : ∀ i, i < 4 → M (1, i) = segO (A.s i)
  ref : ∀ i, i < 4 → M (2, i) = refO (A.s i)
  rg : M (3, 0) = rowP 32 1 A.vg A.lg.length (A.lg.map (·.1))
  rk : M (3, 1) = rowP 32 1 A.vk A.lk.length (A.lk.map (·.1))
  rn : M (3, 2) = rowP 40 1 A.vn A.ln.length (A.ln.map (·.1))
  rw : M (3, 3) = rowP 40 1 A.vw A.lw.length (A.lw.map (·.1))
  ig : ∀ (j : Nat) v zs, A.lg[j]? = some (v, zs) → M (4, j) = rowB v zs
  ik : ∀ (j : Nat) v zs, A.lk[j]? = some (v, zs) → M (5, j) = rowB v zs
  iN : ∀ (j : Nat) v ts, A.ln[j]? = some (v, ts) → M (6, j) = rowT v ts
  iw : ∀ (j : Nat) v ts, A.lw[j]? = some (v, ts) → M (7, j) = rowT v ts
/-- what the callers hold is left alone -/
def Kee (M M' : Col → Pc) : Prop := ∀ j, M' (8, j) = M (8, j) ∧ M' (9, j) = M (9, j)
theorem Kee.refl (M : Col → Pc) : Kee M M := fun _ => ⟨rfl, rfl⟩
theorem Kee.trans {A B C : Col → Pc} (h : Kee A B) (k : Kee B C) : Kee A C := fun j => ⟨(k j).1.trans (h j).1, (k j).2.trans (h j).2⟩
theorem set_cells {w : World} {a i : Nat} {cs : Array Value} {v : Value} {t : TypeId} (h : w.heap[a]? = some (.cells cs t (0, 0))) : (w.setCell ⟨a, i, none⟩ v).heap[a]? = some (.cells (cs.setIfInBounds i v) t (0, 0)) := by
  rw [setCell_eq_setRow w a i _ t (0, 0) v h, setRow_heap w a _ _ t _ h]
/-- a cell of the world is written -/
theorem stt_set {W : World} {M : Col → Pc} {o i : Nat} {cs cs' : Array Value} {t : TypeId} (h : Stt W M) (ho : M (0, 0) = objP o cs t) (v : Value) (hc : cs.setIfInBounds i v = cs') : Stt (W.setCell ⟨o, i, none⟩ v) (upd M (0, 0) (objP o cs' t)) := by
  obtain ⟨col, h⟩ := h
  have hb := h (0, 0)
  rw [ho] at hb
  subst hc
  exact stt_one h ⟨set_cells hb.1, fun _ => hb.2⟩ (Kp.setCell W _ v (fun _ => hb.2))
/-- a row that is made longer by an append -/
theorem stt_grow {W W1 w2 : World} {M : Col → Pc} {c : Col} {e sz n n' gg cc : Nat} {v : Value} {xs ys : List Value} (h : Stt W M) (hM : M c = rowP e sz v n xs) (hb : Below W.heap.size W W1) (own2 : w2.ownsRow 0 e sz (.slice (some ⟨gg, 0, none⟩) n' cc) n' ys) (hg2 : W1.grownBy w2 v.ownBlock) (hgg : v.ownBlock = some gg ∨ W1.heap.size ≤ gg) : Stt w2 (upd M c (rowP e sz (.slice (some ⟨gg, 0, none⟩) n' cc) n' ys)) := by
  have h1 := stt_below h hb
  obtain ⟨col, h1⟩ := h1
  have hr := h1 c
  rw [hM] at hr
  refine stt_one h1 ⟨own2, fun k e _ => ?_⟩ (Kp.ofGrown hg2 (fun i e _ _ => hr.2 i e))
  simp only [Value.ownBlock, Option.some.injEq] at e
  subst e
  rcases hgg with hgg | hgg
  · exact hr.2 gg hgg
  · omega
end Go.Proofs.YtnjglagfpghbjaaDoor
