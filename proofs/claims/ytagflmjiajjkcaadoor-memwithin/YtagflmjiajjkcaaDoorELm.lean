import Derived.Test.YtagflmjiajjkcaaDoorECp
namespace Go.Proofs.YtagflmjiajjkcaaDoor
open Go.RowKit Go.WideShapes
set_option maxRecDepth 100000

theorem load1_m (lg : Bool) (hN : NoteOk 41 false lg) (a g cap x : Nat) (bs : List Int) (tv : Value) (ts : List (Int × Bool)) (w : World) (hS : MemS w a g cap bs lg tv ts) (hx : x < 4294967296) :
    Calls Tryd.prog 23 #[.pointer (some ⟨a, 0, none⟩), .int .u32 x] w fun e w' => e = .returned (.int .u32 (n4 (rdL bs x 1))) ∧
      (∃ tv', MemS w' a g cap bs lg tv' (lgL lg ts (tcs x 1 bs.length false)) ∧ (∀ j, tv'.ownBlock = some j → tv.ownBlock = some j ∨ w.heap.size ≤ j)) ∧ Kp (Foot a g tv) w w' := by
  have HL : Hid (Calls Tryd.prog 33 #[.pointer (some ⟨a, 0, none⟩), .int .u32 x, .int .i64 1] w fun e w' => e = .returned (.int .u32 (n4 (rdL bs x 1))) ∧
      (∃ tv', MemS w' a g cap bs lg tv' (lgL lg ts (tcs x 1 bs.length false)) ∧ (∀ j, tv'.ownBlock = some j → tv.ownBlock = some j ∨ w.heap.size ≤ j)) ∧ Kp (Foot a g tv) w w') := load_any lg hN a g cap x 1 bs tv ts w hS hx (by decide)
  clear hS hN
  go_enter Tryd.func23, Tryd.ntmps23
  go_wp2_with (first
    | (go_at_call 33; with_reducible refine HL.out.mono ?_; rintro e w1 ⟨rfl, hq⟩; have HQ := hidS hq; clear hq)
    | fail)
  go_ret
  exact ⟨rfl, HQ.out⟩
theorem store1_m (lg : Bool) (hN : NoteOk 43 true lg) (a g cap x : Nat) (v : Int) (bs : List Int) (tv : Value) (ts : List (Int × Bool)) (w : World) (hS : MemS w a g cap bs lg tv ts) (hx : x < 4294967296) (hv : 0 ≤ v ∧ v < 4294967296) :
    Calls Tryd.prog 14 #[.pointer (some ⟨a, 0, none⟩), .int .u32 x, .int .u32 v] w fun e w' => e = .returned (.tuple #[]) ∧
      (∃ tv', MemS w' a g cap (wrL bs x ((by4 v).take 1)) lg tv' (lgL lg ts (tcs x 1 bs.length true)) ∧ (∀ j, tv'.ownBlock = some j → tv.ownBlock = some j ∨ w.heap.size ≤ j)) ∧ Kp (Foot a g tv) w w' := by
  have HL : Hid (Calls Tryd.prog 34 #[.pointer (some ⟨a, 0, none⟩), .int .u32 x, .int .u32 v, .int .i64 1] w fun e w' => e = .returned (.tuple #[]) ∧
      (∃ tv', MemS w' a g cap (wrL bs x ((by4 v).take 1)) lg tv' (lgL lg ts (tcs x 1 bs.length true)) ∧ (∀ j, tv'.ownBlock = some j → tv.ownBlock = some j ∨ w.heap.size ≤ j)) ∧ Kp (Foot a g tv) w w') := store_any lg hN a g cap x 1 v bs tv ts w hS hx (by decide) hv
  clear hS hv hN
  go_enter Tryd.func14, Tryd.ntmps14
  go_wp2_with (first
    | (go_at_call 34; with_reducible refine HL.out.mono ?_; rintro e w1 ⟨rfl, hq⟩; have HQ := hidS hq; clear hq)
    | fail)
  go_end0
  exact ⟨rfl, HQ.out⟩
theorem load2_m (lg : Bool) (hN : NoteOk 41 false lg) (a g cap x : Nat) (bs : List Int) (tv : Value) (ts : List (Int × Bool)) (w : World) (hS : MemS w a g cap bs lg tv ts) (hx : x < 4294967296) :
    Calls Tryd.prog 13 #[.pointer (some ⟨a, 0, none⟩), .int .u32 x] w fun e w' => e = .returned (.int .u32 (n4 (rdL bs x 2))) ∧
      (∃ tv', MemS w' a g cap bs lg tv' (lgL lg ts (tcs x 2 bs.length false)) ∧ (∀ j, tv'.ownBlock = some j → tv.ownBlock = some j ∨ w.heap.size ≤ j)) ∧ Kp (Foot a g tv) w w' := by
  have HL : Hid (Calls Tryd.prog 33 #[.pointer (some ⟨a, 0, none⟩), .int .u32 x, .int .i64 2] w fun e w' => e = .returned (.int .u32 (n4 (rdL bs x 2))) ∧
      (∃ tv', MemS w' a g cap bs lg tv' (lgL lg ts (tcs x 2 bs.length false)) ∧ (∀ j, tv'.ownBlock = some j → tv.ownBlock = some j ∨ w.heap.size ≤ j)) ∧ Kp (Foot a g tv) w w') := load_any lg hN a g cap x 2 bs tv ts w hS hx (by decide)
  clear hS hN
  go_enter Tryd.func13, Tryd.ntmps13
  go_wp2_with (first
    | (go_at_call 33; with_reducible refine HL.out.mono ?_; rintro e w1 ⟨rfl, hq⟩; have HQ := hidS hq; clear hq)
    | fail)
  go_ret
  exact ⟨rfl, HQ.out⟩
theorem store2_m (lg : Bool) (hN : NoteOk 43 true lg) (a g cap x : Nat) (v : Int) (bs : List Int) (tv : Value) (ts : List (Int × Bool)) (w : World) (hS : MemS w a g cap bs lg tv ts) (hx : x < 4294967296) (hv : 0 ≤ v ∧ v < 4294967296) :
    Calls Tryd.prog 24 #[.pointer (some ⟨a, 0, none⟩), .int .u32 x, .int .u32 v] w fun e w' => e = .returned (.tuple #[]) ∧
      (∃ tv', MemS w' a g cap (wrL bs x ((by4 v).take 2)) lg tv' (lgL lg ts (tcs x 2 bs.length true)) ∧ (∀ j, tv'.ownBlock = some j → tv.ownBlock = some j ∨ w.heap.size ≤ j)) ∧ Kp (Foot a g tv) w w' := by
  have HL : Hid (Calls Tryd.prog 34 #[.pointer (some ⟨a, 0, none⟩), .int .u32 x, .int .u32 v, .int .i64 2] w fun e w' => e = .returned (.tuple #[]) ∧
      (∃ tv', MemS w' a g cap (wrL bs x ((by4 v).take 2)) lg tv' (lgL lg ts (tcs x 2 bs.length true)) ∧ (∀ j, tv'.ownBlock = some j → tv.ownBlock = some j ∨ w.heap.size ≤ j)) ∧ Kp (Foot a g tv) w w') := store_any lg hN a g cap x 2 v bs tv ts w hS hx (by decide) hv
  clear hS hv hN
  go_enter Tryd.func24, Tryd.ntmps24
  go_wp2_with (first
    | (go_at_call 34; with_reducible refine HL.out.mono ?_; rintro e w1 ⟨rfl, hq⟩; have HQ := hidS hq; clear hq)
    | fail)
  go_end0
  exact ⟨rfl, HQ.out⟩
theorem load4_m (lg : Bool) (hN : NoteOk 41 false lg) (a g cap x : Nat) (bs : List Int) (tv : Value) (ts : List (Int × Bool)) (w : World) (hS : MemS w a g cap bs lg tv ts) (hx : x < 4294967296) :
    Calls Tryd.prog 11 #[.pointer (some ⟨a, 0, none⟩), .int .u32 x] w fun e w' => e = .returned (.int .u32 (n4 (rdL bs x 4))) ∧
      (∃ tv', MemS w' a g cap bs lg tv' (lgL lg ts (tcs x 4 bs.length false)) ∧ (∀ j, tv'.ownBlock = some j → tv.ownBlock = some j ∨ w.heap.size ≤ j)) ∧ Kp (Foot a g tv) w w' := by
  have HL : Hid (Calls Tryd.prog 33 #[.pointer (some ⟨a, 0, none⟩), .int .u32 x, .int .i64 4] w fun e w' => e = .returned (.int .u32 (n4 (rdL bs x 4))) ∧
      (∃ tv', MemS w' a g cap bs lg tv' (lgL lg ts (tcs x 4 bs.length false)) ∧ (∀ j, tv'.ownBlock = some j → tv.ownBlock = some j ∨ w.heap.size ≤ j)) ∧ Kp (Foot a g tv) w w') := load_any lg hN a g cap x 4 bs tv ts w hS hx (by decide)
  clear hS hN
  go_enter Tryd.func11, Tryd.ntmps11
  go_wp2_with (first
    | (go_at_call 33; with_reducible refine HL.out.mono ?_; rintro e w1 ⟨rfl, hq⟩; have HQ := hidS hq; clear hq)
    | fail)
  go_ret
  exact ⟨rfl, HQ.out⟩
theorem store4_m (lg : Bool) (hN : NoteOk 43 true lg) (a g cap x : Nat) (v : Int) (bs : List Int) (tv : Value) (ts : List (Int × Bool)) (w : World) (hS : MemS w a g cap bs lg tv ts) (hx : x < 4294967296) (hv : 0 ≤ v ∧ v < 4294967296) :
    Calls Tryd.prog 22 #[.pointer (some ⟨a, 0, none⟩), .int .u32 x, .int .u32 v] w fun e w' => e = .returned (.tuple #[]) ∧
      (∃ tv', MemS w' a g cap (wrL bs x ((by4 v).take 4)) lg tv' (lgL lg ts (tcs x 4 bs.length true)) ∧ (∀ j, tv'.ownBlock = some j → tv.ownBlock = some j ∨ w.heap.size ≤ j)) ∧ Kp (Foot a g tv) w w' := by
  have HL : Hid (Calls Tryd.prog 34 #[.pointer (some ⟨a, 0, none⟩), .int .u32 x, .int .u32 v, .int .i64 4] w fun e w' => e = .returned (.tuple #[]) ∧
      (∃ tv', MemS w' a g cap (wrL bs x ((by4 v).take 4)) lg tv' (lgL lg ts (tcs x 4 bs.length true)) ∧ (∀ j, tv'.ownBlock = some j → tv.ownBlock = some j ∨ w.heap.size ≤ j)) ∧ Kp (Foot a g tv) w w') := store_any lg hN a g cap x 4 v bs tv ts w hS hx (by decide) hv
  clear hS hv hN
  go_enter Tryd.func22, Tryd.ntmps22
  go_wp2_with (first
    | (go_at_call 34; with_reducible refine HL.out.mono ?_; rintro e w1 ⟨rfl, hq⟩; have HQ := hidS hq; clear hq)
    | fail)
  go_end0
  exact ⟨rfl, HQ.out⟩
end Go.Proofs.YtagflmjiajjkcaaDoor
