import Derived.Test.YtcmfephbhbgoiaaDoorECp
namespace Go.Proofs.YtcmfephbhbgoiaaDoor
open Go.RowKit Go.WideShapes
theorem load4_m (lg : Bool) (hN : NoteOk 64 false lg) (a g cap x : Nat) (bs : List Int) (tv : Value) (ts : List (Int × Bool)) (w : World) (hS : MemS w a g cap bs lg tv ts) (hx : x < 4294967296) :
    Calls Tryd.prog 20 #[.pointer (some ⟨a, 0, none⟩), .int .u32 x] w fun e w' => e = .returned (.int .u32 (n4 (rdL bs x 4))) ∧
      (∃ tv', MemS w' a g cap bs lg tv' (lgL lg ts (tcs x 4 bs.length false)) ∧ (∀ j, tv'.ownBlock = some j → tv.ownBlock = some j ∨ w.heap.size ≤ j)) ∧ Kp (Foot a g tv) w w' := by
  have HL : Hid (Calls Tryd.prog 39 #[.pointer (some ⟨a, 0, none⟩), .int .u32 x, .int .i64 4] w fun e w' => e = .returned (.int .u32 (n4 (rdL bs x 4))) ∧
      (∃ tv', MemS w' a g cap bs lg tv' (lgL lg ts (tcs x 4 bs.length false)) ∧ (∀ j, tv'.ownBlock = some j → tv.ownBlock = some j ∨ w.heap.size ≤ j)) ∧ Kp (Foot a g tv) w w') := load_any lg hN a g cap x 4 bs tv ts w hS hx (by decide)
  clear hS hN
  go_enter Tryd.func20, Tryd.ntmps20
  go_wp2_with (first
    | (go_at_call 39; with_reducible refine HL.out.mono ?_; rintro e w1 ⟨rfl, hq⟩; have HQ := hidS hq; clear hq)
    | fail)
  go_ret
  exact ⟨rfl, HQ.out⟩
theorem store4_m (lg : Bool) (hN : NoteOk 60 true lg) (a g cap x : Nat) (v : Int) (bs : List Int) (tv : Value) (ts : List (Int × Bool)) (w : World) (hS : MemS w a g cap bs lg tv ts) (hx : x < 4294967296) (hv : 0 ≤ v ∧ v < 4294967296) :
    Calls Tryd.prog 19 #[.pointer (some ⟨a, 0, none⟩), .int .u32 x, .int .u32 v] w fun e w' => e = .returned (.tuple #[]) ∧
      (∃ tv', MemS w' a g cap (wrL bs x ((by4 v).take 4)) lg tv' (lgL lg ts (tcs x 4 bs.length true)) ∧ (∀ j, tv'.ownBlock = some j → tv.ownBlock = some j ∨ w.heap.size ≤ j)) ∧ Kp (Foot a g tv) w w' := by
  have HL : Hid (Calls Tryd.prog 38 #[.pointer (some ⟨a, 0, none⟩), .int .u32 x, .int .u32 v, .int .i64 4] w fun e w' => e = .returned (.tuple #[]) ∧
      (∃ tv', MemS w' a g cap (wrL bs x ((by4 v).take 4)) lg tv' (lgL lg ts (tcs x 4 bs.length true)) ∧ (∀ j, tv'.ownBlock = some j → tv.ownBlock = some j ∨ w.heap.size ≤ j)) ∧ Kp (Foot a g tv) w w') := store_any lg hN a g cap x 4 v bs tv ts w hS hx (by decide) hv
  clear hS hv hN
  go_enter Tryd.func19, Tryd.ntmps19
  go_wp2_with (first
    | (go_at_call 38; with_reducible refine HL.out.mono ?_; rintro e w1 ⟨rfl, hq⟩; have HQ := hidS hq; clear hq)
    | fail)
  go_end0
  exact ⟨rfl, HQ.out⟩
end Go.Proofs.YtcmfephbhbgoiaaDoor
