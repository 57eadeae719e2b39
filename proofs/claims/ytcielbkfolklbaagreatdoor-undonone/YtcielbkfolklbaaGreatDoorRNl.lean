import Derived.Test.YtcielbkfolklbaaGreatDoorRNm
import Derived.Deep.RegionHeld3
import Derived.Deep.QuietTactic
namespace Go.Proofs.YtcielbkfolklbaaGreatDoor
open Go.RowKit Go.WideShapes
set_option maxRecDepth 100000
theorem swords_z (w : World) : Calls Tryz.prog 33 #[.slice none 0 0, .slice none 0 0] w fun e w' => e = .returned (.bool true) ∧ w' = w := by
  go_enter Tryz.func33, Tryz.ntmps33
  go_wp2
  go_loopw [5] (fun i wr => i = .int .i64 0 ∧ wr = w) (fun _ _ => 0)
  case atStart => exact ⟨rfl, rfl⟩
  case round =>
    obtain ⟨rfl, rfl⟩ := hrel
    go_wp2
    go_ret
    exact ⟨rfl, rfl⟩
theorem sbytes_z (w : World) : Calls Tryz.prog 34 #[.slice none 0 0, .slice none 0 0] w fun e w' => e = .returned (.bool true) ∧ w' = w := by
  go_enter Tryz.func34, Tryz.ntmps34
  go_wp2
  go_loopw [5] (fun i wr => i = .int .i64 0 ∧ wr = w) (fun _ _ => 0)
  case atStart => exact ⟨rfl, rfl⟩
  case round =>
    obtain ⟨rfl, rfl⟩ := hrel
    go_wp2
    go_ret
    exact ⟨rfl, rfl⟩
theorem sevents_z (w : World) : Calls Tryz.prog 24 #[.slice none 0 0, .slice none 0 0] w fun e w' => e = .returned (.bool true) ∧ w' = w := by
  go_enter Tryz.func24, Tryz.ntmps24
  go_wp2
  go_loopw [5] (fun i wr => i = .int .i64 0 ∧ wr = w) (fun _ _ => 0)
  case atStart => exact ⟨rfl, rfl⟩
  case round =>
    obtain ⟨rfl, rfl⟩ := hrel
    go_wp2
    go_ret
    exact ⟨rfl, rfl⟩
theorem sevent_z (w : World) : Calls Tryz.prog 25 #[.agg #[.int .u32 0, .int .u32 0, .slice none 0 0, .int .u32 0], .agg #[.int .u32 0, .int .u32 0, .slice none 0 0, .int .u32 0]] w fun e w' => e = .returned (.bool true) ∧ Below w.heap.size w w' := by
  have hW := swords_z
  go_enter Tryz.func25, Tryz.ntmps25
  go_wp2_with (go_at_call 33; with_reducible refine (hW _).mono ?_; rintro e wq ⟨rfl, hq⟩; subst wq)
  go_ret
  exact ⟨rfl, belP (belP (Below.refl _ _))⟩
theorem sresult_z (w : World) : Calls Tryz.prog 6 #[.agg rsZ, .agg rsZ] w fun e w' => e = .returned (.bool true) ∧ Below w.heap.size w w' := by
  have hE := sevents_z
  have hV := sevent_z
  simp only [rsZ]
  go_enter Tryz.func6, Tryz.ntmps6
  go_wp2_with (first
    | (go_at_call 24; with_reducible refine (hE _).mono ?_; rintro e wq ⟨rfl, hq⟩; subst wq)
    | (go_at_call 25; with_reducible refine (hV _).mono ?_; rintro e w2 ⟨rfl, hb2⟩))
  go_ret
  exact ⟨rfl, btP (belP (belP (Below.refl _ _))) hb2⟩
theorem sstate_z (w : World) : Calls Tryz.prog 12 #[.agg stZ, .agg stZ] w fun e w' => e = .returned (.bool true) ∧ Below w.heap.size w w' := by
  have hE := swords_z
  have hV := sbytes_z
  simp only [stZ]
  go_enter Tryz.func12, Tryz.ntmps12
  go_wp2_with (first
    | (go_at_call 33; with_reducible refine (hE _).mono ?_; rintro e wq ⟨rfl, hq⟩; subst wq)
    | (go_at_call 34; with_reducible refine (hV _).mono ?_; rintro e wq ⟨rfl, hq⟩; subst wq))
  go_ret
  exact ⟨rfl, belP (belP (Below.refl _ _))⟩
end Go.Proofs.YtcielbkfolklbaaGreatDoor
