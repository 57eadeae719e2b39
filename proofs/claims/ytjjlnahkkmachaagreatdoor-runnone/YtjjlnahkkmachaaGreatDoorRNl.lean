import Derived.Test.YtjjlnahkkmachaaGreatDoorRNm
import Derived.Deep.RegionHeld3
import Derived.Deep.QuietTactic
namespace Go.Proofs.YtjjlnahkkmachaaGreatDoor
open Go.RowKit Go.WideShapes
set_option maxRecDepth 100000
theorem swords_z (w : World) : Calls Tryz.prog 36 #[.slice none 0 0, .slice none 0 0] w fun e w' => e = .returned (.bool true) ∧ w' = w := by
  go_enter Tryz.func36, Tryz.ntmps36
  go_wp2
  go_loopw [5] (fun i wr => i = .int .i64 0 ∧ wr = w) (fun _ _ => 0)
  case atStart => exact ⟨rfl, rfl⟩
  case round =>
    obtain ⟨rfl, rfl⟩ := hrel
    go_wp2
    go_ret
    exact ⟨rfl, rfl⟩
theorem sbytes_z (w : World) : Calls Tryz.prog 37 #[.slice none 0 0, .slice none 0 0] w fun e w' => e = .returned (.bool true) ∧ w' = w := by
  go_enter Tryz.func37, Tryz.ntmps37
  go_wp2
  go_loopw [5] (fun i wr => i = .int .i64 0 ∧ wr = w) (fun _ _ => 0)
  case atStart => exact ⟨rfl, rfl⟩
  case round =>
    obtain ⟨rfl, rfl⟩ := hrel
    go_wp2
    go_ret
    exact ⟨rfl, rfl⟩
theorem sevents_z (w : World) : Calls Tryz.prog 30 #[.slice none 0 0, .slice none 0 0] w fun e w' => e = .returned (.bool true) ∧ w' = w := by
  go_enter Tryz.func30, Tryz.ntmps30
  go_wp2
  go_loopw [5] (fun i wr => i = .int .i64 0 ∧ wr = w) (fun _ _ => 0)
  case atStart => exact ⟨rfl, rfl⟩
  case round =>
    obtain ⟨rfl, rfl⟩ := hrel
    go_wp2
    go_ret
    exact ⟨rfl, rfl⟩
theorem sevent_z (w : World) : Calls Tryz.prog 31 #[.agg #[.int .u32 0, .int .u32 0, .slice none 0 0, .int .u32 0], .agg #[.int .u32 0, .int .u32 0, .slice none 0 0, .int .u32 0]] w fun e w' => e = .returned (.bool true) ∧ Below w.heap.size w w' := by
  have hW := swords_z
  go_enter Tryz.func31, Tryz.ntmps31
  go_wp2_with (go_at_call 36; with_reducible refine (hW _).mono ?_; rintro e wq ⟨rfl, hq⟩; subst wq)
  go_ret
  exact ⟨rfl, belP (belP (Below.refl _ _))⟩
theorem sresult_z (w : World) : Calls Tryz.prog 9 #[.agg rsZ, .agg rsZ] w fun e w' => e = .returned (.bool true) ∧ Below w.heap.size w w' := by
  have hE := sevents_z
  have hV := sevent_z
  simp only [rsZ]
  go_enter Tryz.func9, Tryz.ntmps9
  go_wp2_with (first
    | (go_at_call 30; with_reducible refine (hE _).mono ?_; rintro e wq ⟨rfl, hq⟩; subst wq)
    | (go_at_call 31; with_reducible refine (hV _).mono ?_; rintro e w2 ⟨rfl, hb2⟩))
  go_ret
  exact ⟨rfl, btP (belP (belP (Below.refl _ _))) hb2⟩
theorem sstate_z (w : World) : Calls Tryz.prog 14 #[.agg stZ, .agg stZ] w fun e w' => e = .returned (.bool true) ∧ Below w.heap.size w w' := by
  have hE := swords_z
  have hV := sbytes_z
  simp only [stZ]
  go_enter Tryz.func14, Tryz.ntmps14
  go_wp2_with (first
    | (go_at_call 36; with_reducible refine (hE _).mono ?_; rintro e wq ⟨rfl, hq⟩; subst wq)
    | (go_at_call 37; with_reducible refine (hV _).mono ?_; rintro e wq ⟨rfl, hq⟩; subst wq))
  go_ret
  exact ⟨rfl, belP (belP (Below.refl _ _))⟩
end Go.Proofs.YtjjlnahkkmachaaGreatDoor
