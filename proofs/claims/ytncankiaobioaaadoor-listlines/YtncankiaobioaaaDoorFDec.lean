import Derived.Test.YtncankiaobioaaaDoorRows
import Derived.WalkKit
import Derived.WalkLawsBesides
import Derived.Laws.BitsAllLaws
import Derived.Laws.BytesArg
import Derived.Laws.OwnMore
import Derived.Laws.AppendOwn
import Derived.Deep.AppendLies
import Derived.Deep.QuietTactic
import Derived.Deep.LoopGhost
import Derived.BigQuiet
import Derived.WalkSmall
import Derived.OwnWalk
import Derived.Lib.ItoaNum
namespace Go.Proofs.YtncankiaobioaaaDoor
open Go.RowKit
set_option maxRecDepth 100000

/-- a slice of at most one word -/
def AV (w : World) (av : Value) (v : Nat) : Prop :=
  ∃ ao c, av = .slice ao (if v = 0 then 0 else 1) c ∧ (v ≠ 0 → ∃ b off, ao = some ⟨b, off, none⟩ ∧ b < w.heap.size ∧ w.cell? ⟨b, off, none⟩ = some (.int .u32 v))
set_option maxRecDepth 100000 in
set_option maxHeartbeats 1000000 in
theorem dnat_any (x : Nat) (w : World) (hx : x < 4294967296) :
    Calls Tryd.prog 17 #[.int .u64 x] w fun e w' => (∃ v, e = .returned v ∧ AV w' v x) ∧ Below w.heap.size w w' := by
  have hb1 : (x : Int) / 4294967296 = 0 := by omega
  have hb2 : (x : Int) % 4294967296 = x := by omega
  go_enter Tryd.func17, Tryd.ntmps17
  go_wp2
  go_loop [4] (fun n => ∃ k : Nat, n = .int .i64 k ∧ k ≤ 2 ∧ (k = 0 → x = 0)) (fun n => (intOf n).toNat)
  case atStart => exact ⟨2, rfl, by decide, fun h => by omega⟩
  case round =>
    obtain ⟨k, rfl, hk, hk0⟩ := hrel
    have hkc : k = 2 ∨ k = 1 ∨ k = 0 := by omega
    rcases hkc with rfl | rfl | rfl
    · go_wp2
      go_round
      case rel => exact ⟨1, rfl, by decide, fun h => by omega⟩
      case measure => simp [intOf]
    · by_cases h0 : x = 0
      · subst h0
        go_wp2
        go_round
        case rel => first | exact ⟨0, rfl, by decide, fun _ => rfl⟩ | exact ⟨0, rfl, by decide⟩
        case measure => simp [intOf]
      · have hb3 : ((x : Int) == 0) = false := by simp; omega
        go_wp2
        go_ret
        refine ⟨⟨_, rfl, some ⟨w.heap.size, 0, none⟩, 2, by rw [if_neg h0]; rfl, fun _ => ⟨_, _, rfl, by simp, by simp⟩⟩, (Below.refl _ _).alloc (Nat.le_refl _) _⟩
    · have h0 := hk0 rfl
      subst h0
      go_wp2
      go_ret
      exact ⟨⟨_, rfl, _, _, rfl, fun h => absurd rfl h⟩, (Below.refl _ _).alloc (Nat.le_refl _) _⟩
/-! the decimal digits -/
def bts (L : List Int) : List UInt8 := L.map fun n => UInt8.ofNat n.toNat
theorem dec_step (v : Nat) (L : List Int) (_ : v ≠ 0) : Lib.decDigits v ++ bts L = if v / 10 = 0 then bts (((48 + v % 10 : Nat) : Int) :: L) else Lib.decDigits (v / 10) ++ bts (((48 + v % 10 : Nat) : Int) :: L) := by
  rw [Lib.decDigits]
  by_cases h10 : v < 10
  · rw [dif_pos h10, if_pos (by omega), show v % 10 = v by omega]
    rfl
  · rw [dif_neg h10, if_neg (by omega), List.append_assoc]
    rfl
end Go.Proofs.YtncankiaobioaaaDoor
