import Derived.Test.YtiopabplhneoeaaSInA
import Derived.Test.YtiopabplhneoeaaSRmE
import Derived.Test.YtiopabplhneoeaaShelf
namespace Go.Proofs.Ytiopabplhneoeaa
open Go.RowKit

set_option maxRecDepth 100000 in
theorem fin_any (k n : Nat) (w : World) (hk : k ≤ 253) (hn : n ≤ 16777216) :
    Calls Try.prog 40 #[.int .u32 n, .int .i64 (-149 + (k : Int))] w fun e w' => e = .returned (.int .u32 (k * 8388608 + n : Nat)) ∧ w' = w := by
  have e : (k : Int) * 8388608 + (n : Int) = ((k * 8388608 + n : Nat) : Int) := by omega
  go_enter Try.func40, Try.ntmps40
  go_wp2
  go_ret
  refine ⟨?_, rfl⟩
  first | rfl | exact congrArg (fun x => Ending.returned (.int .u32 x)) e | exact congrArg (fun x => Ending.returned (.int .u32 x)) (by omega)
set_option maxRecDepth 100000 in
theorem sgn_any (m : Bool) (a : Nat) (w : World) (ha : a < 2147483648) :
    Calls Try.prog 22 #[.bool m, .int .u32 a] w fun e w' => e = .returned (.int .u32 (wrd m a : Nat)) ∧ w' = w := by
  cases m
  · have e : (a : Int) = ((wrd false a : Nat) : Int) := by unfold wrd; simp
    go_enter Try.func22, Try.ntmps22
    go_wp2
    go_ret
    refine ⟨?_, rfl⟩
    first | rfl | exact congrArg (fun x => Ending.returned (.int .u32 x)) e | exact congrArg (fun x => Ending.returned (.int .u32 x)) (by omega)
  · have e : bits .or .u32 (a : Int) 2147483648 = ((wrd true a : Nat) : Int) := by rw [b_or a ha]; unfold wrd; simp; omega
    go_enter Try.func22, Try.ntmps22
    go_wp2
    go_ret
    refine ⟨?_, rfl⟩
    first | rfl | exact congrArg (fun x => Ending.returned (.int .u32 x)) e | exact congrArg (fun x => Ending.returned (.int .u32 x)) (by omega)
set_option maxRecDepth 100000 in
theorem nst_far (M : Nat) (P : Int) (mo : Bool) (w : World) (hP : -5000 ≤ P) (h : 64 < -149 - P) :
    Calls Try.prog 24 #[.int .u64 M, .int .i64 P, .bool mo] w fun e w' => e = .returned (.int .u32 0) ∧ w' = w := by
  go_enter Try.func24, Try.ntmps24
  go_wp2
  go_ret
  exact ⟨rfl, rfl⟩
set_option maxRecDepth 100000 in
theorem nst_big (M : Nat) (P : Int) (mo : Bool) (w : World) (hP : P ≤ 5000) (h : 64 < P) :
    Calls Try.prog 24 #[.int .u64 M, .int .i64 P, .bool mo] w fun e w' => e = .returned (.int .u32 2139095040) ∧ w' = w := by
  have hm : max (40 : Int) (-149 - P) = 40 := by omega
  have h' : 104 < P + 40 := by omega
  go_enter Try.func24, Try.ntmps24
  go_wp2
  go_ret
  exact ⟨rfl, rfl⟩
end Go.Proofs.Ytiopabplhneoeaa
