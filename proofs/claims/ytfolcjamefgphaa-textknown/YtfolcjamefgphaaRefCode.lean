import Derived.Test.YtfolcjamefgphaaRdMath
import Derived.Test.YtfolcjamefgphaaLMark
import Derived.OwnWalk
namespace Go.Proofs.Ytfolcjamefgphaa
open Go.RowKit

theorem conv_lit (w : World) (zs : List Int) (cap : Nat) : (convert 32 9 (.slice (some ⟨w.heap.size, 0, none⟩) zs.length cap)).run Try.prog (w.alloc (.cells (bv zs).toArray 5)) = .ok (.string (strOfNums zs)) (w.alloc (.cells (bv zs).toArray 5)) :=
  run_convert_bytes_arg (P := Try.prog) _ 32 5 Try.underlying32 Try.underlying5 w.heap.size 0 zs.length cap zs rfl (fun i hi => by
    rw [Nat.zero_add, World.cell?_alloc_at _ _ _ _ rfl]
    simp [bv, hi]) 9 Try.underlying9
theorem conv1 (W : World) (a : Int) : (convert 32 9 (.slice (some ⟨W.heap.size, 0, none⟩) 1 1)).run Try.prog (W.alloc (.cells #[.int .u8 a] 5)) = .ok (.string (strOfNums [a])) (W.alloc (.cells #[.int .u8 a] 5)) := conv_lit W [a] 1
theorem conv2 (W : World) (a b : Int) : (convert 32 9 (.slice (some ⟨W.heap.size, 0, none⟩) 2 2)).run Try.prog (W.alloc (.cells #[.int .u8 a, .int .u8 b] 5)) = .ok (.string (strOfNums [a, b])) (W.alloc (.cells #[.int .u8 a, .int .u8 b] 5)) := conv_lit W [a, b] 2
theorem conv3 (W : World) (a b c : Int) : (convert 32 9 (.slice (some ⟨W.heap.size, 0, none⟩) 3 3)).run Try.prog (W.alloc (.cells #[.int .u8 a, .int .u8 b, .int .u8 c] 5)) = .ok (.string (strOfNums [a, b, c])) (W.alloc (.cells #[.int .u8 a, .int .u8 b, .int .u8 c] 5)) := conv_lit W [a, b, c] 3
theorem conv4 (W : World) (a b c d : Int) : (convert 32 9 (.slice (some ⟨W.heap.size, 0, none⟩) 4 4)).run Try.prog (W.alloc (.cells #[.int .u8 a, .int .u8 b, .int .u8 c, .int .u8 d] 5)) = .ok (.string (strOfNums [a, b, c, d])) (W.alloc (.cells #[.int .u8 a, .int .u8 b, .int .u8 c, .int .u8 d] 5)) := conv_lit W [a, b, c, d] 4

end Go.Proofs.Ytfolcjamefgphaa
