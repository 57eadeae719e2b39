import Derived.Test.YtldeodnlppjbcaaDec
import Derived.Test.YtldeodnlppjbcaaLBase
import Derived.WalkKit
namespace Go.Proofs.Ytldeodnlppjbcaa
open Go.RowKit
set_option maxRecDepth 100000

/-- the place behind a literal's end -/
def litF (s : ByteArray) (m a : Nat) : Nat → Nat → Nat
  | 0, _ => a
  | f + 1, i => if i < s.size then (if bt s i = m then i + 1 else if bt s i = 10 then a else if bt s i = 92 then litF s m a f (i + 2) else litF s m a f (i + 1)) else a
def litEnd (s : ByteArray) (a : Nat) : Nat := litF s (bt s a) a s.size (a + 1)
theorem litF_stop (s : ByteArray) (m a f i : Nat) (h : ¬ i < s.size) : litF s m a f i = a := by
  cases f with
  | zero => rfl
  | succ f => simp [litF, h]
theorem litF_step (s : ByteArray) (m a f i : Nat) (h : i < s.size) (hf : s.size - i ≤ f) : ∃ g, s.size - (i + 1) ≤ g ∧ litF s m a f i = if bt s i = m then i + 1 else if bt s i = 10 then a else if bt s i = 92 then litF s m a g (i + 2) else litF s m a g (i + 1) := by
  cases f with
  | zero => omega
  | succ f => exact ⟨f, by omega, by simp [litF, h]⟩
end Go.Proofs.Ytldeodnlppjbcaa
