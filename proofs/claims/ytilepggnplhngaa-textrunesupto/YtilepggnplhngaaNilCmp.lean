import Derived.Test.YtilepggnplhngaaIter2
namespace Go.Proofs.Ytilepggnplhngaa

theorem nileq (b : Nat) (w : World) : (Op.equal 27 (.func (.func 8) #[] #[.pointer (some ⟨b, 0, none⟩)]) .nilFunc).run Try.prog w = .ok false w := by
  have hu := run_underlying (P := Try.prog) (w := w) Try.underlying27
  unfold Op.equal
  obtain ⟨d, hd⟩ : ∃ d, Op.maxDepth = d + 1 := ⟨_, rfl⟩
  rw [hd, Op.equalIn]
  simp only [Sem.run_bind, hu, Result.andThen]
  rfl
theorem nilcmp (b : Nat) (w : World) : (binOp .eql 27 (.func (.func 8) #[] #[.pointer (some ⟨b, 0, none⟩)]) .nilFunc).run Try.prog w = .ok (.bool false) w := by
  have h := nileq b w
  have e : binOp .eql 27 (.func (.func 8) #[] #[.pointer (some ⟨b, 0, none⟩)]) .nilFunc = (do pure (.bool (← Op.equal 27 (.func (.func 8) #[] #[.pointer (some ⟨b, 0, none⟩)]) .nilFunc))) := rfl
  rw [e, Sem.run_bind, h]
  rfl
end Go.Proofs.Ytilepggnplhngaa
