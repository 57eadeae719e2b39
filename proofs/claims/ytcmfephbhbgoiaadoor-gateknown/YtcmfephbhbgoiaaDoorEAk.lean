import Derived.Test.YtcmfephbhbgoiaaDoorEAw
namespace Go.Proofs.YtcmfephbhbgoiaaDoor
open Go.RowKit Go.WideShapes
theorem shl9 (b : Nat) : ∃ N : Nat, Pw N ∧ wrap64 (256 * 2 ^ (b % 9)) = (N : Int) := by
  have h9 : b % 9 < 9 := Nat.mod_lt _ (by decide)
  generalize b % 9 = k at *
  have : k = 0 ∨ k = 1 ∨ k = 2 ∨ k = 3 ∨ k = 4 ∨ k = 5 ∨ k = 6 ∨ k = 7 ∨ k = 8 := by omega
  rcases this with rfl | rfl | rfl | rfl | rfl | rfl | rfl | rfl | rfl
  · exact ⟨256, .inl rfl, by kernel_rfl⟩
  · exact ⟨512, .inr (.inl rfl), by kernel_rfl⟩
  · exact ⟨1024, .inr (.inr (.inl rfl)), by kernel_rfl⟩
  · exact ⟨2048, .inr (.inr (.inr (.inl rfl))), by kernel_rfl⟩
  · exact ⟨4096, .inr (.inr (.inr (.inr (.inl rfl)))), by kernel_rfl⟩
  · exact ⟨8192, .inr (.inr (.inr (.inr (.inr (.inl rfl))))), by kernel_rfl⟩
  · exact ⟨16384, .inr (.inr (.inr (.inr (.inr (.inr (.inl rfl)))))), by kernel_rfl⟩
  · exact ⟨32768, .inr (.inr (.inr (.inr (.inr (.inr (.inr (.inl rfl))))))), by kernel_rfl⟩
  · exact ⟨65536, .inr (.inr (.inr (.inr (.inr (.inr (.inr (.inr rfl))))))), by kernel_rfl⟩
end Go.Proofs.YtcmfephbhbgoiaaDoor
