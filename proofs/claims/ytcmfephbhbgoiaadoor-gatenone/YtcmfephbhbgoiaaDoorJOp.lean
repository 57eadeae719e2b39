import Derived.Test.YtcmfephbhbgoiaaDoorJGl
import Derived.Test.YtcmfephbhbgoiaaDoorLOpenW
namespace Go.Proofs.YtcmfephbhbgoiaaDoor
open Go.ChangeShapes Go.WideShapes Go.ChangeAt Go.RowKit
theorem Tryd.bytesD : Tryd.prog.bytesOf 23 = 4 := by kernel_rfl
theorem wrd_of {W : World} {ao : Option Addr} {zs : List Int} {B : Nat} (h : ReadsK W .u32 ao zs B) (hw : ∀ z ∈ zs, 0 ≤ z ∧ z < 4294967296) : WRd W ao (zs.map Int.toNat) B := by
  intro hl
  rw [List.length_map] at hl
  obtain ⟨b, off, e, hb, hc⟩ := h hl
  refine ⟨b, off, e, hb, fun j hj => ?_⟩
  rw [List.length_map] at hj
  have h0 := hw (zs.getD j 0) (by simp [List.getD, List.getElem?_eq_getElem hj])
  have h1 : (zs.map Int.toNat).getD j 0 = (zs.getD j 0).toNat := by simp [List.getD, List.getElem?_eq_getElem hj]
  rw [hc j hj, h1, Int.toNat_of_nonneg h0.1]
theorem wrd_lt {zs : List Int} (hw : ∀ z ∈ zs, 0 ≤ z ∧ z < 4294967296) : ∀ z ∈ zs.map Int.toNat, z < 4294967296 := fun z hz => by
  obtain ⟨y, hy, rfl⟩ := List.mem_map.1 hz; have := hw y hy; omega
end Go.Proofs.YtcmfephbhbgoiaaDoor
