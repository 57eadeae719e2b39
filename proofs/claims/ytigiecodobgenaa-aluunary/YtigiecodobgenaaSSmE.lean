import Derived.Test.YtigiecodobgenaaSSmD
import Derived.Test.YtigiecodobgenaaSRest
namespace Go.Proofs.Ytigiecodobgenaa
open Go.RowKit

theorem tn_mod (b : Nat) (h : b < 4294967296) : tn b % 2147483648 = b % 2147483648 ∧ sg (tn b) = !sg b := by
  unfold tn sg
  split
  · exact ⟨by omega, by rw [decide_eq_true (by omega), decide_eq_false (by omega)]; rfl⟩
  · exact ⟨by omega, by rw [decide_eq_false (by omega), decide_eq_true (by omega)]; rfl⟩
theorem rdm_mod {a b : Nat} (h : a % 2147483648 = b % 2147483648) : rdm a = rdm b ∧ rdk a = rdk b := by
  unfold rdm rdk
  rw [h, show a % 8388608 = b % 8388608 by omega]
  exact ⟨rfl, rfl⟩
theorem fsum_inf_n {x c : Nat} (hi : x % 2147483648 = 2139095040) (hj : c % 2147483648 = 2139095040) (hs : sn x ≠ sn c) : fsum x c = 2143289344 := by
  have h0 : Ieee.single.add x c = ((Ieee.single.read x).sum (Ieee.single.read c)).map Ieee.single.write := rfl
  rw [inf_read hi, inf_read hj] at h0
  unfold fsum
  rw [h0]
  simp only [Ieee.Datum.sum, if_neg hs]
  rfl
theorem fsum_inf_s {x c : Nat} (hx : x < 4294967296) (hi : x % 2147483648 = 2139095040) (hj : c % 2147483648 = 2139095040) (hs : sn x = sn c) : fsum x c = x := by
  have h0 : Ieee.single.add x c = ((Ieee.single.read x).sum (Ieee.single.read c)).map Ieee.single.write := rfl
  rw [inf_read hi, inf_read hj] at h0
  unfold fsum
  rw [h0]
  simp only [Ieee.Datum.sum, if_pos hs]
  exact inf_write hx hi
theorem fsum_inf_f {x c : Nat} (hx : x < 4294967296) (hi : x % 2147483648 = 2139095040) (hf : c % 2147483648 < 2139095040) : fsum x c = x := by
  have h0 : Ieee.single.add x c = ((Ieee.single.read x).sum (Ieee.single.read c)).map Ieee.single.write := rfl
  obtain ⟨m, k, e, -⟩ := read_fin c hf
  rw [inf_read hi, e] at h0
  unfold fsum
  rw [h0]
  exact inf_write hx hi
theorem fsum_fin_i {x c : Nat} (hc : c < 4294967296) (hi : c % 2147483648 = 2139095040) (hf : x % 2147483648 < 2139095040) : fsum x c = c := by
  have e : fsum x c = fsum c x := by unfold fsum Ieee.Format.add; rw [sum_comm']
  rw [e]; exact fsum_inf_f hc hi hf
theorem wrd_inf {a : Nat} (h : a < 4294967296) (hi : a % 2147483648 = 2139095040) : wrd (sg a) 2139095040 = a := by
  have := wrd_sg a h
  rwa [hi] at this
theorem layAt {v : Value} {x : Nat} (h : LayV v x) (w : World) : Calls Try.prog 30 #[v] w fun e w' => e = .returned (.int .u32 (x : Int)) ∧ Below w.heap.size w w' := h w
theorem layV_none : LayV vN 2143289344 := fun w => lay_none w
theorem layV_inf {a : Nat} (h : a < 4294967296) (hi : a % 2147483648 = 2139095040) : LayV (vE (sg a)) a := fun w => by
  have := lay_endless (sg a) w
  rwa [wrd_inf h hi] at this
end Go.Proofs.Ytigiecodobgenaa
