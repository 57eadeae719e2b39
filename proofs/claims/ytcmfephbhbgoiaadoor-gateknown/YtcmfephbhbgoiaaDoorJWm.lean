import Derived.Test.YtcmfephbhbgoiaaDoorJAp
import Derived.Test.YtcmfephbhbgoiaaDoorLSame
namespace Go.Proofs.YtcmfephbhbgoiaaDoor
open Go.RowKit Go.WideShapes
set_option maxRecDepth 100000
/-- a data segment of 256 bytes, the first of them those that are handed in -/
def dtK (raw : List Int) (k : Nat) : List Int := raw.take k ++ List.replicate (256 - k) 0
theorem dtK_len {raw : List Int} {k : Nat} (h : k ≤ raw.length) (h2 : k ≤ 256) : (dtK raw k).length = 256 := by simp [dtK]; omega
theorem dtK_zero (raw : List Int) : dtK raw 0 = List.replicate 256 0 := by simp [dtK]
theorem dtK_set {raw : List Int} {k : Nat} (h : k < raw.length) (h2 : k < 256) : (dtK raw k).set k (raw.getD k 0) = dtK raw (k + 1) := by
  have e : List.replicate (256 - k) (0 : Int) = 0 :: List.replicate (256 - (k + 1)) 0 := by
    rw [show 256 - k = (256 - (k + 1)) + 1 by omega, List.replicate_succ]
  unfold dtK
  rw [e, List.set_append_right _ _ (by simp; omega), List.length_take, Nat.min_eq_left (by omega), Nat.sub_self, List.set_cons_zero, List.take_succ_eq_append_getElem h, List.append_assoc]
  simp [List.getD, List.getElem?_eq_getElem h]
theorem dtK_wf {raw : List Int} (k : Nat) (h : ∀ z ∈ raw, 0 ≤ z ∧ z ≤ 255) : ∀ z ∈ dtK raw k, 0 ≤ z ∧ z ≤ 255 := by
  intro z hz
  rcases List.mem_append.1 hz with hz | hz
  · exact h z (List.mem_of_mem_take hz)
  · have := (List.mem_replicate.1 hz).2; omega
theorem wr_in {bs ds : List Int} {p i kk : Nat} (hl : bs.length = 256) (hd : ds.length ≤ 256) (hk : (p + kk) % 256 = i) (hlt : kk < ds.length) : (wrL bs p ds).getD i 0 = ds.getD kk 0 := by
  have := wrL_get ds bs p kk (by omega) hlt
  rw [hl, hk] at this
  exact this
theorem wr_out {bs ds : List Int} {p i kk : Nat} (hl : bs.length = 256) (hd : ds.length ≤ 256) (hkk : kk < 256) (hk : (p + kk) % 256 = i) (hlt : ¬ kk < ds.length) : (wrL bs p ds).getD i 0 = bs.getD i 0 := by
  refine wrL_out ds bs p i (fun j hj => ?_)
  rw [hl]
  omega
end Go.Proofs.YtcmfephbhbgoiaaDoor
