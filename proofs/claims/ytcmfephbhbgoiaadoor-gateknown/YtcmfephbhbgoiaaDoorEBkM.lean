import Derived.Test.YtcmfephbhbgoiaaDoorEAk
namespace Go.Proofs.YtcmfephbhbgoiaaDoor
open Go.RowKit Go.WideShapes
set_option maxRecDepth 100000

def gt (bs : List Int) (p : Nat) : Int := bs.getD (p % bs.length) 0
theorem n4_4 (bs : List Int) (p : Nat) : n4 (rdL bs p 4) = gt bs p + 256 * gt bs (p + 1) + 65536 * gt bs (p + 2) + 16777216 * gt bs (p + 3) := by
  simp [n4, rdL, gt, List.range_succ]
theorem n4_2 (bs : List Int) (p : Nat) : n4 (rdL bs p 2) = gt bs p + 256 * gt bs (p + 1) := by
  simp [n4, rdL, gt, List.range_succ]
theorem n4_1 (bs : List Int) (p : Nat) : n4 (rdL bs p 1) = gt bs p := by
  simp [n4, rdL, gt, List.range_succ]
theorem gt_mod (bs : List Int) (p q : Nat) (h : p % bs.length = q % bs.length) : gt bs p = gt bs q := by unfold gt; rw [h]
theorem gt_add (bs : List Int) (p q i : Nat) (h : p % bs.length = q % bs.length) : gt bs (p + i) = gt bs (q + i) := gt_mod _ _ _ (by rw [Nat.add_mod p, Nat.add_mod q, h])
theorem gt_in (bs ds : List Int) (p i : Nat) (h : ds.length ≤ bs.length) (hi : i < ds.length) : gt (wrL bs p ds) (p + i) = ds.getD i 0 := by
  unfold gt; rw [wrL_len]; exact wrL_get ds bs p i h hi
theorem gt_out (bs ds : List Int) (p q : Nat) (hn : ∀ i, i < ds.length → (p + i) % bs.length ≠ q % bs.length) : gt (wrL bs p ds) q = gt bs q := by
  unfold gt; rw [wrL_len]; exact wrL_out ds bs p _ hn
theorem mod_ne (N p i j : Nat) (hN : 4 ≤ N) (hi : i < 4) (hj : j < 4) (hij : i ≠ j) : (p + i) % N ≠ (p + j) % N := by
  intro e
  have h1 : (p + i) % N = (p % N + i) % N := by rw [Nat.mod_add_mod]
  have h2 : (p + j) % N = (p % N + j) % N := by rw [Nat.mod_add_mod]
  rw [h1, h2] at e
  have hm := Nat.mod_lt p (show 0 < N by omega)
  generalize p % N = r at *
  by_cases ha : r + i < N <;> by_cases hb : r + j < N
  · rw [Nat.mod_eq_of_lt ha, Nat.mod_eq_of_lt hb] at e; omega
  · rw [Nat.mod_eq_of_lt ha, Nat.mod_eq_sub_mod (by omega), Nat.mod_eq_of_lt (by omega)] at e; omega
  · rw [Nat.mod_eq_sub_mod (by omega), Nat.mod_eq_of_lt (by omega), Nat.mod_eq_of_lt hb] at e; omega
  · rw [Nat.mod_eq_sub_mod (by omega), Nat.mod_eq_of_lt (by omega), Nat.mod_eq_sub_mod (a := r + j) (by omega), Nat.mod_eq_of_lt (a := r + j - N) (by omega)] at e; omega
/-- what stands there behind the first store -/
theorem bk1 (bs : List Int) (p : Nat) (v : Int) (hN : 256 ≤ bs.length) : gt (wrL bs p (by4 v)) p = v % 256 ∧ gt (wrL bs p (by4 v)) (p + 1) = v / 256 % 256 ∧ gt (wrL bs p (by4 v)) (p + 2) = v / 65536 % 256 ∧ gt (wrL bs p (by4 v)) (p + 3) = v / 16777216 := by
  have h4 : (by4 v).length = 4 := rfl
  exact ⟨gt_in bs (by4 v) p 0 (by omega) (by omega), gt_in bs (by4 v) p 1 (by omega) (by omega), gt_in bs (by4 v) p 2 (by omega) (by omega), gt_in bs (by4 v) p 3 (by omega) (by omega)⟩
/-- .. and behind the second and third -/
theorem bk2 (bs : List Int) (p ag p2 : Nat) (v x y : Int) (hN : 256 ≤ bs.length) (ha : ag % bs.length = p % bs.length) (h2 : p2 % bs.length = (p + 2) % bs.length) :
    n4 (rdL (wrL (wrL (wrL bs p (by4 v)) ag ((by4 x).take 2)) p2 ((by4 y).take 1)) p 4) = x % 256 + 256 * (x / 256 % 256) + 65536 * (y % 256) + 16777216 * (v / 16777216) := by
  obtain ⟨_, _, _, e3⟩ := bk1 bs p v hN
  have l2 : ((by4 x).take 2).length = 2 := rfl
  have l1 : ((by4 y).take 1).length = 1 := rfl
  have hl1 : (wrL bs p (by4 v)).length = bs.length := wrL_len _ _ _
  generalize wrL bs p (by4 v) = b1 at *
  have hl2 : (wrL b1 ag ((by4 x).take 2)).length = bs.length := by rw [wrL_len, hl1]
  have f0 : gt (wrL b1 ag ((by4 x).take 2)) p = x % 256 := by
    rw [gt_mod _ p (ag + 0) (by rw [hl2, Nat.add_zero, ha])]; exact gt_in b1 _ ag 0 (by omega) (by omega)
  have f1 : gt (wrL b1 ag ((by4 x).take 2)) (p + 1) = x / 256 % 256 := by
    rw [gt_add _ p ag 1 (by rw [hl2, ha])]; exact gt_in b1 _ ag 1 (by omega) (by omega)
  have f3 : gt (wrL b1 ag ((by4 x).take 2)) (p + 3) = v / 16777216 := by
    rw [gt_out b1 _ ag (p + 3) (fun i hi => by rw [hl1, Nat.add_mod, ha, ← Nat.add_mod]; exact mod_ne bs.length p i 3 (by omega) (by omega) (by omega) (by omega))]; exact e3
  generalize wrL b1 ag ((by4 x).take 2) = b2 at *
  have hne : ∀ j, j < 4 → j ≠ 2 → ∀ i, i < ((by4 y).take 1).length → (p2 + i) % b2.length ≠ (p + j) % b2.length := fun j hj hj2 i hi => by
    obtain rfl : i = 0 := by omega
    rw [hl2, Nat.add_zero, h2]; exact mod_ne bs.length p 2 j (by omega) (by omega) hj (by omega)
  have hl3 : (wrL b2 p2 ((by4 y).take 1)).length = bs.length := by rw [wrL_len, hl2]
  rw [n4_4, gt_out b2 _ p2 p (by have := hne 0 (by omega) (by omega); simpa using this), gt_out b2 _ p2 (p + 1) (hne 1 (by omega) (by omega)), gt_out b2 _ p2 (p + 3) (hne 3 (by omega) (by omega)), f0, f1, f3]
  have f2 : gt (wrL b2 p2 ((by4 y).take 1)) (p + 2) = y % 256 := by
    rw [gt_mod _ (p + 2) (p2 + 0) (by rw [hl3]; exact h2.symm)]; exact gt_in b2 _ p2 0 (by omega) (by omega)
  rw [f2]
end Go.Proofs.YtcmfephbhbgoiaaDoor
