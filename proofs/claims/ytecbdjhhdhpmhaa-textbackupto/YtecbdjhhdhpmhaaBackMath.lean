import Derived.Test.YtecbdjhhdhpmhaaRefEsc
import Derived.Test.YtecbdjhhdhpmhaaShow
namespace Go.Proofs.Ytecbdjhhdhpmhaa
open Go.RowKit

theorem bt_str (L : List Int) (j : Nat) (h0 : 0 ≤ L.getD j 0) (h1 : L.getD j 0 ≤ 255) : (bt (strOfNums L) j : Int) = L.getD j 0 := by
  by_cases h : j < L.length
  · obtain ⟨b, e, hb⟩ := bt_list (strOfNums L) j (by rw [strOfNums_size]; exact h)
    rw [strOfNums_data, List.getElem?_map, List.getElem?_eq_getElem h] at e
    simp only [Option.map_some, Option.some.injEq] at e
    have hg : L.getD j 0 = L[j] := by simp [List.getD, List.getElem?_eq_getElem h]
    rw [hg] at h0 h1 ⊢
    rw [← hb, ← e]
    simp
    omega
  · rw [bt_out _ _ (by rw [strOfNums_size]; omega)]
    simp [List.getD, List.getElem?_eq_none (by omega : L.length ≤ j)]
theorem hexd_range (x : Int) (h0 : 0 ≤ x) (h1 : x < 16) : 48 ≤ hexd x ∧ hexd x ≤ 102 ∧ hexv (hexd x) = x := by
  unfold hexd hexv
  repeat' split
  all_goals omega
theorem esc_range (c : Int) (h0 : 0 ≤ c) (h1 : c ≤ 255) : ∀ x ∈ esc c, 32 ≤ x ∧ x ≤ 126 := by
  intro x hx
  unfold esc at hx
  have a := hexd_range (c / 16) (by omega) (by omega)
  have b := hexd_range (c % 16) (by omega) (by omega)
  repeat' split at hx
  all_goals simp at hx
  all_goals omega
theorem esc_pos (c : Int) : 1 ≤ (esc c).length := by
  unfold esc
  repeat' split
  all_goals simp
/-- the whole literal -/
def lit (zs : List Int) : List Int := sh zs zs.length ++ [34]
theorem sh_range (zs : List Int) (hwf : ∀ z ∈ zs, 0 ≤ z ∧ z ≤ 255) (k : Nat) : ∀ x ∈ sh zs k, 32 ≤ x ∧ x ≤ 126 := by
  intro x hx
  simp only [sh, List.mem_cons, List.mem_flatMap] at hx
  rcases hx with rfl | ⟨c, hc, hx⟩
  · omega
  · have := hwf c (List.mem_of_mem_take hc)
    exact esc_range c this.1 this.2 x hx
theorem lit_range (zs : List Int) (hwf : ∀ z ∈ zs, 0 ≤ z ∧ z ≤ 255) (j : Nat) (hj : j < (lit zs).length) : 32 ≤ (lit zs).getD j 0 ∧ (lit zs).getD j 0 ≤ 126 := by
  have hg : (lit zs).getD j 0 = (lit zs)[j] := by simp [List.getD, List.getElem?_eq_getElem hj]
  rw [hg]
  have hm : (lit zs)[j] ∈ lit zs := List.getElem_mem hj
  generalize (lit zs)[j] = x at hm
  simp only [lit, List.mem_append, List.mem_singleton] at hm
  rcases hm with hm | rfl
  · exact sh_range zs hwf _ x hm
  · omega
theorem lit_split (zs : List Int) (k : Nat) (c : Int) (hts : zs.take (k + 1) = zs.take k ++ [c]) : ∃ R, lit zs = sh zs k ++ (esc c ++ R) := by
  refine ⟨(zs.drop (k + 1)).flatMap esc ++ [34], ?_⟩
  have e : zs = zs.take k ++ (c :: zs.drop (k + 1)) := by
    have := (List.take_append_drop (k + 1) zs).symm
    rw [hts] at this
    simpa using this
  have e2 : zs.flatMap esc = (zs.take k).flatMap esc ++ (esc c ++ (zs.drop (k + 1)).flatMap esc) := by
    conv => lhs; rw [e]
    simp
  simp [lit, sh, e2]
theorem lit_at (zs : List Int) (hwf : ∀ z ∈ zs, 0 ≤ z ∧ z ≤ 255) (k : Nat) (c : Int) (hts : zs.take (k + 1) = zs.take k ++ [c]) (j : Nat) (hj : j < (esc c).length) :
    (sh zs k).length + j < (lit zs).length ∧ (bt (strOfNums (lit zs)) ((sh zs k).length + j) : Int) = (esc c).getD j 0 := by
  obtain ⟨R, hR⟩ := lit_split zs k c hts
  have hlen : (sh zs k).length + j < (lit zs).length := by rw [hR]; simp; omega
  have hr := lit_range zs hwf _ hlen
  refine ⟨hlen, ?_⟩
  rw [bt_str _ _ (by omega) (by omega), hR]
  simp only [List.getD]
  rw [List.getElem?_append_right (by omega), Nat.add_sub_cancel_left, List.getElem?_append_left hj]
theorem lit_end (zs : List Int) : (lit zs).length = (sh zs zs.length).length + 1 ∧ (bt (strOfNums (lit zs)) (sh zs zs.length).length : Int) = 34 := by
  refine ⟨by simp [lit], ?_⟩
  have e : (lit zs).getD (sh zs zs.length).length 0 = 34 := by simp [lit, List.getD]
  rw [bt_str _ _ (by rw [e]; omega) (by rw [e]; omega), e]

/-- what is read at a byte's place -/
theorem read_at (s : ByteArray) (i : Nat) (c : Int) (h0 : 0 ≤ c) (h1 : c ≤ 255) (hl : i + (esc c).length ≤ s.size) (hb : ∀ j, j < (esc c).length → (bt s (i + j) : Int) = (esc c).getD j 0) :
    bt s i ≠ 34 ∧ ∃ one, readV (sub s i) = (c, one, ((esc c).length : Int), 0) ∧ (one = false → c ≤ 126) := by
  have hp := esc_pos c
  have hi : i < s.size := by omega
  have b0 := hb 0 (by omega)
  rw [Nat.add_zero] at b0
  have hf : bt s i < 128 → firstN (sub s i) = bt s i := fun h => by rw [first_sub s i hi, (dec_low s i hi h).2]
  have htl : tl (sub s i) = sub s (i + 1) := by rw [tl_eq, sub_sub]
  have hs1 : i + 1 < s.size → (sub s (i + 1)).size ≠ 0 := fun h => by rw [sub_size]; omega
  have hb1 : bt (sub s (i + 1)) 0 = bt s (i + 1) := by rw [bt_sub, Nat.add_zero]
  have key : ∀ n : Int, (esc c).getD 0 0 = 92 → n = (esc c).length → escV (sub s (i + 1)) = (c, true, n, true) → bt s i ≠ 34 ∧ ∃ one, readV (sub s i) = (c, one, ((esc c).length : Int), 0) ∧ (one = false → c ≤ 126) := by
    intro n he hn hv
    rw [he] at b0
    refine ⟨by omega, true, ?_, by simp⟩
    rw [readV, hf (by omega), if_pos b0, htl, hv, ← hn]
    simp
  have two : ∀ l v : Nat, esc c = [92, (l : Int)] → (bt (sub s (i + 1)) 0 = l → (sub s (i + 1)).size ≠ 0 → escV (sub s (i + 1)) = ((v : Int), true, 2, true)) → c = v → bt s i ≠ 34 ∧ ∃ one, readV (sub s i) = (c, one, ((esc c).length : Int), 0) ∧ (one = false → c ≤ 126) := by
    intro l v he hv hc
    have b1 := hb 1 (by rw [he]; simp)
    rw [he] at b1 hl
    simp at b1 hl
    refine key 2 (by rw [he]; rfl) (by rw [he]; rfl) ?_
    rw [hv (by omega) (hs1 (by omega)), hc]
  by_cases e10 : c = 10
  · exact two 110 10 (by rw [e10]; rfl) (fun h h' => by rw [escV, if_neg h', h]; simp) e10
  by_cases e9 : c = 9
  · exact two 116 9 (by rw [e9]; rfl) (fun h h' => by rw [escV, if_neg h', h]; simp) e9
  by_cases e13 : c = 13
  · exact two 114 13 (by rw [e13]; rfl) (fun h h' => by rw [escV, if_neg h', h]; simp) e13
  by_cases e0 : c = 0
  · exact two 48 0 (by rw [e0]; rfl) (fun h h' => by rw [escV, if_neg h', h]; simp) e0
  by_cases e34 : c = 34
  · exact two 34 34 (by rw [e34]; rfl) (fun h h' => by rw [escV, if_neg h', h]; simp) e34
  by_cases e92 : c = 92
  · exact two 92 92 (by rw [e92]; rfl) (fun h h' => by rw [escV, if_neg h', h]; simp) e92
  by_cases hpr : 32 ≤ c ∧ c ≤ 126
  · have he : esc c = [c] := by unfold esc; rw [if_neg e10, if_neg e9, if_neg e13, if_neg e0, if_neg e34, if_neg e92, if_pos hpr]
    rw [he] at b0
    simp at b0
    refine ⟨by omega, false, ?_, fun _ => hpr.2⟩
    rw [readV, hf (by omega), b0, if_neg e92, if_neg (by omega), if_neg (by omega), if_neg (by omega), he]
    unfold Lib.runeLen
    rw [if_neg (by omega), if_pos (by omega)]; rfl
  · have he : esc c = [92, 120, hexd (c / 16), hexd (c % 16)] := by unfold esc; rw [if_neg e10, if_neg e9, if_neg e13, if_neg e0, if_neg e34, if_neg e92, if_neg hpr]
    have b1 := hb 1 (by rw [he]; simp)
    have b2 := hb 2 (by rw [he]; simp)
    have b3 := hb 3 (by rw [he]; simp)
    rw [he] at b1 b2 b3 hl
    simp at b1 b2 b3 hl
    have a := hexd_range (c / 16) (by omega) (by omega)
    have d := hexd_range (c % 16) (by omega) (by omega)
    have hcd : ∀ j, j < 2 → 0 ≤ hexv (bt s (i + 2 + j)) := by
      intro j hj
      match j, hj with
      | 0, _ => rw [Nat.add_zero, b2, a.2.2]; omega
      | 1, _ => rw [Nat.add_assoc, b3, d.2.2]; omega
    have hh : hexesAt s (i + 2) 2 = c := by
      rw [hexesAt, if_pos ⟨by omega, hcd⟩]
      simp only [hx, Nat.add_zero, Nat.add_assoc, Nat.reduceAdd]
      rw [b2, b3, a.2.2, d.2.2]
      omega
    have hk := num_yes' (s := s) (i := i + 2) (n := 2) (by omega) (by rw [hh]; exact h0)
    refine key 4 (by rw [he]; rfl) (by rw [he]; rfl) ?_
    have htl2 : tl (sub s (i + 1)) = sub s (i + 2) := by rw [tl_eq, sub_sub]
    have hb1n : bt (sub s (i + 1)) 0 = 120 := by omega
    rw [escV, if_neg (hs1 (by omega)), hb1n, htl2, hk.1, hk.2, hh]
    simp
end Go.Proofs.Ytecbdjhhdhpmhaa
