import Derived.Test.YtcaobkhifiicnaaCodeMath
import Derived.Laws.BytesArg
namespace Go.Proofs.Ytcaobkhifiicnaa

/-- a number that a rune has -/
def Valid (r : Int) : Prop := 0 ≤ r ∧ r ≤ 1114111 ∧ ¬ (55296 ≤ r ∧ r ≤ 57343)
/-- a number, or FFFD in the place of one that no rune has -/
def fix (r : Int) : Int := if r < 0 ∨ 1114111 < r ∨ (55296 ≤ r ∧ r ≤ 57343) then 65533 else r
theorem fix_valid (r : Int) : Valid (fix r) := by
  unfold fix Valid
  split <;> omega

theorem cut_code (s : ByteArray) (pos : Nat) (r : Int) (hv : Valid r) (h : ∀ j, j < (encZ r).length → pos + j < s.size ∧ (bt s (pos + j) : Int) = (encZ r).getD j 0) :
    pos < s.size ∧ numAt s pos = r ∧ wid s pos = (encZ r).length := by
  obtain ⟨h0, h1, h2⟩ := hv
  have hl := encZ_len r
  have hp := (h 0 (by omega)).1
  refine ⟨by omega, ?_⟩
  have key : ra s pos = (r, (encZ r).length) → numAt s pos = r ∧ wid s pos = (encZ r).length := by
    intro e
    rcases ra_num s pos with ⟨g, _⟩ | ⟨_, g⟩
    · rw [g] at e
      simp only [Prod.mk.injEq] at e
      omega
    · rw [g] at e
      simp only [Prod.mk.injEq] at e
      exact e
  apply key
  by_cases c1 : r < 128
  · have b0 := (h 0 (by omega)).2
    rw [encZ_1 c1] at b0 ⊢
    simp at b0
    unfold ra
    rw [if_pos (by omega), b0]; rfl
  · by_cases c2 : r < 2048
    · rw [encZ_2 (by omega) c2] at h ⊢
      have b0 := (h 0 (by simp)).2
      have b1 := h 1 (by simp)
      simp at b0 b1
      have e := acc1 s pos ((bt s pos : Int) - 192)
      unfold ra
      rw [if_neg (by omega), if_neg (by omega), if_pos (by omega)]
      rw [raN_good (by omega) (fun j j1 j2 => by
        obtain rfl : j = 1 := by omega
        unfold isCont; omega) (by simp only [Nat.reduceSub]; omega) (by simp only [Nat.reduceSub]; omega) (by simp only [Nat.reduceSub]; omega)]
      simp only [Nat.reduceSub, List.length_cons, List.length_nil]
      congr 1
      omega
    · by_cases c3 : r < 65536
      · rw [encZ_3 (by omega) c3] at h ⊢
        have b0 := (h 0 (by simp)).2
        have b1 := h 1 (by simp)
        have b2 := h 2 (by simp)
        simp at b0 b1 b2
        have e := acc2 s pos ((bt s pos : Int) - 224)
        unfold ra
        rw [if_neg (by omega), if_neg (by omega), if_neg (by omega), if_pos (by omega)]
        rw [raN_good (by omega) (fun j j1 j2 => by
          rcases (show j = 1 ∨ j = 2 by omega) with rfl | rfl
          · unfold isCont; omega
          · unfold isCont; omega) (by simp only [Nat.reduceSub]; omega) (by simp only [Nat.reduceSub]; omega) (by simp only [Nat.reduceSub]; omega)]
        simp only [Nat.reduceSub, List.length_cons, List.length_nil]
        congr 1
        omega
      · rw [encZ_4 (by omega)] at h ⊢
        have b0 := (h 0 (by simp)).2
        have b1 := h 1 (by simp)
        have b2 := h 2 (by simp)
        have b3 := h 3 (by simp)
        simp at b0 b1 b2 b3
        have e := acc3 s pos ((bt s pos : Int) - 240)
        unfold ra
        rw [if_neg (by omega), if_neg (by omega), if_neg (by omega), if_neg (by omega), if_pos (by omega)]
        rw [raN_good (by omega) (fun j j1 j2 => by
          rcases (show j = 1 ∨ j = 2 ∨ j = 3 by omega) with rfl | rfl | rfl
          · unfold isCont; omega
          · unfold isCont; omega
          · unfold isCont; omega) (by simp only [Nat.reduceSub]; omega) (by simp only [Nat.reduceSub]; omega) (by simp only [Nat.reduceSub]; omega)]
        simp only [Nat.reduceSub, List.length_cons, List.length_nil]
        congr 1
        omega

/-- the things of the text of these numbers' codes -/
def exps (p : Nat) : List Int → List (Nat × Int)
  | [] => []
  | r :: ws => (p, r) :: exps (p + (encZ r).length) ws
theorem exps_snoc : ∀ (ws : List Int) (p : Nat) (r : Int), exps p (ws ++ [r]) = exps p ws ++ [(p + (ws.flatMap encZ).length, r)]
  | [], p, r => by simp [exps]
  | a :: ws, p, r => by
    rw [List.cons_append, exps, exps_snoc ws, exps, List.flatMap_cons, List.length_append]
    simp [Nat.add_assoc]
theorem exps_len : ∀ (ws : List Int) (p : Nat), (exps p ws).length = ws.length
  | [], _ => rfl
  | a :: ws, p => by rw [exps, List.length_cons, exps_len ws, List.length_cons]

theorem cuts_codes (s : ByteArray) : ∀ (ws : List Int) (f pos : Nat), (∀ r ∈ ws, Valid r) → s.size ≤ pos + f → s.size = pos + (ws.flatMap encZ).length →
    (∀ j, j < (ws.flatMap encZ).length → (bt s (pos + j) : Int) = (ws.flatMap encZ).getD j 0) → (cutsFrom s f pos).map (·.1) = exps pos ws
  | [], f, pos, _, _, hs, _ => by
    rw [cutsFrom_end s f pos (by simp at hs; omega)]; rfl
  | r :: ws, f, pos, hv, hf, hs, hb => by
    rw [List.flatMap_cons] at hs hb
    rw [List.length_append] at hs
    have hl := encZ_len r
    obtain ⟨g1, g2, g3⟩ := cut_code s pos r (hv r (by simp)) (fun j hj => ⟨by omega, by
      rw [hb j (by rw [List.length_append]; omega)]
      simp [List.getElem?_append_left hj]⟩)
    obtain ⟨f', rfl⟩ : ∃ f', f = f' + 1 := ⟨f - 1, by omega⟩
    rw [cutsFrom_step s f' pos g1, List.map_cons, exps]
    have e : (cutAt s pos g1).1 = (pos, r) := by
      show (pos, numAt s pos) = (pos, r)
      rw [g2]
    rw [e, g3, cuts_codes s ws f' (pos + (encZ r).length) (fun x hx => hv x (by simp [hx])) (by omega) (by omega) (fun j hj => by
      have := hb ((encZ r).length + j) (by rw [List.length_append]; omega)
      rw [Nat.add_assoc, this]
      simp [List.getElem?_append_right])]

theorem encZ_byte (r : Int) (h0 : 0 ≤ r) (h1 : r ≤ 1114111) : ∀ z ∈ encZ r, 0 ≤ z ∧ z ≤ 255 := by
  intro z hz
  unfold encZ at hz
  split at hz
  · simp at hz; omega
  · split at hz
    · simp at hz; omega
    · split at hz
      · simp at hz; omega
      · simp at hz; omega

theorem bt_str (L : List Int) (hb : ∀ z ∈ L, 0 ≤ z ∧ z ≤ 255) (j : Nat) (hj : j < L.length) : (bt (strOfNums L) j : Int) = L.getD j 0 := by
  have hsz : j < (strOfNums L).size := by rw [strOfNums_size]; exact hj
  obtain ⟨b, e1, e2⟩ := bt_list (strOfNums L) j hsz
  rw [strOfNums_data] at e1
  rw [List.getElem?_map, List.getElem?_eq_getElem hj] at e1
  simp only [Option.map_some, Option.some.injEq] at e1
  have := hb _ (List.getElem_mem hj)
  rw [← e2, ← e1]
  simp [List.getD, List.getElem?_eq_getElem hj]
  omega

theorem cuts_str (ws : List Int) (hv : ∀ r ∈ ws, Valid r) : (cuts (strOfNums (ws.flatMap encZ))).map (·.1) = exps 0 ws := by
  refine cuts_codes _ ws _ 0 hv (by omega) (by rw [strOfNums_size]; omega) (fun j hj => ?_)
  rw [Nat.zero_add]
  refine bt_str _ (fun z hz => ?_) j hj
  obtain ⟨r, hr, hz⟩ := List.mem_flatMap.1 hz
  exact encZ_byte r (hv r hr).1 (hv r hr).2.1 z hz
end Go.Proofs.Ytcaobkhifiicnaa
