import Derived.Test.YtnplimdcfbgpeaaDoorCOLw
import Derived.Test.YtnplimdcfbgpeaaDoorCMLiv
import Derived.Lib.Bytes
namespace Go.Proofs.YtnplimdcfbgpeaaDoor
open Go.RowKit Go.WideShapes Go.Sort Go.Lib
set_option maxRecDepth 100000

/-- the bytes of a segment -/
def prt (I : Im) : Nat → List Int
  | 0 => encF I.L
  | 1 => jmB I.J
  | 2 => I.D
  | _ => nmB I.M
def hd0 : List Int := [80, 69, 78, 33] ++ List.replicate 60 0
def hdI (I : Im) : List Int := wth 4 (wth 4 (wth 4 (wth 4 hd0 4 1) 12 I.L.length) 48 I.z) 52 I.st
def enS (I : Im) : Nat → List Int
  | 0 => hdI I
  | k + 1 => wth 4 (wth 4 (enS I k) (pA k) (enS I k).length) (pA k + 4) (prt I k).length ++ prt I k
/-- what Encode gives -/
def encA (I : Im) : List Int := wth 4 (enS I 4) 8 (sumV (enS I 4))
theorem hd0_len : hd0.length = 64 := by decide
theorem hdI_len (I : Im) : (hdI I).length = 64 := by
  unfold hdI
  rw [wth_len, wth_len, wth_len, wth_len, hd0_len] <;> (try rw [wth_len]) <;> (try rw [wth_len]) <;> (try rw [wth_len]) <;> (try rw [hd0_len]) <;> (try decide) <;> (try rw [hd0_len]) <;> decide
def off (I : Im) : Nat → Nat
  | 0 => 64
  | k + 1 => off I k + (prt I k).length
theorem off_64 (I : Im) : ∀ k, 64 ≤ off I k
  | 0 => Nat.le_refl _
  | k + 1 => Nat.le_trans (off_64 I k) (Nat.le_add_right _ _)
theorem enS_len (I : Im) : ∀ k, k ≤ 4 → (enS I k).length = off I k
  | 0, _ => hdI_len I
  | k + 1, hk => by
    have h1 := enS_len I k (by omega)
    have h2 := off_64 I k
    have h3 : pA k ≤ 40 := by unfold pA; omega
    show (wth 4 (wth 4 (enS I k) (pA k) (enS I k).length) (pA k + 4) (prt I k).length ++ prt I k).length = _
    rw [List.length_append, wth_len _ _ _ _ (by rw [wth_len _ _ _ _ (by omega)]; omega), wth_len _ _ _ _ (by omega), h1]
    rfl
theorem prt_le {I : Im} (h : ImK I) : (prt I 0).length ≤ 81920 ∧ (prt I 1).length ≤ 65536 ∧ (prt I 2).length ≤ 65536 ∧ (prt I 3).length ≤ 2368 := by
  have h1 := encF_le I.L
  have h2 := h.len
  have h3 := jmB_len I.J
  have h4 := h.jlen
  have h5 := h.room
  have h6 := nmB_le (M := I.M) (fun e he => (namesOk_size h.nok e he).2)
  have h7 := namesOk_len h.nok
  refine ⟨?_, ?_, ?_, ?_⟩
  · show (encF I.L).length ≤ _; omega
  · show (jmB I.J).length ≤ _; omega
  · show I.D.length ≤ _; omega
  · show (nmB I.M).length ≤ _; omega
theorem off_le {I : Im} (h : ImK I) : ∀ k, k ≤ 4 → off I k ≤ 215424 := by
  obtain ⟨a, b, c, d⟩ := prt_le h
  intro k hk
  have e4 : off I 4 = 64 + (prt I 0).length + (prt I 1).length + (prt I 2).length + (prt I 3).length := rfl
  rcases (show k = 0 ∨ k = 1 ∨ k = 2 ∨ k = 3 ∨ k = 4 by omega) with rfl | rfl | rfl | rfl | rfl
  · show 64 ≤ _; omega
  · show 64 + (prt I 0).length ≤ _; omega
  · show 64 + (prt I 0).length + (prt I 1).length ≤ _; omega
  · show 64 + (prt I 0).length + (prt I 1).length + (prt I 2).length ≤ _; omega
  · omega
theorem encA_len (I : Im) : (encA I).length = off I 4 := by
  unfold encA
  rw [wth_len _ _ _ _ (by rw [enS_len I 4 (by omega)]; have := off_64 I 4; omega), enS_len I 4 (by omega)]
theorem prt_wf {I : Im} (h : ImK I) (k : Nat) : ∀ z ∈ prt I k, 0 ≤ z ∧ z ≤ 255 := by
  unfold prt
  split
  · exact encF_wf I.L h.w.wfc
  · intro z hz
    obtain ⟨j, _, hj⟩ := List.mem_flatMap.1 hz
    exact nb_wf 4 _ z hj
  · exact h.w.dwf
  · intro z hz
    obtain ⟨e, hm, he⟩ := List.mem_flatMap.1 hz
    rcases List.mem_append.1 he with he | he
    · exact nb_wf 4 _ z he
    · rcases List.mem_cons.1 he with rfl | he
      · have := (namesOk_size h.nok e hm).2
        omega
      · exact bzs_wf _ z he
theorem hd0_wf : ∀ z ∈ hd0, 0 ≤ z ∧ z ≤ 255 := by decide
theorem enS_wf {I : Im} (h : ImK I) : ∀ k, ∀ z ∈ enS I k, 0 ≤ z ∧ z ≤ 255
  | 0 => wth_wf _ _ _ _ (wth_wf _ _ _ _ (wth_wf _ _ _ _ (wth_wf _ _ _ _ hd0_wf)))
  | k + 1 => fun z hz => by
    rcases List.mem_append.1 hz with hz | hz
    · exact wth_wf _ _ _ _ (wth_wf _ _ _ _ (enS_wf h k)) z hz
    · exact prt_wf h k z hz
end Go.Proofs.YtnplimdcfbgpeaaDoor
namespace Go.Proofs.YtnplimdcfbgpeaaDoor
open Go.RowKit Go.WideShapes Go.Sort Go.Lib
set_option maxRecDepth 100000

theorem wth_at (zs : List Int) (p : Nat) (x : Int) (h : p + 4 ≤ zs.length) (i : Nat) : (wth 4 zs p x)[i]? = if i < p then zs[i]? else if i < p + 4 then (nb 4 x)[i - p]? else zs[i]? := by
  unfold wth
  have hl : (zs.take p).length = p := by rw [List.length_take]; omega
  by_cases h1 : i < p
  · rw [if_pos h1, List.getElem?_append_left (by omega), List.getElem?_take_of_lt h1]
  · rw [if_neg h1, List.getElem?_append_right (by omega), hl]
    by_cases h2 : i < p + 4
    · rw [if_pos h2, List.getElem?_append_left (by rw [nb_len]; omega)]
    · rw [if_neg h2, List.getElem?_append_right (by rw [nb_len]; omega), nb_len, List.getElem?_drop]
      congr 1
      omega
/-- a word is what its four bytes are -/
theorem atv_of {zs ys : List Int} (hl : zs.length = ys.length) (q : Nat) (h : ∀ i, q ≤ i → i < q + 4 → zs[i]? = ys[i]?) : atv 4 zs q = atv 4 ys q := by
  unfold atv
  rw [hl]
  split
  · congr 1
    refine List.ext_getElem? fun i => ?_
    rw [List.getElem?_take, List.getElem?_take]
    split
    · rw [List.getElem?_drop, List.getElem?_drop]
      exact h _ (by omega) (by omega)
    · rfl
  · rfl
theorem atv_ne {zs : List Int} {p q : Nat} {x : Int} (hl : p + 4 ≤ zs.length) (h : q + 4 ≤ p ∨ p + 4 ≤ q) : atv 4 (wth 4 zs p x) q = atv 4 zs q := by
  refine atv_of (wth_len 4 zs p x hl) q fun i h1 h2 => ?_
  rw [wth_at zs p x hl]
  by_cases hi : i < p
  · rw [if_pos hi]
  · rw [if_neg hi, if_neg (by omega)]
theorem atv_eq {zs : List Int} {p : Nat} {x : Int} (hl : p + 4 ≤ zs.length) (h0 : 0 ≤ x) (h1 : x < 4294967296) : atv 4 (wth 4 zs p x) p = x := by
  have h2 := atv_app 4 (zs.take p) (nb 4 x) (zs.drop (p + 4)) p (by rw [List.length_take]; omega) (nb_len 4 x)
  rw [num_nb] at h2
  rw [show wth 4 zs p x = zs.take p ++ (nb 4 x ++ zs.drop (p + 4)) from rfl, h2]
  omega
theorem atv_left {A B : List Int} {q : Nat} (h : q + 4 ≤ A.length) : atv 4 (A ++ B) q = atv 4 A q := by
  unfold atv
  have h1 : (0 : Int) ≤ (q : Int) ∧ (q : Int) + (4 : Nat) ≤ ((A ++ B).length : Int) := by rw [List.length_append]; omega
  have h2 : (0 : Int) ≤ (q : Int) ∧ (q : Int) + (4 : Nat) ≤ (A.length : Int) := by omega
  rw [if_pos h1, if_pos h2]
  congr 1
  rw [Int.toNat_natCast, List.drop_append_of_le_length (by omega), List.take_append_of_le_length (by rw [List.length_drop]; omega)]
theorem wth_left {A B : List Int} {p : Nat} {x : Int} (h : p + 4 ≤ A.length) : wth 4 (A ++ B) p x = wth 4 A p x ++ B := by
  unfold wth
  rw [List.take_append_of_le_length (by omega), List.drop_append_of_le_length (by omega)]
  simp
theorem wth_take4 {zs : List Int} {p : Nat} {x : Int} (h : 4 ≤ p) (hl : p + 4 ≤ zs.length) : (wth 4 zs p x).take 4 = zs.take 4 := by
  refine List.ext_getElem? fun i => ?_
  rw [List.getElem?_take, List.getElem?_take]
  split
  · rw [wth_at zs p x hl, if_pos (by omega)]
  · rfl
theorem wth_wth {zs : List Int} {p : Nat} {x y : Int} (hl : p + 4 ≤ zs.length) : wth 4 (wth 4 zs p x) p y = wth 4 zs p y := by
  refine List.ext_getElem? fun i => ?_
  rw [wth_at _ p y (by rw [wth_len _ _ _ _ hl]; exact hl), wth_at zs p y hl, wth_at zs p x hl]
  by_cases h1 : i < p
  · rw [if_pos h1, if_pos h1, if_pos h1]
  · rw [if_neg h1, if_neg h1, if_neg h1]
    by_cases h2 : i < p + 4
    · rw [if_pos h2, if_pos h2]
    · rw [if_neg h2, if_neg h2, if_neg h2]
theorem sumV_wth {zs : List Int} {x : Int} (hl : 12 ≤ zs.length) : sumV (wth 4 zs 8 x) = sumV zs := by
  unfold sumV
  rw [wth_wth (by omega)]
/-- the header of what Encode gives -/
def hsI (I : Im) : Nat → List Int
  | 0 => hdI I
  | k + 1 => wth 4 (wth 4 (hsI I k) (pA k) (off I k)) (pA k + 4) (prt I k).length
def bdI (I : Im) : Nat → List Int
  | 0 => []
  | k + 1 => bdI I k ++ prt I k
theorem hsI_len (I : Im) : ∀ k, k ≤ 4 → (hsI I k).length = 64
  | 0, _ => hdI_len I
  | k + 1, hk => by
    have h1 := hsI_len I k (by omega)
    have h3 : pA k ≤ 40 := by unfold pA; omega
    show (wth 4 (wth 4 (hsI I k) (pA k) (off I k)) (pA k + 4) (prt I k).length).length = 64
    rw [wth_len _ _ _ _ (by rw [wth_len _ _ _ _ (by omega)]; omega), wth_len _ _ _ _ (by omega), h1]
theorem bdI_len (I : Im) : ∀ k, 64 + (bdI I k).length = off I k
  | 0 => rfl
  | k + 1 => by
    show 64 + (bdI I k ++ prt I k).length = off I k + (prt I k).length
    rw [List.length_append, ← bdI_len I k]; omega
theorem enS_is (I : Im) : ∀ k, k ≤ 4 → enS I k = hsI I k ++ bdI I k
  | 0, _ => (List.append_nil _).symm
  | k + 1, hk => by
    have h1 := enS_is I k (by omega)
    have h2 := hsI_len I k (by omega)
    have h3 : pA k ≤ 40 := by unfold pA; omega
    show wth 4 (wth 4 (enS I k) (pA k) (enS I k).length) (pA k + 4) (prt I k).length ++ prt I k = _
    rw [enS_len I k (by omega), h1, wth_left (by omega), wth_left (by rw [wth_len _ _ _ _ (by omega)]; omega), List.append_assoc]
    rfl
theorem encA_is (I : Im) : encA I = wth 4 (hsI I 4) 8 (sumV (enS I 4)) ++ bdI I 4 := by
  unfold encA
  have h2 := hsI_len I 4 (by omega)
  rw [enS_is I 4 (by omega), wth_left (by omega), ← enS_is I 4 (by omega)]
theorem wl (zs : List Int) (p : Nat) (x : Int) (h : zs.length = 64) (hp : p + 4 ≤ 64) : (wth 4 zs p x).length = 64 := by rw [wth_len _ _ _ _ (by omega), h]
theorem encA_at (I : Im) (q : Nat) (hq : q + 4 ≤ 64) (h8 : q + 4 ≤ 8 ∨ 12 ≤ q) : atv 4 (encA I) q = atv 4 (hsI I 4) q := by
  have h2 := hsI_len I 4 (by omega)
  rw [encA_is, atv_left (by rw [wl _ _ _ h2 (by decide)]; omega), atv_ne (by omega) (by omega)]
theorem hs_hd (I : Im) (q : Nat) (hq : q + 4 ≤ 16 ∨ 48 ≤ q) : ∀ k, k ≤ 4 → atv 4 (hsI I k) q = atv 4 (hdI I) q
  | 0, _ => rfl
  | k + 1, hk => by
    have h1 := hsI_len I k (by omega)
    have h3 : pA k + 8 ≤ 48 ∧ 16 ≤ pA k := by unfold pA; omega
    show atv 4 (wth 4 (wth 4 (hsI I k) (pA k) (off I k)) (pA k + 4) (prt I k).length) q = _
    rw [atv_ne (by rw [wl _ _ _ h1 (by omega)]; omega) (by omega), atv_ne (by omega) (by omega)]
    exact hs_hd I q hq k (by omega)
theorem hs_sp (I : Im) (hI : ImK I) (j : Nat) : ∀ k, k ≤ 4 → j < k → atv 4 (hsI I k) (pA j : Nat) = off I j ∧ atv 4 (hsI I k) ((pA j + 4 : Nat)) = (prt I j).length
  | 0, _, h => absurd h (by omega)
  | k + 1, hk, h => by
    have h1 := hsI_len I k (by omega)
    have h3 : pA k + 8 ≤ 48 ∧ 16 ≤ pA k := by unfold pA; omega
    have ho := off_le hI k (by omega)
    have hp : (prt I k).length ≤ 215424 := by
      have := off_le hI (k + 1) hk
      have e : off I (k + 1) = off I k + (prt I k).length := rfl
      omega
    by_cases hj : j = k
    · subst hj
      constructor
      · show atv 4 (wth 4 (wth 4 (hsI I j) (pA j) (off I j)) (pA j + 4) (prt I j).length) (pA j : Nat) = _
        rw [atv_ne (by rw [wl _ _ _ h1 (by omega)]; omega) (by omega), atv_eq (by omega) (by omega) (by omega)]
      · show atv 4 (wth 4 (wth 4 (hsI I j) (pA j) (off I j)) (pA j + 4) (prt I j).length) ((pA j + 4 : Nat)) = _
        rw [atv_eq (by rw [wl _ _ _ h1 (by omega)]; omega) (by omega) (by omega)]
    · have ih := hs_sp I hI j k (by omega) (by omega)
      have h4 : pA j + 8 ≤ pA k := by unfold pA; omega
      constructor
      · show atv 4 (wth 4 (wth 4 (hsI I k) (pA k) (off I k)) (pA k + 4) (prt I k).length) (pA j : Nat) = _
        rw [atv_ne (by rw [wl _ _ _ h1 (by omega)]; omega) (by omega), atv_ne (by omega) (by omega)]
        exact ih.1
      · show atv 4 (wth 4 (wth 4 (hsI I k) (pA k) (off I k)) (pA k + 4) (prt I k).length) ((pA j + 4 : Nat)) = _
        rw [atv_ne (by rw [wl _ _ _ h1 (by omega)]; omega) (by omega), atv_ne (by omega) (by omega)]
        exact ih.2
theorem hs_take (I : Im) : ∀ k, k ≤ 4 → (hsI I k).take 4 = [80, 69, 78, 33]
  | 0, _ => by
    show (hdI I).take 4 = _
    unfold hdI
    have l0 := hd0_len
    have l1 := wl hd0 4 1 l0 (by decide)
    have l2 := wl _ 12 (I.L.length : Int) l1 (by decide)
    have l3 := wl _ 48 (I.z : Int) l2 (by decide)
    rw [wth_take4 (by decide) (by omega), wth_take4 (by decide) (by omega), wth_take4 (by decide) (by omega), wth_take4 (by decide) (by omega)]
    rfl
  | k + 1, hk => by
    have h1 := hsI_len I k (by omega)
    have h3 : pA k + 8 ≤ 48 ∧ 16 ≤ pA k := by unfold pA; omega
    show (wth 4 (wth 4 (hsI I k) (pA k) (off I k)) (pA k + 4) (prt I k).length).take 4 = _
    rw [wth_take4 (by omega) (by rw [wl _ _ _ h1 (by omega)]; omega), wth_take4 (by omega) (by omega)]
    exact hs_take I k (by omega)
theorem hd_words (I : Im) (hI : ImK I) : atv 4 (hdI I) (4 : Nat) = 1 ∧ atv 4 (hdI I) (12 : Nat) = I.L.length ∧ atv 4 (hdI I) (48 : Nat) = I.z ∧ atv 4 (hdI I) (52 : Nat) = I.st ∧ atv 4 (hdI I) (56 : Nat) = 0 ∧ atv 4 (hdI I) (60 : Nat) = 0 := by
  have l0 := hd0_len
  have l1 := wl hd0 4 1 l0 (by decide)
  have l2 := wl _ 12 (I.L.length : Int) l1 (by decide)
  have l3 := wl _ 48 (I.z : Int) l2 (by decide)
  have hL := hI.len
  have hz := hI.w.z32
  have hs := hI.w.st32
  unfold hdI
  refine ⟨?_, ?_, ?_, ?_, ?_, ?_⟩
  · rw [atv_ne (by omega) (by decide), atv_ne (by omega) (by decide), atv_ne (by omega) (by decide), atv_eq (by omega) (by decide) (by decide)]
  · rw [atv_ne (by omega) (by decide), atv_ne (by omega) (by decide), atv_eq (by omega) (by omega) (by omega)]
  · rw [atv_ne (by omega) (by decide), atv_eq (by omega) (by omega) (by omega)]
  · rw [atv_eq (by omega) (by omega) (by omega)]
  · rw [atv_ne (by omega) (by decide), atv_ne (by omega) (by decide), atv_ne (by omega) (by decide), atv_ne (by omega) (by decide)]; rfl
  · rw [atv_ne (by omega) (by decide), atv_ne (by omega) (by decide), atv_ne (by omega) (by decide), atv_ne (by omega) (by decide)]; rfl
end Go.Proofs.YtnplimdcfbgpeaaDoor
namespace Go.Proofs.YtnplimdcfbgpeaaDoor
open Go.RowKit Go.WideShapes Go.Sort Go.Lib
set_option maxRecDepth 100000

theorem mark_ok : (strOfNums [80, 69, 78, 33]).toList = [80, 69, 78, 33] := by rw [strOfNums_toList]; rfl
theorem spL_get (zs : List Int) (k : Nat) (hk : k < 4) : (spL zs).getD k (0, 0) = (wdA zs (pA k), wdA zs (pA k + 4)) := by
  unfold spL spF
  simp [List.getD_eq_getElem?_getD, hk]
theorem spL_enc (I : Im) (hI : ImK I) (k : Nat) (hk : k < 4) : (spL (encA I)).getD k (0, 0) = (off I k, (prt I k).length) := by
  rw [spL_get _ k hk]
  have h3 : pA k + 8 ≤ 48 ∧ 16 ≤ pA k := by unfold pA; omega
  obtain ⟨a, b⟩ := hs_sp I hI k 4 (by omega) hk
  unfold wdA
  rw [encA_at I _ (by omega) (by omega), encA_at I _ (by omega) (by omega), a, b]
  simp
theorem spL_eq (zs : List Int) : spL zs = [(spL zs).getD 0 (0, 0), (spL zs).getD 1 (0, 0), (spL zs).getD 2 (0, 0), (spL zs).getD 3 (0, 0)] := by
  rw [spL_get _ 0 (by omega), spL_get _ 1 (by omega), spL_get _ 2 (by omega), spL_get _ 3 (by omega)]
  rfl
theorem cut_app {A B C : List Int} {p : Nat × Nat} (h1 : A.length = p.1) (h2 : B.length = p.2) : cutV (A ++ (B ++ C)) p = B := by
  unfold cutV
  rw [if_pos (by simp only [List.length_append]; omega), List.drop_left' h1, List.take_left' h2]
def rsI (I : Im) : Nat → List Int
  | 0 => prt I 1 ++ (prt I 2 ++ prt I 3)
  | 1 => prt I 2 ++ prt I 3
  | 2 => prt I 3
  | _ => []
theorem cut_enc (I : Im) (k : Nat) (hk : k < 4) : cutV (encA I) (off I k, (prt I k).length) = prt I k := by
  have h2 := hsI_len I 4 (by omega)
  have hl : (wth 4 (hsI I 4) 8 (sumV (enS I 4))).length = 64 := wl _ _ _ h2 (by decide)
  have hb := bdI_len I k
  have e : encA I = (wth 4 (hsI I 4) 8 (sumV (enS I 4)) ++ bdI I k) ++ (prt I k ++ rsI I k) := by
    rw [encA_is]
    generalize wth 4 (hsI I 4) 8 (sumV (enS I 4)) = H
    rcases (show k = 0 ∨ k = 1 ∨ k = 2 ∨ k = 3 by omega) with rfl | rfl | rfl | rfl <;> simp only [bdI, rsI, List.nil_append, List.append_assoc, List.append_nil]
  rw [e]
  exact cut_app (by rw [List.length_append, hl]; exact hb) rfl
theorem off_mono (I : Im) (j k : Nat) (h : j < k) : off I j + (prt I j).length ≤ off I k := by
  induction k with
  | zero => omega
  | succ k ih =>
    have e : off I (k + 1) = off I k + (prt I k).length := rfl
    by_cases hj : j = k
    · subst hj; omega
    · have := ih (by omega); omega
theorem lap_no {a b : Nat × Nat} (h : a.1 + a.2 ≤ b.1) : lapB a b = false := by
  unfold lapB
  rw [show decide (b.1 < a.1 + a.2) = false by rw [decide_eq_false_iff_not]; omega]
  simp
/-- WHAT ENCODE GIVES IS READ AS THE IMAGE -/
theorem par_enc (I : Im) (hI : ImK I) : ParR (encA I) I := by
  have hln := encA_len I
  have h64 := off_64 I 4
  have hle := off_le hI 4 (by omega)
  have h2 := hsI_len I 4 (by omega)
  have hl : (wth 4 (hsI I 4) 8 (sumV (enS I 4))).length = 64 := wl _ _ _ h2 (by decide)
  obtain ⟨w4, w12, w48, w52, w56, w60⟩ := hd_words I hI
  have at_ : ∀ q : Nat, q + 4 ≤ 64 → (q + 4 ≤ 8 ∨ 12 ≤ q) → (q + 4 ≤ 16 ∨ 48 ≤ q) → atv 4 (encA I) q = atv 4 (hdI I) q := fun q a b c => by rw [encA_at I q a b, hs_hd I q c 4 (by omega)]
  refine ⟨by omega, by omega, ⟨?_, ?_, ?_, ?_, ?_⟩, ⟨?_, ?_⟩, ⟨?_, hI.ok, hI.w.wfc, hI.len, ?_, ?_, hI.w.jwf, hI.jlen, ?_, ?_, ?_, hI.sok, hI.room, ?_, hI.nok, hI.w.nwf⟩⟩
  · rw [encA_is, List.take_append_of_le_length (by omega), wth_take4 (by decide) (by omega), hs_take I 4 (by omega)]
    exact mark_ok
  · exact (at_ 4 (by decide) (by decide) (by decide)).trans w4
  · have hes := enS_len I 4 (by omega)
    have hr := sumV_range (enS I 4)
    have e1 : atv 4 (encA I) ((8 : Nat) : Int) = sumV (enS I 4) := by
      unfold encA
      exact atv_eq (by omega) hr.1 hr.2
    have e2 : sumV (encA I) = sumV (enS I 4) := by
      unfold encA
      exact sumV_wth (by omega)
    rw [e2]; exact e1
  · exact (at_ 56 (by decide) (by decide) (by decide)).trans w56
  · exact (at_ 60 (by decide) (by decide) (by decide)).trans w60
  · intro k hk
    rw [spL_enc I hI k hk, hln]
    exact off_mono I k 4 hk
  · rw [spL_eq, spL_enc I hI 0 (by omega), spL_enc I hI 1 (by omega), spL_enc I hI 2 (by omega), spL_enc I hI 3 (by omega)]
    have o : ∀ j k, j < k → lapB (off I j, (prt I j).length) (off I k, (prt I k).length) = false := fun j k h => lap_no (off_mono I j k h)
    have o0 : ∀ k, lapB (0, 64) (off I k, (prt I k).length) = false := fun k => lap_no (by have := off_64 I k; show 0 + 64 ≤ _; omega)
    unfold Ap
    simp only [List.pairwise_cons, List.mem_cons, List.not_mem_nil, or_false, forall_eq_or_imp, forall_eq]
    refine ⟨⟨o0 0, o0 1, o0 2, o0 3⟩, ⟨o 0 1 (by omega), o 0 2 (by omega), o 0 3 (by omega)⟩, ⟨o 1 2 (by omega), o 1 3 (by omega)⟩, o 2 3 (by omega), ?_⟩
    simp
  · rw [spL_enc I hI 0 (by omega), cut_enc I 0 (by omega)]; rfl
  · exact (at_ 12 (by decide) (by decide) (by decide)).trans w12
  · rw [spL_enc I hI 1 (by omega), cut_enc I 1 (by omega)]; rfl
  · rw [spL_enc I hI 2 (by omega), cut_enc I 2 (by omega)]; rfl
  · exact (at_ 48 (by decide) (by decide) (by decide)).trans w48
  · exact (at_ 52 (by decide) (by decide) (by decide)).trans w52
  · rw [spL_enc I hI 3 (by omega), cut_enc I 3 (by omega)]; rfl
theorem nmB_inj : ∀ {M N : List (ByteArray × Nat)}, NmW M → NmW N → nmB M = nmB N → M = N
  | [], [], _, _, _ => rfl
  | [], e :: N, _, _, h => by
    have := congrArg List.length h
    rw [nmB_cons, List.length_append, nm1_len] at this
    have e0 : (nmB []).length = 0 := rfl
    omega
  | e :: M, [], _, _, h => by
    have := congrArg List.length h
    rw [nmB_cons, List.length_append, nm1_len] at this
    have e0 : (nmB []).length = 0 := rfl
    omega
  | e :: M, f :: N, hm, hn, h => by
    rw [nmB_cons, nmB_cons] at h
    have h1 := nm1_inj (hm e (by simp)) (hn f (by simp)) h
    subst h1
    rw [nmB_inj (fun x hx => hm x (by simp [hx])) (fun x hx => hn x (by simp [hx])) (List.append_cancel_left h)]
/-- bytes are read as one image alone -/
theorem par_uniq {zs : List Int} {I K : Im} (h : ParR zs I) (h2 : ParR zs K) : I = K := by
  obtain ⟨L, J, D, z, st, M⟩ := I
  obtain ⟨L', J', D', z', st', M'⟩ := K
  have a := h.sg
  have b := h2.sg
  have e1 : L = L' := dec_uniq a.ok a.len b.ok b.len (a.code.symm.trans b.code)
  have e2 : J = J' := jmB_inj a.jwf b.jwf (a.jmp.symm.trans b.jmp)
  have e3 : D = D' := a.dat.symm.trans b.dat
  have e4 : (z : Int) = z' := a.zer.symm.trans b.zer
  have e5 : (st : Int) = st' := a.stk.symm.trans b.stk
  have e6 : M = M' := nmB_inj a.nwf b.nwf (a.nam.symm.trans b.nam)
  have e4' : z = z' := by omega
  have e5' : st = st' := by omega
  subst e1 e2 e3 e4' e5' e6
  rfl
theorem par_k {zs : List Int} {I : Im} (hwf : ∀ z ∈ zs, 0 ≤ z ∧ z ≤ 255) (h : ParR zs I) : ImK I := by
  have a := h.sg
  have r48 := atv_range 4 zs 48 hwf
  have r52 := atv_range 4 zs 52 hwf
  refine ⟨⟨a.wfc, a.jwf, ?_, ?_, ?_, a.nwf⟩, a.ok, a.len, a.jlen, a.sok, a.room, a.nok⟩
  · rw [← a.dat]; exact cutV_wf hwf _
  · have := a.zer; omega
  · have := a.stk; omega
/-- how many of the places ahead of t a list of spans holds -/
def cntS (L : List (Nat × Nat)) (t : Nat) : Nat := (L.map fun p => min (p.1 + p.2) t - min p.1 t).sum
def covS (L : List (Nat × Nat)) (t : Nat) : Nat := (L.map fun p => if p.1 ≤ t ∧ t < p.1 + p.2 then 1 else 0).sum
theorem cov_0 (p : Nat × Nat) (L : List (Nat × Nat)) (t : Nat) (hp : p.1 ≤ t ∧ t < p.1 + p.2) (h : ∀ q ∈ L, lapB p q = false) : covS L t = 0 := by
  induction L with
  | nil => rfl
  | cons q L ih =>
    have h1 := h q (by simp)
    have : ¬ (q.1 ≤ t ∧ t < q.1 + q.2) := fun hq => by
      unfold lapB at h1
      simp only [Bool.and_eq_false_iff, decide_eq_false_iff_not] at h1
      omega
    unfold covS
    rw [List.map_cons, List.sum_cons, if_neg this]
    have := ih (fun q hq => h q (by simp [hq]))
    unfold covS at this
    omega
theorem cov_1 (L : List (Nat × Nat)) (t : Nat) (h : Ap L) : covS L t ≤ 1 := by
  induction L with
  | nil => exact Nat.zero_le _
  | cons p L ih =>
    obtain ⟨h1, h2⟩ := List.pairwise_cons.1 h
    have e : covS (p :: L) t = (if p.1 ≤ t ∧ t < p.1 + p.2 then 1 else 0) + covS L t := by unfold covS; rw [List.map_cons, List.sum_cons]
    rw [e]
    split
    · rename_i hp
      rw [cov_0 p L t hp h1]; omega
    · have := ih h2; omega
theorem cnt_step (L : List (Nat × Nat)) (t : Nat) : cntS L (t + 1) = cntS L t + covS L t := by
  induction L with
  | nil => rfl
  | cons p L ih =>
    have e1 : cntS (p :: L) (t + 1) = (min (p.1 + p.2) (t + 1) - min p.1 (t + 1)) + cntS L (t + 1) := by unfold cntS; rw [List.map_cons, List.sum_cons]
    have e2 : cntS (p :: L) t = (min (p.1 + p.2) t - min p.1 t) + cntS L t := by unfold cntS; rw [List.map_cons, List.sum_cons]
    have e3 : covS (p :: L) t = (if p.1 ≤ t ∧ t < p.1 + p.2 then 1 else 0) + covS L t := by unfold covS; rw [List.map_cons, List.sum_cons]
    rw [e1, e2, e3, ih]
    split <;> omega
theorem cnt_le (L : List (Nat × Nat)) (h : Ap L) : ∀ t, cntS L t ≤ t
  | 0 => by
    have : cntS L 0 = 0 := by
      clear h
      induction L with
      | nil => rfl
      | cons p L ih =>
        have e2 : cntS (p :: L) 0 = (min (p.1 + p.2) 0 - min p.1 0) + cntS L 0 := by unfold cntS; rw [List.map_cons, List.sum_cons]
        rw [e2, ih]; omega
    omega
  | t + 1 => by
    have := cnt_le L h t
    have := cov_1 L t h
    rw [cnt_step]; omega
theorem sum_apart {L : List (Nat × Nat)} {t : Nat} (h : Ap L) (hw : ∀ p ∈ L, p.1 + p.2 ≤ t) : (L.map (·.2)).sum ≤ t := by
  have h1 := cnt_le L h t
  have h2 : cntS L t = (L.map (·.2)).sum := by
    unfold cntS
    congr 1
    refine List.map_congr_left fun p hp => ?_
    have := hw p hp
    show min (p.1 + p.2) t - min p.1 t = p.2
    omega
  omega
theorem cut_len {zs : List Int} {p : Nat × Nat} (h : p.1 + p.2 ≤ zs.length) : (cutV zs p).length = p.2 := by
  unfold cutV
  rw [if_pos h, List.length_take, List.length_drop]; omega
/-- nothing that is read as an image is shorter than what Encode gives of it -/
theorem par_len {zs : List Int} {I : Im} (h : ParR zs I) : (encA I).length ≤ zs.length := by
  rw [encA_len]
  have a := h.sg
  have w := h.sp.1
  have c0 := congrArg List.length a.code
  have c1 := congrArg List.length a.jmp
  have c2 := congrArg List.length a.dat
  have c3 := congrArg List.length a.nam
  rw [cut_len (w 0 (by omega))] at c0
  rw [cut_len (w 1 (by omega))] at c1
  rw [cut_len (w 2 (by omega))] at c2
  rw [cut_len (w 3 (by omega))] at c3
  have hs := sum_apart h.sp.2 (t := zs.length) (fun p hp => by
    rcases List.mem_cons.1 hp with rfl | hp
    · have := h.lo; show 0 + 64 ≤ _; omega
    · rw [spL_eq] at hp
      simp only [List.mem_cons, List.not_mem_nil, or_false] at hp
      rcases hp with rfl | rfl | rfl | rfl
      · exact w 0 (by omega)
      · exact w 1 (by omega)
      · exact w 2 (by omega)
      · exact w 3 (by omega))
  rw [spL_eq] at hs
  simp only [List.map_cons, List.map_nil, List.sum_cons, List.sum_nil] at hs
  have e4 : off I 4 = 64 + (prt I 0).length + (prt I 1).length + (prt I 2).length + (prt I 3).length := rfl
  have p0 : (prt I 0).length = (encF I.L).length := rfl
  have p1 : (prt I 1).length = (jmB I.J).length := rfl
  have p2 : (prt I 2).length = I.D.length := rfl
  have p3 : (prt I 3).length = (nmB I.M).length := rfl
  omega
end Go.Proofs.YtnplimdcfbgpeaaDoor
