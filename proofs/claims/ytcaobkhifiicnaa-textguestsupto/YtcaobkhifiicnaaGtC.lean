import Derived.Test.YtcaobkhifiicnaaGtB
import Derived.Test.YtcaobkhifiicnaaWholeMath
namespace Go.Proofs.Ytcaobkhifiicnaa
open Go.RowKit Go.Shelf

theorem enc_same {r : Int} (h0 : 0 ≤ r) (h1 : r ≤ 1114111) (h2 : ¬ (55296 ≤ r ∧ r ≤ 57343)) : encZ r = Lib.encodeRuneZ r := by
  unfold Lib.encodeRuneZ
  by_cases a1 : r < 128
  · rw [encZ_1 a1, if_pos (by omega)]
  · rw [if_neg (by omega)]
    by_cases a2 : r < 2048
    · rw [encZ_2 (by omega) a2, if_pos (by omega)]
    · rw [if_neg (by omega)]
      by_cases a3 : r < 65536
      · rw [encZ_3 (by omega) a3, if_pos (by omega)]
      · rw [encZ_4 (by omega), if_neg (by omega), if_pos (by omega)]
/-- a number that is told as it is -/
def Told (r : Int) : Prop := Valid r ∧ prn r = true
theorem told_cases {r : Int} (h : prn r = true) : r = 10 ∨ (32 ≤ r ∧ r < 127) ∨ 159 < r := by
  unfold prn at h
  simp at h
  omega
def gx (r : Int) : List Int := if prn r = true then Lib.encodeRuneZ r else [63]
theorem gx_told {r : Int} (h : Told r) : gx r = encZ r := by
  unfold gx
  rw [if_pos h.2, enc_same h.1.1 h.1.2.1 h.1.2.2]
def gsn (r : Int) : Int := if prn r = true then r else 63
theorem told_63 : Told 63 := ⟨⟨by decide, by decide, by decide⟩, by decide⟩
theorem mem_from (s : ByteArray) : ∀ (f pos : Nat) (x : Cut s), x ∈ cutsFrom s f pos → ∃ p h, x = cutAt s p h
  | 0, pos, x, hx => by simp [cutsFrom] at hx
  | f + 1, pos, x, hx => by
    by_cases h : pos < s.size
    · rw [cutsFrom_step s f pos h] at hx
      rcases List.mem_cons.1 hx with rfl | hx
      · exact ⟨pos, h, rfl⟩
      · exact mem_from s f _ x hx
    · rw [cutsFrom_end s _ pos h] at hx; simp at hx
theorem gsn_told (s : ByteArray) (x : Cut s) (hx : x ∈ cuts s) : Told (gsn x.1.2) ∧ gsx x = encZ (gsn x.1.2) := by
  obtain ⟨p, h, rfl⟩ := mem_from s _ _ x hx
  have e : (cutAt s p h).1.2 = numAt s p := rfl
  rw [e]
  have e2 : gsx (cutAt s p h) = gx (numAt s p) := rfl
  rw [e2]
  by_cases hp : prn (numAt s p) = true
  · have h0 : 0 ≤ numAt s p := by rcases told_cases hp with h | h | h <;> omega
    have hc := (code_cut s p h h0).2.1
    have ht : Told (numAt s p) := ⟨⟨h0, (numAt_range s p).2, hc⟩, hp⟩
    have : gsn (numAt s p) = numAt s p := if_pos hp
    rw [this]
    exact ⟨ht, gx_told ht⟩
  · have : gsn (numAt s p) = 63 := if_neg hp
    rw [this]
    refine ⟨told_63, ?_⟩
    unfold gx
    rw [if_neg hp]
    rfl
def ws (s : ByteArray) : List Int := (cuts s).map fun x => gsn x.1.2
theorem ws_told (s : ByteArray) : ∀ r ∈ ws s, Told r := by
  intro r hr
  obtain ⟨x, hx, rfl⟩ := List.mem_map.1 hr
  exact (gsn_told s x hx).1
theorem flat_congr {α : Type} {f g : α → List Int} : ∀ (l : List α), (∀ x ∈ l, f x = g x) → l.flatMap f = l.flatMap g
  | [], _ => rfl
  | a :: l, h => by rw [List.flatMap_cons, List.flatMap_cons, h a (by simp), flat_congr l (fun x hx => h x (by simp [hx]))]
theorem gsL_ws (s : ByteArray) : gsL (cuts s) = (ws s).flatMap encZ := by
  unfold gsL ws
  rw [List.flatMap_map]
  exact flat_congr _ fun x hx => (gsn_told s x hx).2
theorem exps_flat : ∀ (l : List Int) (p : Nat), (exps p l).flatMap (fun q => gx q.2) = l.flatMap gx
  | [], _ => rfl
  | r :: l, p => by rw [exps, List.flatMap_cons, List.flatMap_cons, exps_flat l]
theorem again (l : List Int) (h : ∀ r ∈ l, Told r) : gsL (cuts (strOfNums (l.flatMap encZ))) = l.flatMap encZ := by
  have e := cuts_str l (fun r hr => (h r hr).1)
  have e2 : gsL (cuts (strOfNums (l.flatMap encZ))) = ((cuts (strOfNums (l.flatMap encZ))).map (·.1)).flatMap (fun q => gx q.2) := by
    rw [List.flatMap_map]; rfl
  rw [e2, e, exps_flat]
  exact flat_congr _ fun r hr => gx_told (h r hr)
theorem enc_bytes {r : Int} (h : Told r) : ∀ z ∈ encZ r, (z = 10 ∨ 32 ≤ z) ∧ z ≠ 127 ∧ z ≤ 255 := by
  intro z hz
  obtain ⟨⟨h0, h1, h2⟩, hp⟩ := h
  rcases told_cases hp with rfl | ⟨h3, h4⟩ | h3
  · simp [encZ] at hz; omega
  · rw [encZ_1 (by omega)] at hz; simp at hz; omega
  · by_cases a2 : r < 2048
    · rw [encZ_2 (by omega) a2] at hz; simp at hz; omega
    · by_cases a3 : r < 65536
      · rw [encZ_3 (by omega) a3] at hz; simp at hz; omega
      · rw [encZ_4 (by omega)] at hz; simp at hz; omega
theorem flat_bytes (l : List Int) (h : ∀ r ∈ l, Told r) : ∀ z ∈ l.flatMap encZ, (z = 10 ∨ 32 ≤ z) ∧ z ≠ 127 ∧ z ≤ 255 := by
  intro z hz
  obtain ⟨r, hr, hz⟩ := List.mem_flatMap.1 hz
  exact enc_bytes (h r hr) z hz
theorem pz_all : ∀ (l : List Int), (∀ z ∈ l, z ≠ 0) → pz l = l
  | [], _ => rfl
  | a :: l, h => by
    have ha := h a (by simp)
    have e : pz (a :: l) = a :: pz l := by simp [pz, ha]
    rw [e, pz_all l fun z hz => h z (by simp [hz])]
theorem pz_stop : ∀ (l m : List Int), (∀ z ∈ l, z ≠ 0) → pz (l ++ 0 :: m) = l
  | [], m, _ => by simp [pz]
  | a :: l, m, h => by
    have ha := h a (by simp)
    have e : pz (a :: l ++ 0 :: m) = a :: pz (l ++ 0 :: m) := by simp [pz, ha]
    rw [e, pz_stop l m fun z hz => h z (by simp [hz])]
/-- what the bytes are told as: bytes from 32 to 126 -/
def pln (zs : List Int) : List Int := zs.map fun c => 32 + c % 95
theorem pln_len (zs : List Int) : (pln zs).length = zs.length := by simp [pln]
theorem pln_mem (zs : List Int) : ∀ z ∈ pln zs, 32 ≤ z ∧ z ≤ 126 := by
  intro z hz
  obtain ⟨c, _, rfl⟩ := List.mem_map.1 hz
  omega
theorem pln_told (zs : List Int) : ∀ z ∈ pln zs, Told z := by
  intro z hz
  have := pln_mem zs z hz
  refine ⟨⟨by omega, by omega, by omega⟩, ?_⟩
  unfold prn
  simp
  omega
theorem pln_flat (zs : List Int) : (pln zs).flatMap encZ = pln zs := by
  have : (pln zs).flatMap encZ = (pln zs).flatMap fun z => [z] := flat_congr _ fun z hz => encZ_1 (by have := pln_mem zs z hz; omega)
  rw [this]
  simp
theorem pln_guest (zs : List Int) : strOfNums (gsL (cuts (strOfNums (pz (pln zs ++ 0 :: zs))))) = strOfNums (pln zs) := by
  rw [pz_stop (pln zs) zs fun z hz => by have := pln_mem zs z hz; omega]
  have := again (pln zs) (pln_told zs)
  rw [pln_flat] at this
  rw [this]
theorem told_again (s : ByteArray) : strOfNums (gsL (cuts (strOfNums (pz (gsL (cuts s)))))) = strOfNums (gsL (cuts s)) := by
  rw [gsL_ws s]
  rw [pz_all _ fun z hz => by have := flat_bytes (ws s) (ws_told s) z hz; omega]
  rw [again (ws s) (ws_told s)]
theorem told_bytes (s : ByteArray) : ∀ z ∈ gsL (cuts s), (z = 10 ∨ 32 ≤ z) ∧ z ≠ 127 ∧ z ≤ 255 := by
  rw [gsL_ws s]
  exact flat_bytes (ws s) (ws_told s)
theorem cutsFrom_len (s : ByteArray) : ∀ f pos, (cutsFrom s f pos).length ≤ f
  | 0, _ => by simp [cutsFrom]
  | f + 1, pos => by
    by_cases h : pos < s.size
    · rw [cutsFrom_step s f pos h, List.length_cons]
      have := cutsFrom_len s f (pos + wid s pos)
      omega
    · rw [cutsFrom_end s _ pos h]; simp
theorem told_len (s : ByteArray) (n : Nat) (h : s.size ≤ n) : (gsL (cuts s)).length ≤ 4 * n := by
  have h1 := gsL_len (cuts s)
  have h2 : (cuts s).length ≤ s.size := cutsFrom_len s s.size 0
  omega
end Go.Proofs.Ytcaobkhifiicnaa
