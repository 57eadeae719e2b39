import Derived.Test.YtfjnpmbkmoodnaaLApR
import Derived.Test.YtfjnpmbkmoodnaaLKeep
namespace Go.Proofs.Ytfjnpmbkmoodnaa
open Go.RowKit Go.WideShapes
/-- two answers more -/
def ext (vals : Nat → Value) (n : Nat) (a b : Value) : Nat → Value := fun i => if i = n then a else if i = n + 1 then b else vals i
def extZ (Z : Nat → List Int) (n : Nat) (L : List Int) : Nat → List Int := fun i => if i = n ∨ i = n + 1 then L else Z i
theorem ext_lt (vals : Nat → Value) (n : Nat) (a b : Value) {i : Nat} (h : i < n) : ext vals n a b i = vals i := by
  simp only [ext]; rw [if_neg (by omega), if_neg (by omega)]
theorem extZ_lt (Z : Nat → List Int) (n : Nat) (L : List Int) {i : Nat} (h : i < n) : extZ Z n L i = Z i := by
  simp only [extZ]; rw [if_neg (by omega)]
theorem ext_range (vals : Nat → Value) (n : Nat) (a b : Value) : (List.range (n + 2)).map (ext vals n a b) = (List.range n).map vals ++ [a, b] := by
  rw [List.range_succ, List.range_succ, List.map_append, List.map_append, List.append_assoc]
  congr 1
  · exact List.map_congr_left fun i hi => ext_lt vals n a b (List.mem_range.1 hi)
  · simp [ext]
theorem own_lt_ne {w : World} {B e s n : Nat} {v : Value} {xs : List Value} (h : w.ownsRow B e s v n xs) {g : Nat} (hg : w.heap.size ≤ g) : v.ownBlock ≠ some g := fun e => by have := (h.lt g e).2; omega
theorem own_ge_ne {w : World} {B e s n : Nat} {v : Value} {xs : List Value} (h : w.ownsRow B e s v n xs) {g : Nat} (hg : g < B) : v.ownBlock ≠ some g := fun e => by have := (h.lt g e).1; omega
theorem ext_ne {vals : Nat → Value} {n g : Nat} {a b : Value} (h : ∀ i, i < n → (vals i).ownBlock ≠ some g) (ha : a.ownBlock ≠ some g) (hb : b.ownBlock ≠ some g) : ∀ i, i < n + 2 → (ext vals n a b i).ownBlock ≠ some g := by
  intro i hi
  by_cases hin : i < n
  · rw [ext_lt _ _ _ _ hin]; exact h i hin
  · by_cases hi1 : i = n
    · subst hi1; simp only [ext, if_true]; exact ha
    · have hi2 : i = n + 1 := by omega
      subst hi2
      simp only [ext, if_true, if_neg hi1]; exact hb
theorem extZ_le {Z : Nat → List Int} {n m : Nat} {L : List Int} (h : ∀ i, i < n → (Z i).length ≤ m) (hL : L.length ≤ m) : ∀ i, i < n + 2 → (extZ Z n L i).length ≤ m := by
  intro i hi
  by_cases hin : i < n
  · rw [extZ_lt _ _ _ hin]; exact h i hin
  · have : i = n ∨ i = n + 1 := by omega
    simp only [extZ, if_pos this]; exact hL
theorem own_monoB {w : World} {B B' e sz : Nat} {v : Value} {n : Nat} {xs : List Value} (h : w.ownsRow B e sz v n xs) (hle : B' ≤ B) : w.ownsRow B' e sz v n xs :=
  ⟨h.1, h.2.imp id (fun ⟨g, cap, cur, a, b, c⟩ => ⟨g, cap, cur, a, Nat.le_trans hle b, c⟩)⟩
/-- two rows lie apart, told both ways -/
def Apt (v v' : Value) : Prop := ∀ b, v.ownBlock = some b → v'.ownBlock = some b → False
theorem Apt.l {v v' : Value} (h : Apt v v') : v.ownBlock = none ∨ v.ownBlock ≠ v'.ownBlock := by
  cases h1 : v.ownBlock with
  | none => exact .inl rfl
  | some b => exact .inr fun e => h b h1 e.symm
theorem Apt.symm {v v' : Value} (h : Apt v v') : Apt v' v := fun b h1 h2 => h b h2 h1
theorem Apt.of {v v' : Value} (h : v.ownBlock = none ∨ v.ownBlock ≠ v'.ownBlock) : Apt v v' := fun b h1 h2 => by
  rcases h with h | h
  · rw [h] at h1; cases h1
  · rw [h1, h2] at h; exact h rfl
theorem Apt.later {w : World} {B B2 n m e s e' s' : Nat} {v v' : Value} {xs xs' : List Value} (h : w.ownsRow B e s v n xs) {w' : World} (h' : w'.ownsRow B2 e' s' v' m xs') (hlt : w.heap.size ≤ B2) : Apt v v' := fun b h1 h2 => by
  have := (h.lt b h1).2
  have := (h'.lt b h2).1
  omega

theorem kw_ext {w w1 w2 : World} {B : Nat} {lo wo : Option Addr} {lc wc n g1 c1 g2 c2 : Nat} {vals wv : Nat → Value} {Z : Nat → List Int} {a b q : Value} {L : List Int} {o1 o2 : Obj} (h : KW w B lo lc wo wc n vals wv Z)
    (ha : w.ownsRow B 5 1 a L.length (bv L)) (hb : w.ownsRow B 5 1 b L.length (bv L)) (hq : w.ownsRow B 5 1 q L.length (bv L)) (hab : Apt a b) (hva : ∀ i, i < n → Apt (vals i) a) (hvb : ∀ i, i < n → Apt (vals i) b)
    (h1 : w1.ownsRow B 26 1 (.slice (some ⟨g1, 0, none⟩) (n + 2) c1) (n + 2) ((List.range n).map vals ++ [a, b])) (hg1 : (w.alloc o1).grownBy w1 (Value.slice lo n lc).ownBlock) (hor1 : (Value.slice lo n lc).ownBlock = some g1 ∨ g1 = w.heap.size + 1)
    (h2 : w2.ownsRow B 26 1 (.slice (some ⟨g2, 0, none⟩) (n + 2) c2) (n + 2) ((List.range n).map wv ++ [q, q])) (hg2 : (w1.alloc o2).grownBy w2 (Value.slice wo n wc).ownBlock) (hor2 : (Value.slice wo n wc).ownBlock = some g2 ∨ g2 = w1.heap.size + 1) :
    KW w2 B (some ⟨g1, 0, none⟩) c1 (some ⟨g2, 0, none⟩) c2 (n + 2) (ext vals n a b) (ext wv n q q) (extZ Z n L) := by
  have hsep := Apt.of h.sep
  have hwr1 : w1.ownsRow B 26 1 (.slice wo n wc) n ((List.range n).map wv) := (h.wrow.alloc o1).kept hg1 hsep.symm.l
  have step : ∀ {v : Value} {m : Nat} {xs : List Value}, w.ownsRow B 5 1 v m xs → w2.ownsRow B 5 1 v m xs := fun {v m xs} hv => by
    have k1 := (hv.alloc o1).kept hg1 (rows_type (e := 5) (e' := 26) (by decide) hv h.own.row)
    exact (k1.alloc o2).kept hg2 (rows_type (e := 5) (e' := 26) (by decide) k1 hwr1)
  have hne1 : Apt (.slice (some ⟨g1, 0, none⟩) (n + 2) c1) (.slice wo n wc) := fun b hb1 hb2 => by
    have hgb : g1 = b := by simpa [Value.ownBlock] using hb1
    subst hgb
    rcases hor1 with h' | h'
    · exact hsep _ h' hb2
    · have := (h.wrow.lt _ hb2).2; omega
  refine ⟨⟨?_, fun i hi => ?_, fun i j hi hj hij => ?_⟩, ?_, fun i hi => ?_, ?_⟩
  · rw [ext_range]; exact (h1.alloc o2).kept hg2 hne1.l
  · by_cases hin : i < n
    · rw [ext_lt _ _ _ _ hin, extZ_lt _ _ _ hin]; exact step (h.own.each i hin)
    · by_cases hi1 : i = n
      · subst hi1; simp only [ext, extZ, if_true, true_or]; exact step ha
      · have hi2 : i = n + 1 := by omega
        subst hi2
        simp only [ext, extZ, if_true, or_true, if_neg hi1]; exact step hb
  · have key : ∀ i, i < n + 2 → ext vals n a b i = (if i < n then vals i else if i = n then a else b) := fun i hi => by
      by_cases hin : i < n
      · rw [ext_lt _ _ _ _ hin, if_pos hin]
      · by_cases hi1 : i = n
        · subst hi1; simp [ext]
        · have hi2 : i = n + 1 := by omega
          subst hi2; simp only [ext, if_neg hin, if_neg hi1, if_true]
    refine Apt.l ?_
    rw [key i hi, key j hj]
    by_cases hin : i < n <;> by_cases hjn : j < n
    · rw [if_pos hin, if_pos hjn]; exact Apt.of (h.own.apart i j hin hjn hij)
    · rw [if_pos hin, if_neg hjn]; split
      · exact hva i hin
      · exact hvb i hin
    · rw [if_neg hin, if_pos hjn]; split
      · exact (hva j hjn).symm
      · exact (hvb j hjn).symm
    · rw [if_neg hin, if_neg hjn]
      by_cases hi1 : i = n
      · rw [if_pos hi1, if_neg (by omega)]; exact hab
      · rw [if_neg hi1, if_pos (by omega)]; exact hab.symm
  · rw [ext_range]; exact h2
  · by_cases hin : i < n
    · rw [ext_lt _ _ _ _ hin, extZ_lt _ _ _ hin]; exact step (h.weach i hin)
    · by_cases hi1 : i = n
      · subst hi1; simp only [ext, extZ, if_true, true_or]; exact step hq
      · have hi2 : i = n + 1 := by omega
        subst hi2
        simp only [ext, extZ, if_true, or_true, if_neg hi1]; exact step hq
  · refine Apt.l fun b hb1 hb2 => ?_
    have hgb : g2 = b := by simpa [Value.ownBlock] using hb2
    subst hgb
    rcases hor2 with h' | h'
    · exact hne1 _ hb1 h'
    · have hgb1 : g1 = g2 := by simpa [Value.ownBlock] using hb1
      have := (h1.lt g1 rfl).2
      omega

end Go.Proofs.Ytfjnpmbkmoodnaa
