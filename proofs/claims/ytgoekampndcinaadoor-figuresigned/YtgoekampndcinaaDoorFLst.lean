import Derived.Test.YtgoekampndcinaaDoorFWord
import Derived.Test.YtgoekampndcinaaDoorFHx
import Derived.Test.YtgoekampndcinaaDoorShelf
import Derived.Lib.ItoaLen
namespace Go.Proofs.YtgoekampndcinaaDoor
open Go.RowKit

/-! texts made of lists of bytes -/
def str (L : List UInt8) : ByteArray := ⟨L.toArray⟩
theorem str_size (L : List UInt8) : (str L).size = L.length := by simp [str, ByteArray.size]
theorem str_bt (L : List UInt8) (i : Nat) (h : i < L.length) : bt (str L) i = (L.getD i 0).toNat := by
  rw [bt_eq (str L) i (by rw [str_size]; exact h)]
  rw [List.getD_eq_getElem?_getD, List.getElem?_eq_getElem h]
  rfl
/-- the reading of a row, over a list -/
def rwL (base most : Nat) : List UInt8 → Nat → Nat → Nat × Nat × Nat
  | [], _, v => (v, 0, 0)
  | c :: r, i, v => if base ≤ dg c.toNat then (0, i, 40) else if most < v * base + dg c.toNat then (0, i, 41) else rwL base most r (i + 1) (v * base + dg c.toNat)
theorem rwf_rwL (base most : Nat) (L : List UInt8) : ∀ (M : List UInt8) (i v : Nat), L.drop i = M → i ≤ L.length → rwf (str L) base most M.length i v = rwL base most M i v
  | [], i, v, _, _ => rfl
  | c :: r, i, v, h, hi => by
    have hl : i < L.length := by
      apply Nat.lt_of_not_le
      intro hn
      rw [List.drop_eq_nil_of_le hn] at h
      cases h
    have hc : L.getD i 0 = c := by
      have := List.drop_eq_getElem_cons hl
      rw [h] at this
      rw [List.getD_eq_getElem?_getD, List.getElem?_eq_getElem hl]
      exact (List.cons.inj this).1.symm
    have hr : L.drop (i + 1) = r := by
      have := List.drop_eq_getElem_cons hl
      rw [h] at this
      exact (List.cons.inj this).2.symm
    show rwf (str L) base most (r.length + 1) i v = rwL base most (c :: r) i v
    rw [rwf, rwL, str_bt L i hl, hc, rwf_rwL base most L r (i + 1) _ hr hl]
theorem rwL_append (base most : Nat) (B : List UInt8) : ∀ (A : List UInt8) (i v v' : Nat), rwL base most A i v = (v', 0, 0) → v ≤ most → rwL base most (A ++ B) i v = rwL base most B (i + A.length) v'
  | [], i, v, v', h, _ => by
    have : v = v' := by simpa [rwL] using h
    subst this; rfl
  | c :: r, i, v, v', h, _ => by
    rw [rwL] at h
    rw [List.cons_append, rwL]
    split at h
    · simp at h
    · split at h
      · simp at h
      · rename_i h1 h2
        rw [if_neg h1, if_neg h2, rwL_append base most B r (i + 1) _ v' h (by omega), List.length_cons, show i + 1 + r.length = i + (r.length + 1) by omega]
theorem dg_dec (d : Nat) (h : d < 10) : dg (UInt8.ofNat (48 + d)).toNat = d := by
  have : (UInt8.ofNat (48 + d)).toNat = 48 + d := by rw [UInt8.toNat_ofNat']; exact Nat.mod_eq_of_lt (by omega)
  rw [this]; unfold dg; rw [if_pos (by omega)]; omega
theorem rwL_dec (most : Nat) : ∀ (n u : Nat), u < n → u ≤ most → ∀ i, rwL 10 most (Lib.decDigits u) i 0 = (u, 0, 0)
  | 0, u, h, _, _ => by omega
  | n + 1, u, h, hm, i => by
    rw [Lib.decDigits]
    by_cases h10 : u < 10
    · rw [dif_pos h10, rwL, dg_dec u h10, if_neg (by omega), if_neg (by omega), rwL]
      simp
    · rw [dif_neg h10, rwL_append 10 most _ _ i 0 (u / 10) (rwL_dec most n (u / 10) (by omega) (by omega) i) (by omega), rwL, dg_dec (u % 10) (by omega), if_neg (by omega), if_neg (by omega), rwL]
      congr 1
      omega
theorem rwL_zeros (most : Nat) : ∀ (n i : Nat), rwL 10 most (List.replicate n 48) i 0 = (0, 0, 0)
  | 0, i => rfl
  | n + 1, i => by
    rw [List.replicate_succ, rwL, show dg (48 : UInt8).toNat = 0 from rfl, if_neg (by omega), if_neg (by omega)]
    exact rwL_zeros most n (i + 1)
theorem rwL_nums (most n u : Nat) (h : u ≤ most) (i : Nat) : rwL 10 most (List.replicate n 48 ++ Lib.decDigits u) i 0 = (u, 0, 0) := by
  rw [rwL_append 10 most _ _ i 0 0 (rwL_zeros most n i) (Nat.zero_le _)]
  exact rwL_dec most (u + 1) u (by omega) h _
theorem dg_hex (d : Nat) (h : d < 16) : dg (UInt8.ofNat (hexd d)).toNat = d := by
  have : (UInt8.ofNat (hexd d)).toNat = hexd d := by rw [UInt8.toNat_ofNat']; exact Nat.mod_eq_of_lt (hexd_lt d h)
  rw [this]
  unfold hexd
  split
  · unfold dg; rw [if_pos (by omega)]; omega
  · unfold dg; rw [if_neg (by omega), if_pos (by omega)]; omega
theorem rwL_hex (most : Nat) : ∀ (k x : Nat), x ≤ most → x < 16 ^ k → ∀ i, rwL 16 most (byts (hk k x)) i 0 = (x, 0, 0)
  | 0, x, _, h, i => by
    have : x = 0 := by simpa using h
    subst this; rfl
  | k + 1, x, hm, h, i => by
    have h1 : x / 16 < 16 ^ k := by rw [Nat.div_lt_iff_lt_mul (by decide), ← Nat.pow_succ]; exact h
    rw [hk, byts, List.map_append]
    have e := rwL_hex most k (x / 16) (by omega) h1 i
    rw [byts] at e
    rw [rwL_append 16 most _ _ i 0 (x / 16) e (by omega)]
    show rwL 16 most [UInt8.ofNat (hexd (x % 16))] _ _ = _
    rw [rwL, dg_hex (x % 16) (by omega), if_neg (by omega), if_neg (by omega), rwL]
    congr 1
    omega
/-- the digits of a decimal text are digits -/
theorem dec_all : ∀ (n u : Nat), u < n → ∀ c ∈ Lib.decDigits u, 48 ≤ c.toNat ∧ c.toNat ≤ 57
  | 0, u, h => by omega
  | n + 1, u, h => by
    intro c hc
    rw [Lib.decDigits] at hc
    have hd : ∀ d, d < 10 → 48 ≤ (UInt8.ofNat (48 + d)).toNat ∧ (UInt8.ofNat (48 + d)).toNat ≤ 57 := by
      intro d hd
      have : (UInt8.ofNat (48 + d)).toNat = 48 + d := by rw [UInt8.toNat_ofNat']; exact Nat.mod_eq_of_lt (by omega)
      omega
    by_cases h10 : u < 10
    · rw [dif_pos h10] at hc
      rw [List.mem_singleton.1 hc]; exact hd u h10
    · rw [dif_neg h10] at hc
      rcases List.mem_append.1 hc with h1 | h1
      · exact dec_all n (u / 10) (by omega) c h1
      · rw [List.mem_singleton.1 h1]; exact hd (u % 10) (by omega)
theorem dec_len (u : Nat) (h : u < 18446744073709551616) : 1 ≤ (Lib.decDigits u).length ∧ (Lib.decDigits u).length ≤ 20 := by
  have h1 := Lib.nDigits_le20 u h
  rw [Lib.decDigits_length]
  refine ⟨?_, h1⟩
  rw [Lib.nDigits]; split <;> omega
theorem nums_all (n u : Nat) : ∀ c ∈ List.replicate n (48 : UInt8) ++ Lib.decDigits u, 48 ≤ c.toNat ∧ c.toNat ≤ 57 := by
  intro c hc
  rcases List.mem_append.1 hc with h | h
  · rw [List.eq_of_mem_replicate h]; decide
  · exact dec_all (u + 1) u (by omega) c h
theorem getD_mem {L : List UInt8} {i : Nat} (h : i < L.length) : L.getD i 0 ∈ L := by
  rw [List.getD_eq_getElem?_getD, List.getElem?_eq_getElem h]; exact List.getElem_mem h
/-- a row of digits without a sign is read as its number -/
theorem word_pos (n u : Nat) (hu : u < 4294967296) (hn : n < 40) : wordV (str (List.replicate n 48 ++ Lib.decDigits u)) = (u, 0, 0) := by
  have hl := dec_len u (by omega)
  obtain ⟨L, hL⟩ : ∃ L, List.replicate n (48 : UInt8) ++ Lib.decDigits u = L := ⟨_, rfl⟩
  have hlen : L.length = n + (Lib.decDigits u).length := by rw [← hL]; simp
  have hall : ∀ c ∈ L, 48 ≤ c.toNat ∧ c.toNat ≤ 57 := by rw [← hL]; exact nums_all n u
  have hw := rwL_nums 4294967295 n u (by omega) 0
  rw [hL] at hw ⊢
  have b0 : 48 ≤ bt (str L) 0 ∧ bt (str L) 0 ≤ 57 := by rw [str_bt L 0 (by omega)]; exact hall _ (getD_mem (by omega))
  have b1 : 2 ≤ L.length → 48 ≤ bt (str L) 1 ∧ bt (str L) 1 ≤ 57 := fun h => by rw [str_bt L 1 (by omega)]; exact hall _ (getD_mem (by omega))
  rw [wordV, if_neg (by rw [str_size]; omega), if_neg, if_neg, if_neg]
  · rw [rowV, if_neg (by rw [str_size]; omega), str_size, Nat.sub_zero]
    rw [rwf_rwL 10 4294967295 L L 0 0 rfl (Nat.zero_le _)]
    exact hw
  · rw [hp1]; simp; intro _; have : (45 : UInt8).toNat = 45 := rfl; omega
  · rw [hp2]; simp; intro h _; rw [str_size] at h; have := b1 h; have : (98 : UInt8).toNat = 98 := rfl; omega
  · rw [hp2]; simp; intro h _; rw [str_size] at h; have := b1 h; have : (120 : UInt8).toNat = 120 := rfl; omega
/-- with a sign -/
theorem word_neg (n u : Nat) (hu : u ≤ 2147483648) (h0 : 1 ≤ u) (hn : n < 40) : wordV (str (45 :: (List.replicate n 48 ++ Lib.decDigits u))) = (4294967296 - u, 0, 0) := by
  have hl := dec_len u (by omega)
  obtain ⟨L, hL⟩ : ∃ L, List.replicate n (48 : UInt8) ++ Lib.decDigits u = L := ⟨_, rfl⟩
  have hlen : L.length = n + (Lib.decDigits u).length := by rw [← hL]; simp
  have hw := rwL_nums 2147483648 n u hu 1
  rw [hL] at hw ⊢
  have b0 : bt (str (45 :: L)) 0 = 45 := by rw [str_bt _ 0 (by simp)]; rfl
  have hsz : (str (45 :: L)).size = L.length + 1 := by rw [str_size]; rfl
  rw [wordV, if_neg (by omega), if_neg, if_neg, if_pos]
  · rw [rowV, if_neg (by omega), hsz, show L.length + 1 - 1 = L.length by omega]
    rw [rwf_rwL 10 2147483648 (45 :: L) L 1 0 rfl (by simp), hw, neg3]
    simp only
    rw [Nat.mod_eq_of_lt (by omega)]
  · rw [hp1]; simp; exact ⟨by omega, b0⟩
  · rw [hp2]; simp; intro _ h; rw [b0] at h; have : (48 : UInt8).toNat = 48 := rfl; omega
  · rw [hp2]; simp; intro _ h; rw [b0] at h; have : (48 : UInt8).toNat = 48 := rfl; omega
theorem byts_len (L : List Nat) : (byts L).length = L.length := by simp [byts]
theorem word_hex (x : Nat) (hx : x < 4294967296) : wordV (str (48 :: 120 :: byts (hk 8 x))) = (x, 0, 0) := by
  have hsz : (str (48 :: 120 :: byts (hk 8 x))).size = 10 := by rw [str_size, List.length_cons, List.length_cons, byts_len, hk_len]
  have b0 : bt (str (48 :: 120 :: byts (hk 8 x))) 0 = 48 := by rw [str_bt _ 0 (by simp)]; rfl
  have b1 : bt (str (48 :: 120 :: byts (hk 8 x))) 1 = 120 := by rw [str_bt _ 1 (by simp)]; rfl
  rw [wordV, if_neg (by omega), if_pos]
  · rw [rowV, if_neg (by omega), hsz, show 10 - 2 = (byts (hk 8 x)).length by rw [byts_len, hk_len]]
    rw [rwf_rwL 16 4294967295 (48 :: 120 :: byts (hk 8 x)) (byts (hk 8 x)) 2 0 rfl (by simp)]
    exact rwL_hex 4294967295 8 x (by omega) (by simpa using hx) 2
  · rw [hp2]; simp only [decide_eq_true_eq]; exact ⟨by omega, b0, b1⟩
theorem hk_zero : ∀ n, hk n 0 = List.replicate n 48
  | 0 => rfl
  | n + 1 => by rw [hk, hk_zero n, List.replicate_succ']; rfl
theorem hk_split (n : Nat) : ∀ (j x : Nat), hk (n + j) x = hk n (x / 16 ^ j) ++ hk j x
  | 0, x => by simp [hk]
  | j + 1, x => by
    show hk (n + j + 1) x = _
    rw [hk, hk_split n j (x / 16), hk, Nat.div_div_eq_div_mul, Nat.pow_succ, Nat.mul_comm 16, List.append_assoc]
theorem hk_pad (k x : Nat) (hk8 : k < 8) (h : x / 16 ^ k < 16) : hk 8 x = List.replicate (7 - k) 48 ++ hk (k + 1) x := by
  have h1 := hk_split (7 - k) (k + 1) x
  rw [show 7 - k + (k + 1) = 8 by omega] at h1
  have h2 : x / 16 ^ (k + 1) = 0 := by rw [Nat.pow_succ, ← Nat.div_div_eq_div_mul]; exact Nat.div_eq_of_lt h
  rw [h1, h2, hk_zero]
end Go.Proofs.YtgoekampndcinaaDoor
