import Derived.Test.YtfolcjamefgphaaDec
namespace Go.Proofs.Ytfolcjamefgphaa
open Go.RowKit

/-- the bits of the bytes behind the first, gathered -/
def acc (s : ByteArray) (i : Nat) (r0 : Int) : Nat → Int
  | 0 => r0
  | k + 1 => acc s i r0 k * 64 + bt s (i + (k + 1)) - 128
abbrev isCont (s : ByteArray) (j : Nat) : Prop := 128 ≤ bt s j ∧ bt s j ≤ 191

theorem acc_range (s : ByteArray) (i : Nat) (r0 : Int) (h0 : 0 ≤ r0) (h1 : r0 ≤ 31) (k : Nat) (hk : k ≤ 3) (hc : ∀ j, 1 ≤ j → j ≤ k → isCont s (i + j)) :
    0 ≤ acc s i r0 k ∧ acc s i r0 k ≤ 8388607 ∧ (k ≤ 2 → acc s i r0 k ≤ 131071) := by
  have step : ∀ n, 1 ≤ n → n ≤ k → 128 ≤ bt s (i + n) ∧ bt s (i + n) ≤ 191 := fun n a b => hc n a b
  match k, hk with
  | 0, _ => simp only [acc]; omega
  | 1, _ => have := step 1 (by omega) (by omega); simp only [acc, Nat.zero_add]; omega
  | 2, _ => have := step 1 (by omega) (by omega); have := step 2 (by omega) (by omega); simp only [acc, Nat.zero_add, Nat.reduceAdd]; omega
  | 3, _ => have := step 1 (by omega) (by omega); have := step 2 (by omega) (by omega); have := step 3 (by omega) (by omega); simp only [acc, Nat.zero_add, Nat.reduceAdd]; omega

/-- what runeAt tells where the first byte says n bytes -/
def raN (s : ByteArray) (i n : Nat) (r0 least : Int) : Int × Nat :=
  if i + n ≤ s.size ∧ (∀ j, j < n → 1 ≤ j → isCont s (i + j)) ∧ least ≤ acc s i r0 (n - 1) ∧ acc s i r0 (n - 1) ≤ 1114111 ∧ ¬ (55296 ≤ acc s i r0 (n - 1) ∧ acc s i r0 (n - 1) ≤ 57343) then (acc s i r0 (n - 1), n) else (0, 0)
def ra (s : ByteArray) (i : Nat) : Int × Nat :=
  if bt s i < 128 then (bt s i, 1)
  else if bt s i < 192 then (0, 0)
  else if bt s i < 224 then raN s i 2 (bt s i - 192) 128
  else if bt s i < 240 then raN s i 3 (bt s i - 224) 2048
  else if bt s i < 248 then raN s i 4 (bt s i - 240) 65536
  else (0, 0)

theorem ret_pair {k l : IntKind} {a b c d : Int} (h : a = c) (h' : b = d) : Ending.returned (.tuple #[.int k a, .int l b]) = .returned (.tuple #[.int k c, .int l d]) := by rw [h, h']
theorem raN_short {s : ByteArray} {i n : Nat} {r0 least : Int} (h : ¬ i + n ≤ s.size) : raN s i n r0 least = (0, 0) := by
  unfold raN; rw [if_neg (fun c => h c.1)]
theorem raN_lost {s : ByteArray} {i n j : Nat} {r0 least : Int} (h1 : j < n) (h2 : 1 ≤ j) (h : ¬ isCont s (i + j)) : raN s i n r0 least = (0, 0) := by
  unfold raN; rw [if_neg (fun c => h (c.2.1 j h1 h2))]
theorem raN_bad {s : ByteArray} {i n : Nat} {r0 least : Int} (h : acc s i r0 (n - 1) < least ∨ 1114111 < acc s i r0 (n - 1) ∨ (55296 ≤ acc s i r0 (n - 1) ∧ acc s i r0 (n - 1) ≤ 57343)) : raN s i n r0 least = (0, 0) := by
  unfold raN
  rw [if_neg (fun c => ?_)]
  obtain ⟨_, _, c1, c2, c3⟩ := c
  rcases h with h | h | h
  · omega
  · omega
  · exact c3 h
theorem raN_good {s : ByteArray} {i n : Nat} {r0 least : Int} (h1 : i + n ≤ s.size) (h2 : ∀ j, j < n → 1 ≤ j → isCont s (i + j)) (h3 : least ≤ acc s i r0 (n - 1)) (h4 : acc s i r0 (n - 1) ≤ 1114111) (h5 : ¬ (55296 ≤ acc s i r0 (n - 1) ∧ acc s i r0 (n - 1) ≤ 57343)) : raN s i n r0 least = (acc s i r0 (n - 1), n) := by
  unfold raN; rw [if_pos ⟨h1, h2, h3, h4, h5⟩]

end Go.Proofs.Ytfolcjamefgphaa
