import Derived.Test.YtjggbdlmghembaaGreatCIInf
import Derived.Test.YtjggbdlmghembaaGreatCABinA
import Derived.Deep.RegionHeld3
namespace Go.Proofs.YtjggbdlmghembaaGreat
open Go.RowKit Go.WideShapes
set_option maxRecDepth 100000

/-- the operations that are known -/
def kn (op : Nat) : Bool := decide (op = 1 ∨ op = 8 ∨ op = 10 ∨ op = 11 ∨ unE op = 0 ∨ binE op 1 = 0 ∨ opKi op = 2)
theorem doD_unk {ws : List Nat} {op arg : Nat} (h : kn op = false) : doD ws op arg = none ∧ ¬ opKi op = 2 := by
  have h' := of_decide_eq_false h
  simp only [not_or] at h'
  obtain ⟨h1, h8, h10, h11, hu, hb, hk⟩ := h'
  exact ⟨by simp only [doD, h1, h8, h10, h11, hu, hb, if_false], hk⟩
theorem plD_unk {p : Nat × Nat} (h : kn p.1 = false) : ∀ (A B : List (Nat × Nat)) (ws : List Nat), plD (A ++ p :: B) ws = none
  | [], _, ws => plD_no (doD_unk (ws := ws) (arg := p.2) h).2 (doD_unk h).1
  | q :: A, B, ws => by
    rw [List.cons_append]
    by_cases h1 : erV q.1 q.2 = 0
    · by_cases h2 : opKi q.1 = 2
      · rw [plD_cmp h1 h2, if_neg (by simp)]
      · cases hd : doD ws q.1 q.2 with
        | none => exact plD_no h2 hd
        | some ws' => rw [plD_on h1 h2 hd]; exact plD_unk h A B ws'
    · exact plD_er h1
theorem plD_far {M : List (Nat × Nat)} {k n : Nat} (hk : k < M.length) (hkn : kn (M.getD k (0, 0)).1 = false) (hn : k < n) (hnl : n ≤ M.length) (ws : List Nat) : plD (M.take n) ws = none := by
  have e : M.take n = M.take k ++ M.getD k (0, 0) :: (M.take n).drop (k + 1) := by
    have e1 : M.take n = (M.take n).take k ++ (M.take n).drop k := (List.take_append_drop k _).symm
    rw [List.take_take, Nat.min_eq_left (by omega)] at e1
    have hl : k < (M.take n).length := by rw [List.length_take]; omega
    rw [List.drop_eq_getElem_cons hl] at e1
    rw [e1]
    congr 2
    · rw [List.getElem_take, List.getD_eq_getElem?_getD, List.getElem?_eq_getElem hk]; rfl
    · rw [← e1]
  rw [e]
  exact plD_unk hkn _ _ ws
/-- the document's search, from the longest row down -/
def srch (M : List (Nat × Nat)) : Nat → Nat × Nat × Nat
  | 0 => (1, 1, 0)
  | 1 => (1, 1, 0)
  | n + 2 => match plD (M.take (n + 2)) [] with
    | some q => (n + 2, q.1, q.2)
    | none => srch M (n + 1)
theorem srch_hit {M : List (Nat × Nat)} {n k v : Nat} (h2 : 2 ≤ n) (h : plD (M.take n) [] = some (k, v)) : srch M n = (n, k, v) := by
  obtain ⟨j, rfl⟩ : ∃ j, n = j + 2 := ⟨n - 2, by omega⟩
  simp [srch, h]
theorem srch_miss {M : List (Nat × Nat)} {n : Nat} (h : plD (M.take (n + 1)) [] = none) (h1 : 1 ≤ n) : srch M (n + 1) = srch M n := by
  obtain ⟨j, rfl⟩ : ∃ j, n = j + 1 := ⟨n - 1, by omega⟩
  simp [srch, h]
theorem srch_down {M : List (Nat × Nat)} {n : Nat} (h1 : 1 ≤ n) : ∀ d, (∀ m, n < m → m ≤ n + d → plD (M.take m) [] = none) → srch M (n + d) = srch M n
  | 0, _ => rfl
  | d + 1, h => by
    rw [← Nat.add_assoc, srch_miss (h _ (by omega) (by omega)) (by omega)]
    exact srch_down h1 d (fun m a b => h m a (by omega))
theorem srch_lgV {M : List (Nat × Nat)} {t : Nat} (hM : ∀ p ∈ M, p.1 < 256) (ht : t ≤ M.length) (hf : ∀ n, t < n → n ≤ M.length → plD (M.take n) [] = none) : srch M t = lgV M := by
  have hb := lgF_bst M [] 0 (1, 1, 0) hM (by decide) (fun _ => rfl)
  unfold lgV
  rcases hb with ⟨n, k, v, n1, n2, n3, n4, n5, n6⟩ | ⟨a1, a2⟩
  · have hnt : n ≤ t := by
      by_cases h : n ≤ t
      · exact h
      · rw [hf n (by omega) n2] at n4; cases n4
    rw [n5]
    obtain ⟨d, rfl⟩ : ∃ d, t = n + d := ⟨t - n, by omega⟩
    rw [srch_down n1 d (fun m h1 h2 => n6 m h1 (by omega)), srch_hit (by omega) n4]
    simp
  · rw [a2]
    rcases Nat.eq_zero_or_pos t with rfl | h
    · rfl
    · obtain ⟨d, rfl⟩ : ∃ d, t = 1 + d := ⟨t - 1, by omega⟩
      rw [srch_down (Nat.le_refl _) d (fun m h1 h2 => a1 m (by omega) (by omega) (by omega))]
      rfl
end Go.Proofs.YtjggbdlmghembaaGreat
namespace Go.Proofs.YtjggbdlmghembaaGreat
open Go.RowKit
set_option maxRecDepth 100000

theorem rsig_any (a : Nat) (w : World) (ha : a < 4294967296) :
    Calls Tryz.prog 38 #[.int .u32 a] w fun e w' => e = .returned (.int .i64 (sx a)) ∧ w' = w := by
  unfold sx
  by_cases h' : a < 2147483648
  · rw [if_pos h']
    have g1 : decide ((2147483648 : Int) ≤ (a : Int)) = false := decide_eq_false (by omega)
    obtain ⟨x, hx⟩ : ∃ x : Int, x = (a : Int) := ⟨_, rfl⟩
    rw [← hx] at g1 ⊢
    have x0 : 0 ≤ x := by omega
    have x1 : x ≤ 2147483647 := by omega
    clear hx ha h'
    go_enter Tryz.func38, Tryz.ntmps38
    go_wp2
    go_ret
    exact ⟨rfl, rfl⟩
  · rw [if_neg h']
    have g1 : decide ((2147483648 : Int) ≤ (a : Int)) = true := decide_eq_true (by omega)
    obtain ⟨x, hx⟩ : ∃ x : Int, x = (a : Int) := ⟨_, rfl⟩
    rw [← hx] at g1 ⊢
    have x0 : 0 ≤ x := by omega
    have x1 : x ≤ 4294967295 := by omega
    have hw : wrap64 (x - 4294967296) = x - 4294967296 := by unfold wrap64; omega
    clear hx ha h'
    go_enter Tryz.func38, Tryz.ntmps38
    go_wp2
    go_ret
    exact ⟨rfl, rfl⟩
theorem tmod_cases (z : Int) : z.tmod 4294967296 = z % 4294967296 ∧ 0 ≤ z.tmod 4294967296 ∨ z.tmod 4294967296 = z % 4294967296 - 4294967296 ∧ z.tmod 4294967296 < 0 ∨ z.tmod 4294967296 = 0 ∧ z % 4294967296 = 0 := by
  by_cases h : 0 ≤ z
  · left
    rw [Int.tmod_eq_emod_of_nonneg h]
    exact ⟨rfl, Int.emod_nonneg _ (by decide)⟩
  · have e : z.tmod 4294967296 = -((-z) % 4294967296) := by
      rw [← Int.tmod_eq_emod_of_nonneg (by omega : 0 ≤ -z), Int.neg_tmod, Int.neg_neg]
    rw [e]
    omega
theorem rwrap_any (z : Int) (w : World) : 
    Calls Tryz.prog 45 #[.int .i64 z] w fun e w' => e = .returned (.int .u32 (z % 4294967296)) ∧ w' = w := by
  have e0 : (0 : Int) ≤ z % 4294967296 := Int.emod_nonneg _ (by decide)
  have e1 : z % 4294967296 < 4294967296 := Int.emod_lt_of_pos _ (by decide)
  have hc := tmod_cases z
  obtain ⟨r, hr⟩ : ∃ r, z % 4294967296 = r := ⟨_, rfl⟩
  obtain ⟨y, hy⟩ : ∃ y, z.tmod 4294967296 = y := ⟨_, rfl⟩
  rw [hr] at e0 e1 hc ⊢
  rw [hy] at hc
  have hn : y < 0 ∧ y + 4294967296 = r ∨ ¬ y < 0 ∧ y = r := by omega
  have hw0 : wrap64 y = y := by unfold wrap64; omega
  rcases hn with ⟨h1, h2⟩ | ⟨h1, h2⟩
  · have hw : wrap64 (y + 4294967296) = r := by unfold wrap64; omega
    have hv : r % 4294967296 = r := by omega
    clear hc hr
    go_enter Tryz.func45, Tryz.ntmps45
    go_wp2
    go_ret
    exact ⟨rfl, rfl⟩
  · subst h2
    have hv : y % 4294967296 = y := by omega
    clear hc hr
    go_enter Tryz.func45, Tryz.ntmps45
    go_wp2
    go_ret
    exact ⟨rfl, rfl⟩
end Go.Proofs.YtjggbdlmghembaaGreat
namespace Go.Proofs.YtjggbdlmghembaaGreat
open Go.RowKit
set_option maxRecDepth 100000
theorem btw {a W w1 : World} (h : Below W.heap.size W w1) (h' : Below a.heap.size a W) : Below a.heap.size a w1 := h'.trans (h.mono h'.size)
set_option maxRecDepth 100000 in
theorem rpow_any (n : Nat) (w : World) (hn : n ≤ 32) :
    Calls Tryz.prog 52 #[.int .u32 n] w fun e w' => e = .returned (.int .i64 ((2 ^ n : Nat) : Int)) ∧ w' = w := by
  go_enter Tryz.func52, Tryz.ntmps52
  go_wp2
  go_loop [3, 4] (fun p i => ∃ k : Nat, k ≤ n ∧ i = .int .u32 k ∧ p = .int .i64 ((2 ^ k : Nat) : Int)) (fun _ i => n - (intOf i).toNat)
  case atStart => exact ⟨0, by omega, rfl, by simp⟩
  case round =>
    obtain ⟨k, hk, rfl, rfl⟩ := hrel
    by_cases hlt : k < n
    · have hI : (k : Int) < (n : Int) := by omega
      have hp : (2 : Nat) ^ (k + 1) ≤ 4294967296 := Nat.pow_le_pow_right (by decide) (show k + 1 ≤ 32 by omega)
      have hs : (2 : Nat) ^ (k + 1) = 2 ^ k * 2 := Nat.pow_succ ..
      have HS : Hid ((2 : Nat) ^ (k + 1) = 2 ^ k * 2) := hs
      obtain ⟨g, hg⟩ : ∃ g, (2 : Nat) ^ k = g := ⟨_, rfl⟩
      rw [hs, hg] at hp
      have hw : wrap64 ((g : Int) * 2) = (g : Int) * 2 := by unfold wrap64; omega
      have hw2 : IntKind.u32.wrap ((k : Int) + 1) = (k : Int) + 1 := by simp [IntKind.wrap, IntKind.signed, IntKind.bits]; omega
      have HG : Hid ((2 : Nat) ^ k = g) := hg
      rw [hg]
      clear hs hg
      go_wp2
      go_round
      case rel => exact ⟨k + 1, by omega, by go_num, by rw [HS.out, HG.out]; simp⟩
      case measure => simp [intOf]; omega
    · obtain rfl : k = n := by omega
      go_wp2
      go_ret
      exact ⟨rfl, rfl⟩
theorem floor_eq (x p : Int) (hp : 0 < p) : x / p = if x.tmod p < 0 then x.tdiv p - 1 else x.tdiv p := by
  by_cases h : 0 ≤ x
  · rw [Int.tdiv_eq_ediv_of_nonneg h, Int.tmod_eq_emod_of_nonneg h, if_neg (by have := Int.emod_nonneg x (show p ≠ 0 by omega); omega)]
  · have e1 : x.tmod p = -((-x) % p) := by rw [← Int.tmod_eq_emod_of_nonneg (by omega : 0 ≤ -x), Int.neg_tmod, Int.neg_neg]
    have e2 : x.tdiv p = -((-x) / p) := by rw [← Int.tdiv_eq_ediv_of_nonneg (by omega : 0 ≤ -x), Int.neg_tdiv, Int.neg_neg]
    have e3 := Int.mul_ediv_add_emod (-x) p
    have e4 := Int.emod_nonneg (-x) (show p ≠ 0 by omega)
    have e5 := Int.emod_lt_of_pos (-x) hp
    rw [e1, e2]
    generalize hq : (-x) / p = q at *
    generalize hr : (-x) % p = r at *
    by_cases hr0 : r = 0
    · rw [if_neg (by omega)]
      subst hr0
      rw [show x = -(p * q) by omega, Int.neg_ediv_of_dvd ⟨q, rfl⟩, Int.mul_ediv_cancel_left _ (by omega)]
    · rw [if_pos (by omega)]
      rw [show x = (p - r) + p * (-q - 1) by rw [Int.mul_sub, Int.mul_neg]; omega, Int.add_mul_ediv_left _ _ (by omega), Int.ediv_eq_zero_of_lt (by omega) (by omega)]
      omega
theorem rfloor_any (x p : Int) (w : World) (hx1 : -2147483648 ≤ x) (hx2 : x ≤ 2147483647) (hp : 0 < p) :
    Calls Tryz.prog 53 #[.int .i64 x, .int .i64 p] w fun e w' => e = .returned (.int .i64 (x / p)) ∧ w' = w := by
  rw [floor_eq x p hp]
  have hb : (x.tdiv p).natAbs ≤ x.natAbs := by rw [Int.natAbs_tdiv]; exact Nat.div_le_self _ _
  have hb2 : (x.tmod p).natAbs ≤ x.natAbs := by rw [Int.natAbs_tmod]; exact Nat.mod_le _ _
  have hz : ¬ p = 0 := by omega
  obtain ⟨q, hq⟩ : ∃ q, x.tdiv p = q := ⟨_, rfl⟩
  obtain ⟨r, hr⟩ : ∃ r, x.tmod p = r := ⟨_, rfl⟩
  rw [hq] at hb
  rw [hr] at hb2
  have hw : wrap64 q = q := by unfold wrap64; omega
  have hw1 : wrap64 (q - 1) = q - 1 := by unfold wrap64; omega
  have hw2 : wrap64 r = r := by unfold wrap64; omega
  rw [hq, hr]
  clear hb hb2
  by_cases h : r < 0
  · rw [if_pos h]
    go_enter Tryz.func53, Tryz.ntmps53
    go_wp2
    go_ret
    exact ⟨congrArg (fun z => Ending.returned (.int .i64 z)) hw1, rfl⟩
  · rw [if_neg h]
    go_enter Tryz.func53, Tryz.ntmps53
    go_wp2
    go_ret
    exact ⟨rfl, rfl⟩
theorem rdiv_zero (op a : Nat) (w : World) :
    Calls Tryz.prog 50 #[.int .u8 op, .int .u32 a, .int .u32 0] w fun e w' => e = .returned (.tuple #[.int .u32 0, .int .i64 60]) ∧ w' = w := by
  go_enter Tryz.func50, Tryz.ntmps50
  go_wp2
  simp [bodyPost, results, Tryz.results50]
theorem rdivu (a b q : Nat) (w : World) (ha : a < 4294967296) (hb : b < 4294967296) (hz : b ≠ 0) (hq : a / b = q) :
    Calls Tryz.prog 50 #[.int .u8 43, .int .u32 a, .int .u32 b] w fun e w' => e = .returned (.tuple #[.int .u32 q, .int .i64 0]) ∧ w' = w := by
  have hle := Nat.div_le_self a b
  rw [hq] at hle
  have z1 : ¬ (b : Int) = 0 := by omega
  have e1 : (a : Int).tdiv (b : Int) = (q : Int) := by rw [Int.tdiv_eq_ediv_of_nonneg (by omega), ← hq]; rfl
  have e2 : (a : Int) / (b : Int) = (q : Int) := by rw [← hq]; rfl
  have hw : wrap64 (q : Int) = (q : Int) := by unfold wrap64; omega
  have cw : ∀ w, Calls Tryz.prog 45 #[.int .i64 q] w fun e w' => e = .returned (.int .u32 q) ∧ w' = w := fun w => by
    have := rwrap_any q w
    rw [show (q : Int) % 4294967296 = (q : Int) by omega] at this
    exact this
  clear hq hle
  go_enter Tryz.func50, Tryz.ntmps50
  go_wp2_with (go_at_call 45; with_reducible refine (cw _).mono ?_; rintro e wq ⟨rfl, hq⟩; subst wq)
  simp [bodyPost, results, Tryz.results50]
theorem rmodu (a b q : Nat) (w : World) (ha : a < 4294967296) (hb : b < 4294967296) (hz : b ≠ 0) (hq : a % b = q) :
    Calls Tryz.prog 50 #[.int .u8 45, .int .u32 a, .int .u32 b] w fun e w' => e = .returned (.tuple #[.int .u32 q, .int .i64 0]) ∧ w' = w := by
  have hle := Nat.mod_le a b
  rw [hq] at hle
  have z1 : ¬ (b : Int) = 0 := by omega
  have e1 : (a : Int).tmod (b : Int) = (q : Int) := by rw [Int.tmod_eq_emod_of_nonneg (by omega), ← hq]; rfl
  have e2 : (a : Int) % (b : Int) = (q : Int) := by rw [← hq]; rfl
  have hw : wrap64 (q : Int) = (q : Int) := by unfold wrap64; omega
  have cw : ∀ w, Calls Tryz.prog 45 #[.int .i64 q] w fun e w' => e = .returned (.int .u32 q) ∧ w' = w := fun w => by
    have := rwrap_any q w
    rw [show (q : Int) % 4294967296 = (q : Int) by omega] at this
    exact this
  clear hq hle
  go_enter Tryz.func50, Tryz.ntmps50
  go_wp2_with (go_at_call 45; with_reducible refine (cw _).mono ?_; rintro e wq ⟨rfl, hq⟩; subst wq)
  simp [bodyPost, results, Tryz.results50]
theorem rdivi (a b : Nat) (x y q : Int) (Q : Nat) (w : World) (hy : y ≠ 0) (hq : x.tdiv y = q) (hQ : q % 4294967296 = (Q : Int)) (hx1 : -2147483648 ≤ x) (hx2 : x ≤ 2147483647) (hb : ¬ (b : Int) = 0)
    (s0 : ∀ w, Calls Tryz.prog 38 #[.int .u32 a] w fun e w' => e = .returned (.int .i64 x) ∧ w' = w) (s1 : ∀ w, Calls Tryz.prog 38 #[.int .u32 b] w fun e w' => e = .returned (.int .i64 y) ∧ w' = w) :
    Calls Tryz.prog 50 #[.int .u8 42, .int .u32 a, .int .u32 b] w fun e w' => e = .returned (.tuple #[.int .u32 Q, .int .i64 0]) ∧ w' = w := by
  have hle : q.natAbs ≤ x.natAbs := by rw [← hq, Int.natAbs_tdiv]; exact Nat.div_le_self _ _
  have hw : wrap64 q = q := by unfold wrap64; omega
  have cw : ∀ w, Calls Tryz.prog 45 #[.int .i64 q] w fun e w' => e = .returned (.int .u32 Q) ∧ w' = w := fun w => by
    have := rwrap_any q w
    rw [hQ] at this
    exact this
  clear hle hQ
  go_enter Tryz.func50, Tryz.ntmps50
  go_wp2_with (first
    | (go_at_call 38; with_reducible refine (s0 _).mono ?_; rintro e wq ⟨rfl, hq⟩; subst wq)
    | (go_at_call 38; with_reducible refine (s1 _).mono ?_; rintro e wq ⟨rfl, hq⟩; subst wq)
    | (go_at_call 45; with_reducible refine (cw _).mono ?_; rintro e wq ⟨rfl, hq⟩; subst wq))
  simp [bodyPost, results, Tryz.results50]
theorem rmodi (a b : Nat) (x y q m r : Int) (R : Nat) (w : World) (hy : y ≠ 0) (hq : x.tdiv y = q) (hm : q * y = m) (hr : x - m = r) (hR : r % 4294967296 = (R : Int)) (hx1 : -2147483648 ≤ x) (hx2 : x ≤ 2147483647) (hr' : x.tmod y = r) (hb : ¬ (b : Int) = 0)
    (s0 : ∀ w, Calls Tryz.prog 38 #[.int .u32 a] w fun e w' => e = .returned (.int .i64 x) ∧ w' = w) (s1 : ∀ w, Calls Tryz.prog 38 #[.int .u32 b] w fun e w' => e = .returned (.int .i64 y) ∧ w' = w) :
    Calls Tryz.prog 50 #[.int .u8 44, .int .u32 a, .int .u32 b] w fun e w' => e = .returned (.tuple #[.int .u32 R, .int .i64 0]) ∧ w' = w := by
  have hle : q.natAbs ≤ x.natAbs := by rw [← hq, Int.natAbs_tdiv]; exact Nat.div_le_self _ _
  have hle2 : r.natAbs ≤ x.natAbs := by rw [← hr', Int.natAbs_tmod]; exact Nat.mod_le _ _
  have hw : wrap64 q = q := by unfold wrap64; omega
  have hw1 : wrap64 m = m := by unfold wrap64; omega
  have hw2 : wrap64 r = r := by unfold wrap64; omega
  have cw : ∀ w, Calls Tryz.prog 45 #[.int .i64 r] w fun e w' => e = .returned (.int .u32 R) ∧ w' = w := fun w => by
    have := rwrap_any r w
    rw [hR] at this
    exact this
  clear hle hle2 hR hr'
  go_enter Tryz.func50, Tryz.ntmps50
  go_wp2_with (first
    | (go_at_call 38; with_reducible refine (s0 _).mono ?_; rintro e wq ⟨rfl, hq⟩; subst wq)
    | (go_at_call 38; with_reducible refine (s1 _).mono ?_; rintro e wq ⟨rfl, hq⟩; subst wq)
    | (go_at_call 45; with_reducible refine (cw _).mono ?_; rintro e wq ⟨rfl, hq⟩; subst wq))
  simp [bodyPost, results, Tryz.results50]
theorem rdiv_any (op a b : Nat) (w : World) (ho : op = 42 ∨ op = 43 ∨ op = 44 ∨ op = 45) (ha : a < 4294967296) (hb : b < 4294967296) :
    Calls Tryz.prog 50 #[.int .u8 op, .int .u32 a, .int .u32 b] w fun e w' => e = .returned (.tuple #[.int .u32 (binV op a b), .int .i64 (binE op b)]) ∧ w' = w := by
  by_cases hz : b = 0
  · subst hz
    have e1 : binV op a 0 = 0 := by rcases ho with rfl | rfl | rfl | rfl <;> simp [binV_42, binV_43, binV_44, binV_45]
    have e2 : binE op 0 = 60 := by unfold binE; rw [if_pos ho, if_pos rfl]
    rw [e1, e2]
    exact rdiv_zero op a w
  have e2 : binE op b = 0 := by unfold binE; rw [if_pos ho, if_neg hz]
  rw [e2]
  have s0 := fun w => rsig_any a w ha
  have s1 := fun w => rsig_any b w hb
  have ra := sx_range ha
  have hy : sx b ≠ 0 := by rw [Ne, sx_zero hb]; exact hz
  have hr : sx a - (sx a).tdiv (sx b) * sx b = (sx a).tmod (sx b) := by
    have := Int.tdiv_mul_add_tmod (sx a) (sx b)
    omega
  rcases ho with rfl | rfl | rfl | rfl
  · rw [binV_42, if_neg hz]
    exact rdivi a b _ _ _ _ w hy rfl anat_of.symm ra.1 ra.2 (by omega) s0 s1
  · rw [binV_43, if_neg hz]
    exact rdivu a b _ w ha hb hz rfl
  · rw [binV_44, if_neg hz]
    exact rmodi a b _ _ _ _ _ _ w hy rfl rfl hr anat_of.symm ra.1 ra.2 rfl (by omega) s0 s1
  · rw [binV_45, if_neg hz]
    exact rmodu a b _ w ha hb hz rfl
end Go.Proofs.YtjggbdlmghembaaGreat
namespace Go.Proofs.YtjggbdlmghembaaGreat
open Go.RowKit
set_option maxRecDepth 100000
theorem bit_at (a b k : Nat) : (a &&& b) / 2 ^ k % 2 = (a / 2 ^ k % 2) &&& (b / 2 ^ k % 2) ∧ (a ||| b) / 2 ^ k % 2 = (a / 2 ^ k % 2) ||| (b / 2 ^ k % 2) ∧ (a ^^^ b) / 2 ^ k % 2 = (a / 2 ^ k % 2) ^^^ (b / 2 ^ k % 2) := by
  have h := fun x : Nat => Nat.shiftRight_eq_div_pow x k
  rw [← h, ← h, ← h, ← h, ← h, Nat.shiftRight_and_distrib, Nat.shiftRight_or_distrib, Nat.shiftRight_xor_distrib]
  exact ⟨Nat.and_mod_two_pow (n := 1), Nat.or_mod_two_pow (n := 1), Nat.xor_mod_two_pow (n := 1)⟩
theorem mod_bit (V k : Nat) : V % 2 ^ (k + 1) = V % 2 ^ k + 2 ^ k * (V / 2 ^ k % 2) := by rw [Nat.pow_succ, Nat.mod_mul]
theorem bit_cases (a k : Nat) : a / 2 ^ k % 2 = 0 ∨ a / 2 ^ k % 2 = 1 := by omega
set_option maxRecDepth 100000 in
set_option maxHeartbeats 2000000 in
theorem rbits_and (a b : Nat) (w : World) (ha : a < 4294967296) (hb : b < 4294967296) :
    Calls Tryz.prog 51 #[.int .u8 46, .int .u32 a, .int .u32 b] w fun e w' => e = .returned (.int .u32 ((a &&& b : Nat) : Int)) ∧ Below w.heap.size w w' := by
  have hV : a &&& b < 2 ^ 32 := Nat.and_lt_two_pow a (n := 32) hb
  have HV : Hid (∀ k, (a &&& b) / 2 ^ k % 2 = (a / 2 ^ k % 2) &&& (b / 2 ^ k % 2)) := fun k => (bit_at a b k).1
  obtain ⟨V, hVe⟩ : ∃ V, a &&& b = V := ⟨_, rfl⟩
  rw [hVe] at hV HV ⊢
  clear hVe
  go_enter Tryz.func51, Tryz.ntmps51
  go_wp2
  go_loopw [7, 8, 9, 10, 11] (fun out i _ _ _ wr => ∃ k : Nat, k ≤ 32 ∧ i = .int .u32 k ∧ out = .int .i64 ((V % 2 ^ k : Nat) : Int) ∧ Below w.heap.size w wr) (fun _ i _ _ _ _ => 32 - (intOf i).toNat)
  case atStart => exact ⟨0, by omega, rfl, by simp [Nat.mod_one], Below.refl _ _⟩
  case round =>
    obtain ⟨k, hk, rfl, rfl, hb0⟩ := hrel
    rename World => wr
    by_cases hlt : k < 32
    · have hI : (k : Int) < 32 := by omega
      have cp := fun w => rpow_any k w (by omega)
      have HS : Hid (V % 2 ^ (k + 1) = V % 2 ^ k + 2 ^ k * (V / 2 ^ k % 2)) := mod_bit V k
      have HW := HV.out k
      have ca := bit_cases a k
      have cb := bit_cases b k
      have hp : (2 : Nat) ^ k ≤ 2147483648 := Nat.pow_le_pow_right (by decide) (show k ≤ 31 by omega)
      have hm : V % 2 ^ k < 2 ^ k := Nat.mod_lt _ (Nat.two_pow_pos k)
      have hp0 := Nat.two_pow_pos k
      have la := Nat.div_le_self a (2 ^ k)
      have lb := Nat.div_le_self b (2 ^ k)
      have q1 : (a : Int) / ((2 ^ k : Nat) : Int) = ((a / 2 ^ k : Nat) : Int) := rfl
      have q2 : (b : Int) / ((2 ^ k : Nat) : Int) = ((b / 2 ^ k : Nat) : Int) := rfl
      have q3 : (a : Int).tdiv ((2 ^ k : Nat) : Int) = ((a / 2 ^ k : Nat) : Int) := rfl
      have q4 : (b : Int).tdiv ((2 ^ k : Nat) : Int) = ((b / 2 ^ k : Nat) : Int) := rfl
      generalize V / 2 ^ k % 2 = vb at *
      generalize V % 2 ^ k = O at *
      generalize a / 2 ^ k = x at *
      generalize b / 2 ^ k = y at *
      have g1 : ((x : Int) % 2) = ((x % 2 : Nat) : Int) := rfl
      have g2 : ((y : Int) % 2) = ((y % 2 : Nat) : Int) := rfl
      have g3 : ((x : Int).tmod 2) = ((x % 2 : Nat) : Int) := rfl
      have g4 : ((y : Int).tmod 2) = ((y % 2 : Nat) : Int) := rfl
      generalize x % 2 = xb at *
      generalize y % 2 = yb at *
      have HG : Hid (∀ g, (2 : Nat) ^ k = g → V % 2 ^ (k + 1) = O + g * vb) := fun g e => by rw [HS.out, e]
      obtain ⟨g, hg⟩ : ∃ g, (2 : Nat) ^ k = g := ⟨_, rfl⟩
      have HE : Hid ((2 : Nat) ^ k = g) := hg
      rw [hg] at hp hm hp0 q1 q2 q3 q4 cp
      clear hg HS
      have z1 : ¬ (g : Int) = 0 := by omega
      have z2 : ¬ g = 0 := by omega
      have w1 : wrap64 (x : Int) = (x : Int) := by unfold wrap64; omega
      have w2 : wrap64 (y : Int) = (y : Int) := by unfold wrap64; omega
      have w3 : wrap64 ((O : Int) + (g : Int)) = (O : Int) + (g : Int) := by unfold wrap64; omega
      have w4 : IntKind.u32.wrap ((k : Int) + 1) = (k : Int) + 1 := by simp [IntKind.wrap, IntKind.signed, IntKind.bits]; omega
      have HX : Hid (vb = xb &&& yb) := HW
      clear HW hp hm hp0 la lb
      rcases ca with rfl | rfl <;> rcases cb with rfl | rfl
      all_goals (go_wp2_with (go_at_call 52; with_reducible refine (cp _).mono ?_; rintro e wq ⟨rfl, hq⟩; subst wq))
      all_goals (go_roundw
                 case rel => exact ⟨k + 1, by omega, by go_num, by first | (rw [HG.out g HE.out, HX.out]; simp; done) | (rw [w3, HG.out g HE.out, HX.out]; simp; done), hb0⟩
                 case measure => simp [intOf]; omega)
    · obtain rfl : k = 32 := by omega
      rw [Nat.mod_eq_of_lt hV]
      have hv : (V : Int) % 4294967296 = (V : Int) := by omega
      go_wp2
      go_ret
      exact ⟨rfl, hb0⟩
set_option maxRecDepth 100000 in
set_option maxHeartbeats 2000000 in
theorem rbits_or (a b : Nat) (w : World) (ha : a < 4294967296) (hb : b < 4294967296) :
    Calls Tryz.prog 51 #[.int .u8 47, .int .u32 a, .int .u32 b] w fun e w' => e = .returned (.int .u32 ((a ||| b : Nat) : Int)) ∧ Below w.heap.size w w' := by
  have hV : a ||| b < 2 ^ 32 := Nat.or_lt_two_pow (n := 32) ha hb
  have HV : Hid (∀ k, (a ||| b) / 2 ^ k % 2 = (a / 2 ^ k % 2) ||| (b / 2 ^ k % 2)) := fun k => (bit_at a b k).2.1
  obtain ⟨V, hVe⟩ : ∃ V, a ||| b = V := ⟨_, rfl⟩
  rw [hVe] at hV HV ⊢
  clear hVe
  go_enter Tryz.func51, Tryz.ntmps51
  go_wp2
  go_loopw [7, 8, 9, 10, 11] (fun out i _ _ _ wr => ∃ k : Nat, k ≤ 32 ∧ i = .int .u32 k ∧ out = .int .i64 ((V % 2 ^ k : Nat) : Int) ∧ Below w.heap.size w wr) (fun _ i _ _ _ _ => 32 - (intOf i).toNat)
  case atStart => exact ⟨0, by omega, rfl, by simp [Nat.mod_one], Below.refl _ _⟩
  case round =>
    obtain ⟨k, hk, rfl, rfl, hb0⟩ := hrel
    rename World => wr
    by_cases hlt : k < 32
    · have hI : (k : Int) < 32 := by omega
      have cp := fun w => rpow_any k w (by omega)
      have HS : Hid (V % 2 ^ (k + 1) = V % 2 ^ k + 2 ^ k * (V / 2 ^ k % 2)) := mod_bit V k
      have HW := HV.out k
      have ca := bit_cases a k
      have cb := bit_cases b k
      have hp : (2 : Nat) ^ k ≤ 2147483648 := Nat.pow_le_pow_right (by decide) (show k ≤ 31 by omega)
      have hm : V % 2 ^ k < 2 ^ k := Nat.mod_lt _ (Nat.two_pow_pos k)
      have hp0 := Nat.two_pow_pos k
      have la := Nat.div_le_self a (2 ^ k)
      have lb := Nat.div_le_self b (2 ^ k)
      have q1 : (a : Int) / ((2 ^ k : Nat) : Int) = ((a / 2 ^ k : Nat) : Int) := rfl
      have q2 : (b : Int) / ((2 ^ k : Nat) : Int) = ((b / 2 ^ k : Nat) : Int) := rfl
      have q3 : (a : Int).tdiv ((2 ^ k : Nat) : Int) = ((a / 2 ^ k : Nat) : Int) := rfl
      have q4 : (b : Int).tdiv ((2 ^ k : Nat) : Int) = ((b / 2 ^ k : Nat) : Int) := rfl
      generalize V / 2 ^ k % 2 = vb at *
      generalize V % 2 ^ k = O at *
      generalize a / 2 ^ k = x at *
      generalize b / 2 ^ k = y at *
      have g1 : ((x : Int) % 2) = ((x % 2 : Nat) : Int) := rfl
      have g2 : ((y : Int) % 2) = ((y % 2 : Nat) : Int) := rfl
      have g3 : ((x : Int).tmod 2) = ((x % 2 : Nat) : Int) := rfl
      have g4 : ((y : Int).tmod 2) = ((y % 2 : Nat) : Int) := rfl
      generalize x % 2 = xb at *
      generalize y % 2 = yb at *
      have HG : Hid (∀ g, (2 : Nat) ^ k = g → V % 2 ^ (k + 1) = O + g * vb) := fun g e => by rw [HS.out, e]
      obtain ⟨g, hg⟩ : ∃ g, (2 : Nat) ^ k = g := ⟨_, rfl⟩
      have HE : Hid ((2 : Nat) ^ k = g) := hg
      rw [hg] at hp hm hp0 q1 q2 q3 q4 cp
      clear hg HS
      have z1 : ¬ (g : Int) = 0 := by omega
      have z2 : ¬ g = 0 := by omega
      have w1 : wrap64 (x : Int) = (x : Int) := by unfold wrap64; omega
      have w2 : wrap64 (y : Int) = (y : Int) := by unfold wrap64; omega
      have w3 : wrap64 ((O : Int) + (g : Int)) = (O : Int) + (g : Int) := by unfold wrap64; omega
      have w4 : IntKind.u32.wrap ((k : Int) + 1) = (k : Int) + 1 := by simp [IntKind.wrap, IntKind.signed, IntKind.bits]; omega
      have HX : Hid (vb = xb ||| yb) := HW
      clear HW hp hm hp0 la lb
      rcases ca with rfl | rfl <;> rcases cb with rfl | rfl
      all_goals (go_wp2_with (go_at_call 52; with_reducible refine (cp _).mono ?_; rintro e wq ⟨rfl, hq⟩; subst wq))
      all_goals (go_roundw
                 case rel => exact ⟨k + 1, by omega, by go_num, by first | (rw [HG.out g HE.out, HX.out]; simp; done) | (rw [w3, HG.out g HE.out, HX.out]; simp; done), hb0⟩
                 case measure => simp [intOf]; omega)
    · obtain rfl : k = 32 := by omega
      rw [Nat.mod_eq_of_lt hV]
      have hv : (V : Int) % 4294967296 = (V : Int) := by omega
      go_wp2
      go_ret
      exact ⟨rfl, hb0⟩
set_option maxRecDepth 100000 in
set_option maxHeartbeats 2000000 in
theorem rbits_xor (a b : Nat) (w : World) (ha : a < 4294967296) (hb : b < 4294967296) :
    Calls Tryz.prog 51 #[.int .u8 48, .int .u32 a, .int .u32 b] w fun e w' => e = .returned (.int .u32 ((a ^^^ b : Nat) : Int)) ∧ Below w.heap.size w w' := by
  have hV : a ^^^ b < 2 ^ 32 := Nat.xor_lt_two_pow (n := 32) ha hb
  have HV : Hid (∀ k, (a ^^^ b) / 2 ^ k % 2 = (a / 2 ^ k % 2) ^^^ (b / 2 ^ k % 2)) := fun k => (bit_at a b k).2.2
  obtain ⟨V, hVe⟩ : ∃ V, a ^^^ b = V := ⟨_, rfl⟩
  rw [hVe] at hV HV ⊢
  clear hVe
  go_enter Tryz.func51, Tryz.ntmps51
  go_wp2
  go_loopw [7, 8, 9, 10, 11] (fun out i _ _ _ wr => ∃ k : Nat, k ≤ 32 ∧ i = .int .u32 k ∧ out = .int .i64 ((V % 2 ^ k : Nat) : Int) ∧ Below w.heap.size w wr) (fun _ i _ _ _ _ => 32 - (intOf i).toNat)
  case atStart => exact ⟨0, by omega, rfl, by simp [Nat.mod_one], Below.refl _ _⟩
  case round =>
    obtain ⟨k, hk, rfl, rfl, hb0⟩ := hrel
    rename World => wr
    by_cases hlt : k < 32
    · have hI : (k : Int) < 32 := by omega
      have cp := fun w => rpow_any k w (by omega)
      have HS : Hid (V % 2 ^ (k + 1) = V % 2 ^ k + 2 ^ k * (V / 2 ^ k % 2)) := mod_bit V k
      have HW := HV.out k
      have ca := bit_cases a k
      have cb := bit_cases b k
      have hp : (2 : Nat) ^ k ≤ 2147483648 := Nat.pow_le_pow_right (by decide) (show k ≤ 31 by omega)
      have hm : V % 2 ^ k < 2 ^ k := Nat.mod_lt _ (Nat.two_pow_pos k)
      have hp0 := Nat.two_pow_pos k
      have la := Nat.div_le_self a (2 ^ k)
      have lb := Nat.div_le_self b (2 ^ k)
      have q1 : (a : Int) / ((2 ^ k : Nat) : Int) = ((a / 2 ^ k : Nat) : Int) := rfl
      have q2 : (b : Int) / ((2 ^ k : Nat) : Int) = ((b / 2 ^ k : Nat) : Int) := rfl
      have q3 : (a : Int).tdiv ((2 ^ k : Nat) : Int) = ((a / 2 ^ k : Nat) : Int) := rfl
      have q4 : (b : Int).tdiv ((2 ^ k : Nat) : Int) = ((b / 2 ^ k : Nat) : Int) := rfl
      generalize V / 2 ^ k % 2 = vb at *
      generalize V % 2 ^ k = O at *
      generalize a / 2 ^ k = x at *
      generalize b / 2 ^ k = y at *
      have g1 : ((x : Int) % 2) = ((x % 2 : Nat) : Int) := rfl
      have g2 : ((y : Int) % 2) = ((y % 2 : Nat) : Int) := rfl
      have g3 : ((x : Int).tmod 2) = ((x % 2 : Nat) : Int) := rfl
      have g4 : ((y : Int).tmod 2) = ((y % 2 : Nat) : Int) := rfl
      generalize x % 2 = xb at *
      generalize y % 2 = yb at *
      have HG : Hid (∀ g, (2 : Nat) ^ k = g → V % 2 ^ (k + 1) = O + g * vb) := fun g e => by rw [HS.out, e]
      obtain ⟨g, hg⟩ : ∃ g, (2 : Nat) ^ k = g := ⟨_, rfl⟩
      have HE : Hid ((2 : Nat) ^ k = g) := hg
      rw [hg] at hp hm hp0 q1 q2 q3 q4 cp
      clear hg HS
      have z1 : ¬ (g : Int) = 0 := by omega
      have z2 : ¬ g = 0 := by omega
      have w1 : wrap64 (x : Int) = (x : Int) := by unfold wrap64; omega
      have w2 : wrap64 (y : Int) = (y : Int) := by unfold wrap64; omega
      have w3 : wrap64 ((O : Int) + (g : Int)) = (O : Int) + (g : Int) := by unfold wrap64; omega
      have w4 : IntKind.u32.wrap ((k : Int) + 1) = (k : Int) + 1 := by simp [IntKind.wrap, IntKind.signed, IntKind.bits]; omega
      have HX : Hid (vb = xb ^^^ yb) := HW
      clear HW hp hm hp0 la lb
      rcases ca with rfl | rfl <;> rcases cb with rfl | rfl
      all_goals (go_wp2_with (go_at_call 52; with_reducible refine (cp _).mono ?_; rintro e wq ⟨rfl, hq⟩; subst wq))
      all_goals (go_roundw
                 case rel => exact ⟨k + 1, by omega, by go_num, by first | (rw [HG.out g HE.out, HX.out]; simp; done) | (rw [w3, HG.out g HE.out, HX.out]; simp; done), hb0⟩
                 case measure => simp [intOf]; omega)
    · obtain rfl : k = 32 := by omega
      rw [Nat.mod_eq_of_lt hV]
      have hv : (V : Int) % 4294967296 = (V : Int) := by omega
      go_wp2
      go_ret
      exact ⟨rfl, hb0⟩
end Go.Proofs.YtjggbdlmghembaaGreat
