import Derived.Test.YtkoklkbjcfhmkaaRefCuts
import Derived.Test.YtkoklkbjcfhmkaaLines
namespace Go.Proofs.Ytkoklkbjcfhmkaa
open Go.RowKit

/-- where the line of a place begins -/
def bg (s : ByteArray) : Nat → Nat
  | 0 => 0
  | k + 1 => if bt s k = 10 then k + 1 else bg s k
theorem bg_le (s : ByteArray) (k : Nat) : bg s k ≤ k := by
  induction k with
  | zero => simp [bg]
  | succ k ih => rw [bg]; split <;> omega
def inR {s : ByteArray} (a p : Nat) (x : Cut s) : Bool := decide (a ≤ x.1.1) && decide (x.1.1 < p)

theorem own_shape {w : World} {B e n : Nat} {v : Value} {xs : List Value} (h : w.ownsRow B e 1 v n xs) : ∃ ao cap, v = .slice ao n cap ∧ ∀ j u, xs[j]? = some u → ∃ g, ao = some ⟨g, 0, none⟩ ∧ w.cell? ⟨g, j, none⟩ = some u := by
  have hl := h.1
  rcases h.2 with ⟨rfl, rfl⟩ | ⟨g, cap, cur, rfl, hB, hh, _⟩
  · refine ⟨none, 0, rfl, fun j u hj => ?_⟩
    have : xs = [] := List.eq_nil_of_length_eq_zero (by omega)
    subst this
    simp at hj
  · refine ⟨some ⟨g, 0, none⟩, cap, rfl, fun j u hj => ⟨g, rfl, ?_⟩⟩
    have := h.cells (g := g) rfl j u hj
    have hadd : (⟨g, 0, none⟩ : Addr).add j = ⟨g, j, none⟩ := by unfold Addr.add; split <;> simp_all
    rwa [hadd] at this

theorem pl_get {s : ByteArray} (l : List (Cut s)) (m : Nat) (h : m < l.length) : (pl l)[m]? = some (.int .i64 ((l[m]'h).1.1 : Int)) := by
  simp [pl, List.getElem?_eq_getElem h]
theorem take_succ' {s : ByteArray} (l : List (Cut s)) (m : Nat) (h : m < l.length) : l.take (m + 1) = l.take m ++ [l[m]] := List.take_succ_eq_append_getElem h

theorem ret_three {k l j : IntKind} {a b c d e f : Int} (h : a = d) (h' : b = e) (h'' : c = f) : Ending.returned (.tuple #[.int k a, .int l b, .int j c]) = .returned (.tuple #[.int k d, .int l e, .int j f]) := by rw [h, h', h'']

theorem cutsFrom_len (s : ByteArray) : ∀ f pos, (cutsFrom s f pos).length ≤ f
  | 0, _ => by simp [cutsFrom]
  | f + 1, pos => by
    by_cases h : pos < s.size
    · rw [cutsFrom_step s f pos h, List.length_cons]
      have := cutsFrom_len s f (pos + wid s pos)
      omega
    · rw [cutsFrom_end s _ pos h]; simp

set_option maxRecDepth 100000 in
set_option maxHeartbeats 2000000 in
theorem rwhere_any (s : ByteArray) (p : Nat) (w : World) (hs : s.size ≤ 1048576) (hp : p ≤ s.size) :
    Calls Try.prog 10 #[.string s, .int .i64 p] w fun e w' => e = .returned (.tuple #[.int .i64 ((nl s p : Int) + 1), .int .i64 (((cuts s).countP (inR (bg s p) p) : Int) + 1), .int .i64 0]) ∧ Below w.heap.size w w' := by
  have hd0 : decide ((p : Int) < 0) = false := by simp
  have hd1 : decide (s.size < p) = false := by simp; exact hp
  have hcl : (cuts s).length ≤ s.size := cutsFrom_len s s.size 0
  go_enter Try.func10, Try.ntmps10
  go_wp2
  go_loop [7, 8, 9] (fun n b i => ∃ k : Nat, k ≤ p ∧ i = .int .i64 k ∧ n = .int .i64 ((nl s k : Int) + 1) ∧ b = .int .i64 (bg s k)) (fun _ _ i => p - (intOf i).toNat)
  case atStart => exact ⟨0, Nat.zero_le _, rfl, rfl, rfl⟩
  case round =>
    obtain ⟨k, hk, rfl, rfl, rfl⟩ := hrel
    have hnk := nl_le s k
    by_cases hlt : k < p
    · have hks : k < s.size := by omega
      have hksI : (k : Int) < (s.size : Int) := by omega
      have HN : Hid (nl s (k + 1) = nl s k + if bt s k = 10 then 1 else 0) := rfl
      have HG : Hid (bg s (k + 1) = if bt s k = 10 then k + 1 else bg s k) := rfl
      have hbe := bt_eq s k hks
      by_cases h10 : bt s k = 10
      · have ht : (((s[k]'hks).toNat : Int) == 10) = true := by rw [beq_iff_eq]; omega
        have HN2 : Hid (nl s (k + 1) = nl s k + 1) := by have := HN.out; rw [if_pos h10] at this; exact this
        have HG2 : Hid (bg s (k + 1) = k + 1) := by have := HG.out; rw [if_pos h10] at this; exact this
        clear HN HG h10 hbe
        go_wp2
        go_round
        case rel => exact ⟨k + 1, by omega, by go_num, by rw [HN2.out]; go_num, by rw [HG2.out]; go_num⟩
        case measure => simp [intOf]; omega
      · have ht : (((s[k]'hks).toNat : Int) == 10) = false := by rw [beq_eq_false_iff_ne]; omega
        have HN2 : Hid (nl s (k + 1) = nl s k) := by have := HN.out; rw [if_neg h10] at this; exact this
        have HG2 : Hid (bg s (k + 1) = bg s k) := by have := HG.out; rw [if_neg h10] at this; exact this
        clear HN HG h10 hbe
        go_wp2
        go_round
        case rel => exact ⟨k + 1, by omega, by go_num, by rw [HN2.out], by rw [HG2.out]⟩
        case measure => simp [intOf]; omega
    · obtain rfl : k = p := by omega
      go_wp2_with fail
      refine (cuts_any s _ hs).mono ?_
      rintro e w1 ⟨v1, v2, rfl, own1, _, hb⟩
      obtain ⟨ao, cp, rfl, hcell⟩ := own_shape own1
      have HC : Hid (∀ j u, (pl (cuts s))[j]? = some u → ∃ g, ao = some ⟨g, 0, none⟩ ∧ w1.cell? ⟨g, j, none⟩ = some u) := hcell
      clear hcell own1
      generalize hl : cuts s = cs at *
      go_wp2_with fail
      go_loop [10, 13] (fun c i => ∃ m : Nat, m ≤ cs.length ∧ i = .int .i64 m ∧ c = .int .i64 (((cs.take m).countP (inR (bg s k) k) : Int) + 1)) (fun _ i => cs.length - (intOf i).toNat)
      case atStart => exact ⟨0, Nat.zero_le _, rfl, rfl⟩
      case round =>
        obtain ⟨m, hm, rfl, rfl⟩ := hrel
        have hcnt : (cs.take m).countP (inR (bg s k) k) ≤ m := Nat.le_trans List.countP_le_length (List.length_take_le _ _)
        by_cases hml : m < cs.length
        · obtain ⟨g, rfl, hc⟩ := HC.out m _ (pl_get cs m hml)
          have HT : Hid ((cs.take (m + 1)).countP (inR (bg s k) k) = (cs.take m).countP (inR (bg s k) k) + if inR (bg s k) k (cs[m]'hml) = true then 1 else 0) := by
            rw [Hid, take_succ' cs m hml, List.countP_append]; simp [List.countP_cons]
          have hmlI : (m : Int) < (cs.length : Int) := by omega
          obtain ⟨x, hx⟩ : ∃ x, (cs[m]'hml).1.1 = x := ⟨_, rfl⟩
          rw [hx] at hc
          have HI : Hid (inR (bg s k) k (cs[m]'hml) = (decide (bg s k ≤ x) && decide (x < k))) := by rw [Hid, ← hx]; rfl
          have hbk := bg_le s k
          generalize (cs.take m).countP (inR (bg s k) k) = n0 at *
          by_cases g1 : bg s k ≤ x
          · by_cases g2 : x < k
            · have g1I : (bg s k : Int) ≤ (x : Int) := by omega
              have g2I : (x : Int) < (k : Int) := by omega
              go_wp2
              go_round
              case rel => exact ⟨m + 1, by omega, by go_num, by rw [HT.out, HI.out, if_pos (by simp [g1, g2])]; go_num⟩
              case measure => simp [intOf]; omega
            · have g1I : (bg s k : Int) ≤ (x : Int) := by omega
              have g2I : (k : Int) ≤ (x : Int) := by omega
              go_wp2
              go_round
              case rel => exact ⟨m + 1, by omega, by go_num, by rw [HT.out, HI.out, if_neg (by simp [g2])]; go_num⟩
              case measure => simp [intOf]; omega
          · have g1I : (x : Int) < (bg s k : Int) := by omega
            go_wp2
            go_round
            case rel => exact ⟨m + 1, by omega, by go_num, by rw [HT.out, HI.out, if_neg (by simp [g1])]; go_num⟩
            case measure => simp [intOf]; omega
        · have HT : Hid (cs.take m = cs) := List.take_of_length_le (by omega)
          go_wp2
          go_ret3
          refine ⟨?_, hb⟩
          rw [HT.out]; rfl

set_option maxRecDepth 100000 in
set_option maxHeartbeats 1000000 in
theorem rwhere_bad (s : ByteArray) (x : Int) (w : World) (h : x < 0 ∨ (s.size : Int) < x) :
    Calls Try.prog 10 #[.string s, .int .i64 x] w fun e w' => e = .returned (.tuple #[.int .i64 0, .int .i64 0, .int .i64 16]) ∧ w' = w := by
  by_cases h0 : x < 0
  · clear h
    go_enter Try.func10, Try.ntmps10
    go_wp2
    go_ret3
    exact ⟨rfl, rfl⟩
  · have h1 : (s.size : Int) < x := by omega
    have h2 : 0 ≤ x := by omega
    clear h
    go_enter Try.func10, Try.ntmps10
    go_wp2
    go_ret3
    exact ⟨rfl, rfl⟩

set_option maxRecDepth 100000 in
set_option maxHeartbeats 1000000 in
theorem where_bad (s : ByteArray) (x : Int) (w : World) (h : x < 0 ∨ (s.size : Int) < x) :
    Calls Try.prog 9 #[.string s, .int .i64 x] w fun e w' => e = .returned (.tuple #[.int .i64 0, .int .i64 0, .int .i64 16]) ∧ Below w.heap.size w w' := by
  by_cases h0 : x < 0
  · clear h
    go_enter Try.func9, Try.ntmps9
    go_wp2
    go_ret3
    exact ⟨rfl, (Below.refl _ _).alloc (Nat.le_refl _) _⟩
  · have h1 : (s.size : Int) < x := by omega
    have h2 : 0 ≤ x := by omega
    clear h
    go_enter Try.func9, Try.ntmps9
    go_wp2
    go_ret3
    exact ⟨rfl, (Below.refl _ _).alloc (Nat.le_refl _) _⟩
end Go.Proofs.Ytkoklkbjcfhmkaa
