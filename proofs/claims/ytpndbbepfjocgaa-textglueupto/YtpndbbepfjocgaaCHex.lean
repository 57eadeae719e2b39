import Derived.Test.YtpndbbepfjocgaaDec
import Derived.Lib.ConvBytes
import Derived.Deep.Draws
import Derived.Lib.Strings
namespace Go.Proofs.Ytpndbbepfjocgaa
open Go.RowKit

/-- the number of a hexadecimal digit, below 0: it is none -/
def hexv (c : Int) : Int := if 48 ≤ c ∧ c ≤ 57 then c - 48 else if 97 ≤ c ∧ c ≤ 102 then c - 87 else if 65 ≤ c ∧ c ≤ 70 then c - 55 else -1
def hexR (c : Int) : Int := if hexv c < 0 then 0 else hexv c
def hexOk (c : Int) : Bool := decide (0 ≤ hexv c)
theorem hexv_range (c : Int) : -1 ≤ hexv c ∧ hexv c ≤ 15 := by
  unfold hexv
  repeat' split
  all_goals omega
theorem ret_i {k : IntKind} {a b : Int} (h : a = b) : Ending.returned (.int k a) = .returned (.int k b) := by rw [h]
theorem ret_ib {k : IntKind} {a b : Int} {x y : Bool} (h : a = b) (h' : x = y) : Ending.returned (.tuple #[.int k a, .bool x]) = .returned (.tuple #[.int k b, .bool y]) := by rw [h, h']

theorem hexv_cases (c : Int) : (48 ≤ c ∧ c ≤ 57 ∧ hexv c = c - 48) ∨ (97 ≤ c ∧ c ≤ 102 ∧ hexv c = c - 87) ∨ (65 ≤ c ∧ c ≤ 70 ∧ hexv c = c - 55) ∨ ((c < 48 ∨ (57 < c ∧ c < 65) ∨ (70 < c ∧ c < 97) ∨ 102 < c) ∧ hexv c = -1) := by
  unfold hexv
  repeat' split
  all_goals omega

set_option maxHeartbeats 2000000 in
theorem hexdigit_any (c : Int) (w : World) (h0 : 0 ≤ c) (h1 : c ≤ 255) :
    Calls Try.prog 69 #[.int .u8 c] w fun e w' => e = .returned (.tuple #[.int .i32 (hexR c), .bool (hexOk c)]) ∧ w' = w := by
  rcases hexv_cases c with ⟨a, b, hv⟩ | ⟨a, b, hv⟩ | ⟨a, b, hv⟩ | ⟨hlt, hv⟩
  · have HR : Hid (hexR c = c - 48) := by rw [Hid, hexR, hv, if_neg (by omega)]
    have HO : Hid (hexOk c = true) := by rw [Hid, hexOk, hv]; simp; omega
    clear hv
    go_enter Try.func69, Try.ntmps69
    go_wp2
    go_ret2
    exact ⟨ret_ib (by rw [HR.out]) (by rw [HO.out]), rfl⟩
  · have HR : Hid (hexR c = c - 97 + 10) := by rw [Hid, hexR, hv, if_neg (by omega)]; omega
    have HO : Hid (hexOk c = true) := by rw [Hid, hexOk, hv]; simp; omega
    clear hv
    go_enter Try.func69, Try.ntmps69
    go_wp2
    go_ret2
    exact ⟨ret_ib (by rw [HR.out]) (by rw [HO.out]), rfl⟩
  · have HR : Hid (hexR c = c - 65 + 10) := by rw [Hid, hexR, hv, if_neg (by omega)]; omega
    have HO : Hid (hexOk c = true) := by rw [Hid, hexOk, hv]; simp; omega
    clear hv
    go_enter Try.func69, Try.ntmps69
    go_wp2
    go_ret2
    exact ⟨ret_ib (by rw [HR.out]) (by rw [HO.out]), rfl⟩
  · have HR : Hid (hexR c = 0) := by rw [Hid, hexR, hv]; rfl
    have HO : Hid (hexOk c = false) := by rw [Hid, hexOk, hv]; rfl
    clear hv
    rcases hlt with h | ⟨h, h'⟩ | ⟨h, h'⟩ | h
    all_goals
      go_enter Try.func69, Try.ntmps69
      go_wp2
      go_ret2
      exact ⟨ret_ib (by rw [HR.out]) (by rw [HO.out]), rfl⟩

set_option maxHeartbeats 2000000 in
theorem rhexdigit_any (c : Int) (w : World) (h0 : 0 ≤ c) (h1 : c ≤ 255) :
    Calls Try.prog 68 #[.int .u8 c] w fun e w' => e = .returned (.int .i32 (hexv c)) ∧ w' = w := by
  rcases hexv_cases c with ⟨a, b, hv⟩ | ⟨a, b, hv⟩ | ⟨a, b, hv⟩ | ⟨hlt, hv⟩
  · have HV : Hid (hexv c = c - 48) := hv
    clear hv
    go_enter Try.func68, Try.ntmps68
    go_wp2
    go_ret
    exact ⟨ret_i (by rw [HV.out]), rfl⟩
  · have HV : Hid (hexv c = c - 87) := hv
    clear hv
    go_enter Try.func68, Try.ntmps68
    go_wp2
    go_ret
    exact ⟨ret_i (by rw [HV.out]), rfl⟩
  · have HV : Hid (hexv c = c - 55) := hv
    clear hv
    go_enter Try.func68, Try.ntmps68
    go_wp2
    go_ret
    exact ⟨ret_i (by rw [HV.out]), rfl⟩
  · have HV : Hid (hexv c = -1) := hv
    clear hv
    rcases hlt with h | ⟨h, h'⟩ | ⟨h, h'⟩ | h
    all_goals
      go_enter Try.func68, Try.ntmps68
      go_wp2
      go_ret
      exact ⟨ret_i (by rw [HV.out]), rfl⟩

/-- the number of the first digits from a place on -/
def hx (s : ByteArray) (i : Nat) : Nat → Int
  | 0 => 0
  | k + 1 => hx s i k * 16 + hexv (bt s (i + k))
/-- the number of n hexadecimal digits from a place on, -1: they are not there -/
def hexesAt (s : ByteArray) (i n : Nat) : Int := if i + n ≤ s.size ∧ (∀ j, j < n → 0 ≤ hexv (bt s (i + j))) then hx s i n else -1
theorem hx_range (s : ByteArray) (i : Nat) : ∀ k, k ≤ 4 → (∀ j, j < k → 0 ≤ hexv (bt s (i + j))) → 0 ≤ hx s i k ∧ hx s i k ≤ 65535 ∧ (k ≤ 3 → hx s i k ≤ 4095) ∧ (k ≤ 2 → hx s i k ≤ 255) := by
  intro k hk h
  have g : ∀ j, j < k → 0 ≤ hexv (bt s (i + j)) ∧ hexv (bt s (i + j)) ≤ 15 := fun j hj => ⟨h j hj, (hexv_range _).2⟩
  match k, hk with
  | 0, _ => simp only [hx]; omega
  | 1, _ => have := g 0 (by omega); simp only [hx]; omega
  | 2, _ => have := g 0 (by omega); have := g 1 (by omega); simp only [hx]; omega
  | 3, _ => have := g 0 (by omega); have := g 1 (by omega); have := g 2 (by omega); simp only [hx]; omega
  | 4, _ => have := g 0 (by omega); have := g 1 (by omega); have := g 2 (by omega); have := g 3 (by omega); simp only [hx]; omega

set_option maxRecDepth 100000 in
set_option maxHeartbeats 2000000 in
theorem hexes_any (s : ByteArray) (i n : Nat) (w : World) (hs : s.size ≤ 140737488355328) (hi : i ≤ 140737488355330) (hn : n ≤ 4) :
    Calls Try.prog 64 #[.string s, .int .i64 i, .int .i64 n] w fun e w' => e = .returned (.int .i32 (hexesAt s i n)) ∧ w' = w := by
  by_cases hsz : i + n ≤ s.size
  · have hszI : (i : Int) + (n : Int) ≤ (s.size : Int) := by omega
    have d0 : decide ((s.size : Int) < (i : Int) + (n : Int)) = false := by simp; omega
    have d1 : decide (s.size < i + n) = false := by simp; omega
    go_enter Try.func64, Try.ntmps64
    go_wp2
    go_loop [7, 8, 9] (fun x k _ => ∃ m : Nat, m ≤ n ∧ k = .int .i64 m ∧ x = .int .i32 (hx s i m) ∧ Hid (∀ j, j < m → 0 ≤ hexv (bt s (i + j)))) (fun _ k _ => n - (intOf k).toNat)
    case atStart => exact ⟨0, Nat.zero_le _, rfl, rfl, fun j hj => by omega⟩
    case round =>
      obtain ⟨m, hm, rfl, rfl, HM⟩ := hrel
      obtain ⟨r0, r1, r2, r3⟩ := hx_range s i m (by omega) HM.out
      by_cases hlt : m < n
      · have r4 := r2 (by omega)
        clear r1 r2 r3
        have him : i + m < s.size := by omega
        have himI : (i : Int) + (m : Int) < (s.size : Int) := by omega
        have hye := bt_eq s (i + m) him
        have hyl := bt_lt s (i + m)
        obtain ⟨y, hy⟩ : ∃ y, y = bt s (i + m) := ⟨_, rfl⟩
        have HY : Hid (y = bt s (i + m)) := hy
        rw [← hy] at hye hyl
        have hsy : (s[i + m]'him).toNat = y := hye.symm
        clear hye hy
        have hvr := hexv_range (y : Int)
        obtain ⟨v, hv⟩ : ∃ v, v = hexv (y : Int) := ⟨_, rfl⟩
        have HV : Hid (v = hexv (y : Int)) := hv
        rw [← hv] at hvr
        obtain ⟨v0, v1⟩ := hvr
        clear hv
        have HX : Hid (hx s i (m + 1) = hx s i m * 16 + v) := by
          rw [Hid, HV.out, HY.out]; rfl
        generalize hx s i m = a at *
        by_cases hneg : v < 0
        · go_wp2_with (go_at_call 68; refine (rhexdigit_any _ _ (by omega) (by omega)).mono ?_; rintro e w' ⟨rfl, hw'⟩; rw [← HV.out]; subst hw')
          go_ret
          refine ⟨?_, rfl⟩
          rw [hexesAt, if_neg (fun h => by
            have := h.2 m hlt
            rw [← HY.out, ← HV.out] at this
            omega)]; rfl
        · have hnn : 0 ≤ v := by omega
          go_wp2_with (go_at_call 68; refine (rhexdigit_any _ _ (by omega) (by omega)).mono ?_; rintro e w' ⟨rfl, hw'⟩; rw [← HV.out]; subst hw')
          go_round
          case rel =>
            refine ⟨m + 1, by omega, by go_num, by rw [HX.out], fun j hj => ?_⟩
            by_cases e : j = m
            · subst e; rw [← HY.out, ← HV.out]; exact hnn
            · exact HM.out j (by omega)
          case measure => simp [intOf]; omega
      · obtain rfl : m = n := by omega
        go_wp2
        go_ret
        refine ⟨?_, rfl⟩
        rw [hexesAt, if_pos ⟨hsz, HM.out⟩]; rfl
  · have hszI : (s.size : Int) < (i : Int) + (n : Int) := by omega
    go_enter Try.func64, Try.ntmps64
    go_wp2
    go_ret
    refine ⟨?_, rfl⟩
    rw [hexesAt, if_neg (fun h => hsz h.1)]; rfl
end Go.Proofs.Ytpndbbepfjocgaa
namespace Go.Proofs.Ytpndbbepfjocgaa
open Go.RowKit

def numV (t : ByteArray) (n : Nat) : Int := if 0 ≤ hexesAt t 0 n then hexesAt t 0 n else 0
def numOk (t : ByteArray) (n : Nat) : Bool := decide (0 ≤ hexesAt t 0 n)
theorem num_no {t : ByteArray} {n : Nat} (h : ¬ (0 + n ≤ t.size ∧ (∀ j, j < n → 0 ≤ hexv (bt t (0 + j))))) : numV t n = 0 ∧ numOk t n = false := by
  unfold numV numOk hexesAt
  rw [if_neg h]; exact ⟨rfl, rfl⟩
theorem num_yes {t : ByteArray} {n : Nat} (hn : n ≤ 4) (h1 : 0 + n ≤ t.size) (h2 : ∀ j, j < n → 0 ≤ hexv (bt t (0 + j))) : numV t n = hx t 0 n ∧ numOk t n = true := by
  have := (hx_range t 0 n hn h2).1
  have e : hexesAt t 0 n = hx t 0 n := by rw [hexesAt, if_pos ⟨h1, h2⟩]
  rw [numV, numOk, e, if_pos this]
  exact ⟨rfl, by simpa using this⟩

theorem bw_below (w : World) (s : ByteArray) : Below w.heap.size w (Lib.bytesWorld w 5 s) :=
  ⟨rfl, rfl, rfl, by rw [Lib.bytesWorld_size]; omega, fun k hk => Lib.bytesWorld_at_old w 5 s k hk⟩

set_option maxRecDepth 100000 in
set_option maxHeartbeats 2000000 in
theorem hexnum_any (t : ByteArray) (n : Nat) (w : World) (_ : t.size ≤ 140737488355328) (hn : n ≤ 4) :
    Calls Try.prog 66 #[.string t, .int .i64 n] w fun e w' => e = .returned (.tuple #[.int .i32 (numV t n), .bool (numOk t n)]) ∧ Below w.heap.size w w' := by
  by_cases hsz : n ≤ t.size
  · have hszI : (n : Int) ≤ (t.size : Int) := by omega
    have d0 : decide ((t.size : Int) < (n : Int)) = false := by simp; omega
    have d1 : decide (t.size < n) = false := by simp; omega
    obtain ⟨u, hu⟩ : ∃ u, t.extract 0 n = u := ⟨_, rfl⟩
    have hul : u.data.toList = t.data.toList.take n := by rw [← hu, Lib.extract_data]; simp
    have husz : u.size = n := by
      have := congrArg List.length hul
      have e1 : u.data.toList.length = u.size := by rw [Array.length_toList]; rfl
      have e2 : t.data.toList.length = t.size := by rw [Array.length_toList]; rfl
      rw [List.length_take] at this
      omega
    have hcv : ∀ W : World, (convert 9 35 (.string u)).run Try.prog W = .ok (.slice (some ⟨W.heap.size, 0, none⟩) n (grownCap W u.size 0 5)) (Lib.bytesWorld W 5 u) := fun W => by
      rw [Lib.run_convert_string_bytes W 9 35 5 u Try.underlying9 Try.underlying35 Try.underlying5, husz]
    have HU : Hid (u.data.toList = t.data.toList.take n) := hul
    have HZ : Hid (u.size = n) := husz
    have hcell : ∀ W : World, ∀ j, j < n → (Lib.bytesWorld W 5 u).cell? ⟨W.heap.size, j, none⟩ = some (.int .u8 (bt t j)) := by
      intro W j hj
      rw [Lib.bytesWorld_cell W 5 u j (by omega)]
      rw [HU.out]
      have hlt : j < t.data.toList.length := by
        have e2 : t.data.toList.length = t.size := by rw [Array.length_toList]; rfl
        omega
      have : (t.data.toList.take n).getD j 0 = t.data.toList[j] := by simp [List.getD, hj, List.getElem?_eq_getElem hlt]
      rw [this, bt_eq t j (by omega)]; rfl
    have HC : Hid (∀ W : World, ∀ j, j < n → (Lib.bytesWorld W 5 u).cell? ⟨W.heap.size, j, none⟩ = some (.int .u8 (bt t j))) := hcell
    have hb := bw_below w u
    clear hul husz hcell
    go_enter Try.func66, Try.ntmps66
    go_wp2
    go_loop [6, 20] (fun x k => ∃ m : Nat, m ≤ n ∧ k = .int .i64 m ∧ x = .int .i32 (hx t 0 m) ∧ Hid (∀ j, j < m → 0 ≤ hexv (bt t (0 + j)))) (fun _ k => n - (intOf k).toNat)
    case atStart => exact ⟨0, Nat.zero_le _, rfl, rfl, fun j hj => by omega⟩
    case round =>
      obtain ⟨m, hm, rfl, rfl, HM⟩ := hrel
      obtain ⟨r0, r1, r2, r3⟩ := hx_range t 0 m (by omega) HM.out
      by_cases hlt : m < n
      · have r4 := r2 (by omega)
        clear r1 r2 r3
        have hcm := HC.out w m hlt
        have hyl := bt_lt t m
        obtain ⟨y, hy⟩ : ∃ y, y = bt t m := ⟨_, rfl⟩
        have HY : Hid (y = bt t (0 + m)) := by rw [Nat.zero_add]; exact hy
        rw [← hy] at hcm hyl
        clear hy
        have hvr := hexv_range (y : Int)
        obtain ⟨v, hv⟩ : ∃ v, v = hexv (y : Int) := ⟨_, rfl⟩
        have HV : Hid (v = hexv (y : Int)) := hv
        rw [← hv] at hvr
        obtain ⟨v0, v1⟩ := hvr
        have HX : Hid (hx t 0 (m + 1) = hx t 0 m * 16 + v) := by
          rw [Hid, HV.out, HY.out]; rfl
        generalize hx t 0 m = a at *
        by_cases hneg : v < 0
        · have hR : hexR (y : Int) = 0 := by rw [hexR, ← hv, if_pos hneg]
          have hO : hexOk (y : Int) = false := by rw [hexOk, ← hv]; simpa using hneg
          clear hv
          go_wp2_with (go_at_call 69; refine (hexdigit_any _ _ (by omega) (by omega)).mono ?_; rintro e w' ⟨rfl, hw'⟩; rw [hR, hO]; subst hw')
          go_ret2
          obtain ⟨q1, q2⟩ := num_no (t := t) (n := n) (fun h => by
            have := h.2 m hlt
            rw [← HY.out, ← HV.out] at this
            omega)
          exact ⟨ret_ib (by rw [q1]) (by rw [q2]), hb⟩
        · have hnn : 0 ≤ v := by omega
          have hR : hexR (y : Int) = v := by rw [hexR, ← hv, if_neg hneg]
          have hO : hexOk (y : Int) = true := by rw [hexOk, ← hv]; simpa using hnn
          clear hv
          go_wp2_with (go_at_call 69; refine (hexdigit_any _ _ (by omega) (by omega)).mono ?_; rintro e w' ⟨rfl, hw'⟩; rw [hR, hO]; subst hw')
          go_round
          case rel =>
            refine ⟨m + 1, by omega, by go_num, by rw [HX.out], fun j hj => ?_⟩
            by_cases e : j = m
            · subst e; rw [← HY.out, ← HV.out]; exact hnn
            · exact HM.out j (by omega)
          case measure => simp [intOf]; omega
      · obtain rfl : m = n := by omega
        go_wp2
        go_ret2
        obtain ⟨q1, q2⟩ := num_yes (t := t) (n := m) hn (by omega) HM.out
        exact ⟨ret_ib (by rw [q1]) (by rw [q2]), hb⟩
  · have hszI : (t.size : Int) < (n : Int) := by omega
    go_enter Try.func66, Try.ntmps66
    go_wp2
    go_ret2
    obtain ⟨q1, q2⟩ := num_no (t := t) (n := n) (fun h => by omega)
    exact ⟨ret_ib (by rw [q1]) (by rw [q2]), Below.refl _ _⟩
end Go.Proofs.Ytpndbbepfjocgaa
