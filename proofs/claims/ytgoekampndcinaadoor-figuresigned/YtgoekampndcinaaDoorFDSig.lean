import Derived.Test.YtgoekampndcinaaDoorFFmt
import Derived.Test.YtgoekampndcinaaDoorFDecm
namespace Go.Proofs.YtgoekampndcinaaDoor
open Go.RowKit
theorem itoa_pos (x : Nat) (h : x < 2147483648) : Lib.itoa (sgd x) = Lib.decDigits x := by
  unfold sgd Lib.itoa
  rw [if_pos h, if_neg (by omega)]; rfl
theorem itoa_neg (x : Nat) (h : ¬ x < 2147483648) (hx : x < 4294967296) : Lib.itoa (sgd x) = 45 :: Lib.decDigits (4294967296 - x) := by
  unfold sgd Lib.itoa
  rw [if_neg h, if_pos (by omega), show ((x : Int) - 4294967296).natAbs = 4294967296 - x by omega]
set_option maxRecDepth 100000 in
set_option maxHeartbeats 1000000 in
theorem dsigned_any (x : Nat) (w : World) (hx : x < 4294967296) :
    Calls Tryd.prog 6 #[.int .u32 x] w fun e w' => e = .returned (.string (str (Lib.itoa (sgd x)))) ∧ Below w.heap.size w w' := by
  by_cases h : x < 2147483648
  · rw [itoa_pos x h]
    have hd : decide ((2147483648 : Int) ≤ (x : Int)) = false := decide_eq_false (by omega)
    have hd2 : ¬ ((2147483648 : Int) ≤ (x : Int)) := by omega
    go_enter Tryd.func6, Tryd.ntmps6
    go_wp2_with (first
      | (go_at_call 13; refine (dnat_any x _ hx).mono ?_; rintro e w1 ⟨⟨v, rfl, hv⟩, hb1⟩)
      | (go_at_call 12; refine (decimal_any v x _ hx hv).mono ?_; rintro e w2 ⟨rfl, hb2⟩))
    go_ret
    exact ⟨rfl, hb1.trans (hb2.mono hb1.size)⟩
  · rw [itoa_neg x h hx]
    obtain ⟨y, hy⟩ : ∃ y, 4294967296 - x = y := ⟨_, rfl⟩
    have hy1 : y < 4294967296 := by omega
    have hyi : 4294967296 - (x : Int) = (y : Int) := by omega
    have hd2 : ((2147483648 : Int) ≤ (x : Int)) := by omega
    rw [hy]
    have hl := (dec_len y (by omega)).2
    have hsz : (str (Lib.decDigits y)).size ≤ 20 := by rw [str_size]; exact hl
    have HS : Hid ((⟨#[45]⟩ : ByteArray) ++ str (Lib.decDigits y) = str (45 :: Lib.decDigits y)) := str_append [45] _
    have HD : ∀ v w, AV w v y → Calls Tryd.prog 12 #[v] w fun e w' => e = .returned (.string (str (Lib.decDigits y))) ∧ Below w.heap.size w w' := fun v w hv => decimal_any v y w hy1 hv
    clear hl hy
    generalize str (Lib.decDigits y) = D at *
    go_enter Tryd.func6, Tryd.ntmps6
    go_wp2_with (first
      | (go_at_call 13; refine (dnat_any y _ hy1).mono ?_; rintro e w1 ⟨⟨v, rfl, hv⟩, hb1⟩)
      | (go_at_call 12; refine (HD v _ hv).mono ?_; rintro e w2 ⟨rfl, hb2⟩))
    go_ret
    exact ⟨by rw [← HS.out]; rfl, hb1.trans (hb2.mono hb1.size)⟩
def hx16 : ByteArray := ⟨#[48, 49, 50, 51, 52, 53, 54, 55, 56, 57, 97, 98, 99, 100, 101, 102]⟩
theorem hx_cut (d : Nat) (h : d < 16) : hx16.extract d (d + 1) = str [UInt8.ofNat (hexd d)] := by
  have : d = 0 ∨ d = 1 ∨ d = 2 ∨ d = 3 ∨ d = 4 ∨ d = 5 ∨ d = 6 ∨ d = 7 ∨ d = 8 ∨ d = 9 ∨ d = 10 ∨ d = 11 ∨ d = 12 ∨ d = 13 ∨ d = 14 ∨ d = 15 := by omega
  rcases this with rfl | rfl | rfl | rfl | rfl | rfl | rfl | rfl | rfl | rfl | rfl | rfl | rfl | rfl | rfl | rfl <;> rfl
theorem run_cut16 (d : Nat) (h : d < 16) (w : World) : (Instr.slice 9 (.string ⟨#[48, 49, 50, 51, 52, 53, 54, 55, 56, 57, 97, 98, 99, 100, 101, 102]⟩) (some (.int .u32 (d : Int))) (some (.int .u32 ((d : Int) + 1))) none).run Tryd.prog w = .ok (.string (str [UInt8.ofNat (hexd d)])) w := by
  rw [← hx_cut d h]
  show (Instr.slice 9 (.string hx16) _ _ none).run Tryd.prog w = _
  have e : hx16.size = 16 := rfl
  have e2 : ((d : Int) + 1).toNat = d + 1 := by omega
  have h1 : (0 : Int) ≤ (d : Int) + 1 := by omega
  have h2 : (d : Int) + 1 ≤ 16 := by omega
  have h3 : (d : Int) ≤ (d : Int) + 1 := by omega
  simp [Instr.slice, run_underlying Tryd.underlying9, Instr.sliceBounds, run_sliceBound, e, e2, h1, h2, h3]
theorem hk_up (i x : Nat) : str (byts (hk (i + 1) x)) = str [UInt8.ofNat (hexd (x / 16 ^ i % 16))] ++ str (byts (hk i x)) := by
  rw [str_append]
  have h := hk_split 1 i x
  rw [Nat.add_comm 1 i] at h
  rw [h, byts, List.map_append]
  rfl
set_option maxRecDepth 100000 in
set_option maxHeartbeats 1000000 in
theorem dhex_any (x : Nat) (w : World) (hx : x < 4294967296) :
    Calls Tryd.prog 8 #[.int .u32 x] w fun e w' => e = .returned (.string (str (48 :: 120 :: byts (hk 8 x)))) ∧ w' = w := by
  go_enter Tryd.func8, Tryd.ntmps8
  go_wp2
  go_loop [0, 3, 4] (fun xv sv iv => ∃ i : Nat, i ≤ 8 ∧ iv = .int .i64 i ∧ xv = .int .u32 ((x / 16 ^ i : Nat) : Int) ∧ sv = .string (str (byts (hk i x)))) (fun _ _ iv => 8 - (intOf iv).toNat)
  case atStart => exact ⟨0, by decide, rfl, by simp, rfl⟩
  case round =>
    obtain ⟨i, hi, rfl, rfl, rfl⟩ := hrel
    have hs1 : (str (byts (hk i x))).size = i := by rw [str_size, byts_len, hk_len]
    by_cases hlt : i < 8
    · have HU := hid_mk (hk_up i x)
      have hy : x / 16 ^ i < 4294967296 := Nat.lt_of_le_of_lt (Nat.div_le_self _ _) hx
      have HY : Hid (x / 16 ^ (i + 1) = x / 16 ^ i / 16) := by rw [Hid, Nat.pow_succ, Nat.div_div_eq_div_mul]
      obtain ⟨y, hy2⟩ : ∃ y, x / 16 ^ i = y := ⟨_, rfl⟩
      rw [hy2] at HU HY hy ⊢
      clear hy2
      obtain ⟨d, hd⟩ : ∃ d, y % 16 = d := ⟨_, rfl⟩
      have hd16 : d < 16 := by omega
      have hdi : (y : Int) % 16 = (d : Int) := by omega
      have hcut := fun w => run_cut16 d hd16 w
      rw [hd] at HU
      clear hd
      generalize str (byts (hk i x)) = S at *
      have hs2 : (str [UInt8.ofNat (hexd d)]).size = 1 := by rw [str_size]; rfl
      generalize str [UInt8.ofNat (hexd d)] = C at *
      go_wp2
      go_round
      case rel => exact ⟨i + 1, by omega, by go_num, by rw [HY.out]; rfl, by rw [HU.out]⟩
      case measure => simp [intOf]; omega
    · obtain rfl : i = 8 := by omega
      have HS : Hid ((⟨#[48, 120]⟩ : ByteArray) ++ str (byts (hk 8 x)) = str (48 :: 120 :: byts (hk 8 x))) := str_append [48, 120] _
      go_wp2
      go_ret
      exact ⟨by rw [← HS.out]; rfl, rfl⟩
set_option maxRecDepth 100000 in
set_option maxHeartbeats 1000000 in
theorem fsigned_any (x : Nat) (w : World) (hx : x < 4294967296) (ht : Tb w) :
    Calls Tryd.prog 3 #[.int .u32 x] w fun e w' => e = .returned (.bool true) ∧ Below w.heap.size w w' := by
  have c1 := fun w (ht : Tb w) => signed_any x w hx ht
  have c2 := fun w => dsigned_any x w hx
  have c3 := fun w (ht : Tb w) => hex_any x w hx ht
  have c4 := fun w => dhex_any x w hx
  generalize str (Lib.itoa (sgd x)) = A at c1 c2
  generalize str (48 :: 120 :: byts (hk 8 x)) = B at c3 c4
  have HB : Below w.heap.size w w := Below.refl _ _
  go_enter Tryd.func3, Tryd.ntmps3
  go_wp2_with (first
    | (go_at_call 5; refine (c1 _ ht).mono ?_; rintro e w1 ⟨rfl, hb1⟩; replace HB := HB.trans (hb1.mono HB.size); have ht := ht.below hb1)
    | (go_at_call 6; refine (c2 _).mono ?_; rintro e w2 ⟨rfl, hb2⟩; replace HB := HB.trans (hb2.mono HB.size); have ht := ht.below hb2)
    | (go_at_call 7; refine (c3 _ ht).mono ?_; rintro e w3 ⟨rfl, hb3⟩; replace HB := HB.trans (hb3.mono HB.size); have ht := ht.below hb3)
    | (go_at_call 8; refine (c4 _).mono ?_; rintro e wq ⟨rfl, hq⟩; subst wq))
  go_ret
  exact ⟨rfl, HB⟩
end Go.Proofs.YtgoekampndcinaaDoor
