import Derived.Test.YtfjnpmbkmoodnaaLNum
import Derived.Test.YtfjnpmbkmoodnaaLClone
import Derived.Laws.AppendOwn
import Derived.Laws.MakeOwn
import Derived.Lib.Tables
import Derived.Laws.CopyOwn
namespace Go.Proofs.Ytfjnpmbkmoodnaa
open Go.RowKit
set_option maxRecDepth 100000


set_option maxRecDepth 100000 in
theorem len64_u32 (W : World) : Calls Try.prog 27 #[.int .u64 4294967295] W fun e w' => e = .returned (.int .i64 32) ∧ w' = W := by
  have h := len_255
  go_enter Try.func27, Try.ntmps27
  go_wp2
  go_ret
  exact ⟨by first | rfl | simp [h], rfl⟩
theorem width_u32 (W : World) : Calls Try.prog 28 #[] W fun e w' => e = .returned (.int .i64 4) ∧ w' = W := by
  go_enter Try.func28, Try.ntmps28
  go_wp2_with (go_at_call 27; refine (len64_u32 _).mono ?_; rintro e wq ⟨rfl, hq⟩; subst wq)
  go_ret
  exact ⟨rfl, rfl⟩

set_option maxHeartbeats 400000 in
theorem holds_u32 (ao : Option Addr) (n cap : Nat) (at_ : Int) (W : World) (hn : n ≤ 140737488355328) (t0 : -9223372036854775808 ≤ at_) (t1 : at_ ≤ 9223372036854775807) :
    Calls Try.prog 25 #[.slice ao n cap, .int .i64 at_] W fun e w' => e = .returned (.bool (decide (0 ≤ at_ ∧ at_ + 4 ≤ n))) ∧ w' = W := by
  by_cases h0 : 0 ≤ at_
  · by_cases h1 : at_ + 4 ≤ n
    · have HD : Hid (decide (0 ≤ at_ ∧ at_ + 4 ≤ (n : Int)) = true) := by simpa [Hid] using ⟨h0, h1⟩
      have d2 : decide ((4 : Int) ≤ (n : Int) - at_) = true := by simp; omega
      go_enter Try.func25, Try.ntmps25
      go_wp2_with (go_at_call 28; refine (width_u32 _).mono ?_; rintro e wq ⟨rfl, hq⟩; subst wq)
      go_ret
      exact ⟨by first | rfl | (rw [HD.out]; first | rfl | simp), rfl⟩
    · have HD : Hid (decide (0 ≤ at_ ∧ at_ + 4 ≤ (n : Int)) = false) := by simp [Hid]; omega
      have d2 : decide ((4 : Int) ≤ (n : Int) - at_) = false := by simp; omega
      go_enter Try.func25, Try.ntmps25
      go_wp2_with (go_at_call 28; refine (width_u32 _).mono ?_; rintro e wq ⟨rfl, hq⟩; subst wq)
      go_ret
      exact ⟨by first | rfl | (rw [HD.out]; first | rfl | simp), rfl⟩
  · have HD : Hid (decide (0 ≤ at_ ∧ at_ + 4 ≤ (n : Int)) = false) := by simp [Hid]; omega
    have d1 : decide (0 ≤ at_) = false := by simp; omega
    go_enter Try.func25, Try.ntmps25
    go_wp2_with (go_at_call 28; refine (width_u32 _).mono ?_; rintro e wq ⟨rfl, hq⟩; subst wq)
    go_ret
    exact ⟨by first | rfl | (rw [HD.out]; first | rfl | simp), rfl⟩

set_option maxRecDepth 100000 in
theorem or_u32 (x c : Int) (s : Nat) (hs : s < 32) (x0 : 0 ≤ x) (x1 : x < 2 ^ s) (c0 : 0 ≤ c) (c1 : c ≤ 255) (hc : c * 2 ^ s < 4294967296) : bits .or .u32 x (c * 2 ^ s) = x + c * 2 ^ s := by
  obtain ⟨n, rfl⟩ := Int.eq_ofNat_of_zero_le x0
  obtain ⟨m, rfl⟩ := Int.eq_ofNat_of_zero_le c0
  have h1 : n < 2 ^ s := by exact_mod_cast x1
  have e1 : ((m * 2 ^ s : Nat) : Int) = (m : Int) * 2 ^ s := by push_cast; rfl
  have h2 : m * 2 ^ s < 4294967296 := by rw [← e1] at hc; omega
  have h3 : (2 : Nat) ^ s < 4294967296 := Nat.lt_of_lt_of_le (Nat.pow_lt_pow_right (by omega) hs) (by decide)
  have := u32_or_nat n (m * 2 ^ s) (by omega) h2
  rw [shl_or m n s h1] at this
  rw [← e1, this]
  push_cast
  rfl
set_option maxHeartbeats 1000000 in
theorem number_u32 (b off n cap : Nat) (zs : List Int) (W : World) (hz : zs.length = n) (hn : 4 ≤ n) (hn2 : n ≤ 140737488355328) (hwf : ∀ z ∈ zs, 0 ≤ z ∧ z ≤ 255) (hc : ∀ j, j < zs.length → W.cell? ⟨b, off + j, none⟩ = some (.int .u8 (zs.getD j 0))) :
    Calls Try.prog 26 #[.slice (some ⟨b, off, none⟩) n cap] W fun e w' => e = .returned (.int .u32 (num (zs.take 4))) ∧ w' = W := by
  subst hz
  go_enter Try.func26, Try.ntmps26
  go_wp2_with (go_at_call 28; refine (width_u32 _).mono ?_; rintro e wq ⟨rfl, hq⟩; subst wq)
  go_loop [3, 6] (fun x i => ∃ k : Nat, k ≤ 4 ∧ i = .int .i64 k ∧ x = .int .u32 (num (zs.take k)))
    (fun _ i => 4 - (intOf i).toNat)
  case atStart => exact ⟨0, Nat.zero_le _, rfl, rfl⟩
  case round =>
    obtain ⟨k, hk, rfl, rfl⟩ := hrel
    by_cases hlt : k < 4
    · have hck := hc k (by omega)
      have hcw := hwf _ (getD_mem (show k < zs.length by omega))
      have hts := take_snoc zs k (by omega)
      have hnr := num_range (zs.take k) (fun z hz => hwf z (List.mem_of_mem_take hz))
      have hl : (zs.take k).length = k := by simp; omega
      rw [hl] at hnr
      generalize zs.getD k 0 = c at hck hts hcw
      have HS : Hid (num (zs.take (k + 1)) = num (zs.take k) + 256 ^ k * c) := by rw [hts, num_snoc, hl]; exact rfl
      clear hts hl
      generalize num (zs.take k) = x at hnr HS
      obtain ⟨x0, x1⟩ := hnr
      obtain ⟨c0, c1⟩ := hcw
      have hkk : k = 0 ∨ k = 1 ∨ k = 2 ∨ k = 3 := by omega
      have hkz : k < zs.length := by omega
      clear hc hwf
      rcases hkk with rfl | hkk
      · have x1' : x < 1 := x1
        have ho := or_u32 x c 0 (by omega) x0 x1 c0 c1 (by omega)
        rw [show (2 : Int) ^ 0 = 1 from rfl] at ho
        rw [Int.mul_one] at ho; rw [Nat.add_zero] at hck
        go_wp2
        go_round
        case rel => exact ⟨0 + 1, by omega, by go_num, by rw [HS.out, Int.mul_comm, show (256 : Int) ^ 0 = 1 from rfl] ; rw [Int.mul_one]⟩
        case measure => simp [intOf]
      rcases hkk with rfl | hkk
      · have x1' : x < 256 := x1
        have ho := or_u32 x c 8 (by omega) x0 x1 c0 c1 (by omega)
        rw [show (2 : Int) ^ 8 = 256 from rfl] at ho
        clear x1
        go_wp2
        go_round
        case rel => exact ⟨1 + 1, by omega, by go_num, by rw [HS.out, Int.mul_comm, show (256 : Int) ^ 1 = 256 from rfl]⟩
        case measure => simp [intOf]
      rcases hkk with rfl | hkk
      · have x1' : x < 65536 := x1
        have ho := or_u32 x c 16 (by omega) x0 x1 c0 c1 (by omega)
        rw [show (2 : Int) ^ 16 = 65536 from rfl] at ho
        clear x1
        go_wp2
        go_round
        case rel => exact ⟨2 + 1, by omega, by go_num, by rw [HS.out, Int.mul_comm, show (256 : Int) ^ 2 = 65536 from rfl]⟩
        case measure => simp [intOf]
      subst hkk
      · have x1' : x < 16777216 := x1
        have ho := or_u32 x c 24 (by omega) x0 x1 c0 c1 (by omega)
        rw [show (2 : Int) ^ 24 = 16777216 from rfl] at ho
        clear x1
        go_wp2
        go_round
        case rel => exact ⟨3 + 1, by omega, by go_num, by rw [HS.out, Int.mul_comm, show (256 : Int) ^ 3 = 16777216 from rfl]⟩
        case measure => simp [intOf]
    · obtain rfl : k = 4 := by omega
      go_wp2
      go_ret
      exact ⟨rfl, rfl⟩

set_option maxHeartbeats 1000000 in
theorem at_u32 (ao : Option Addr) (cap : Nat) (zs : List Int) (at_ : Int) (W : World) (hn : zs.length ≤ 140737488355328) (hcp : zs.length ≤ cap) (hwf : ∀ z ∈ zs, 0 ≤ z ∧ z ≤ 255) (hr : Reads W ao zs W.heap.size) (t0 : -9223372036854775808 ≤ at_) (t1 : at_ ≤ 9223372036854775807) :
    Calls Try.prog 18 #[.slice ao zs.length cap, .int .i64 at_] W fun e w' => e = .returned (.tuple #[.int .u32 (atv 4 zs at_), .int .i64 (ate 4 zs.length at_)]) ∧ w' = W := by
  have hh := holds_u32 ao zs.length cap at_ W hn t0 t1
  by_cases h : 0 ≤ at_ ∧ at_ + 4 ≤ (zs.length : Int)
  · have HV : Hid (atv 4 zs at_ = num ((zs.drop at_.toNat).take 4) ∧ ate 4 zs.length at_ = 0) := by simp [atv, ate, h, Hid]
    rw [decide_eq_true h] at hh
    obtain ⟨h0, h1⟩ := h
    obtain ⟨b, off, rfl, hbl, hc⟩ := hr (by omega)
    obtain ⟨p, rfl⟩ := Int.eq_ofNat_of_zero_le h0
    have hcap : (p : Int) ≤ (zs.length : Int) := by omega
    have hpc : ¬ p = cap := by omega
    have hpc2 : ¬ cap = p := by omega
    have hd := number_u32 b (off + p) (zs.length - p) (cap - p) (zs.drop p) W (by simp) (by omega) (by omega) (fun z hz => hwf z (List.mem_of_mem_drop hz)) (fun j hj => by
      rw [List.length_drop] at hj
      have := hc (p + j) (by omega)
      rw [Nat.add_assoc, this]; simp [List.getD])
    clear hc hwf
    go_enter Try.func18, Try.ntmps18
    go_wp2_with (first | (go_at_call 25; refine hh.mono ?_; rintro e wq ⟨rfl, hq⟩; subst wq) | (go_at_call 26; with_reducible refine hd.mono ?_; rintro e wq ⟨rfl, hq⟩; subst wq))
    go_ret2
    exact ⟨by rw [HV.out.1, HV.out.2]; rfl, rfl⟩
  · have HV : Hid (atv 4 zs at_ = 0 ∧ ate 4 zs.length at_ = 20) := by simp [atv, ate, h, Hid]
    rw [decide_eq_false h] at hh
    clear h
    go_enter Try.func18, Try.ntmps18
    go_wp2_with (go_at_call 25; refine hh.mono ?_; rintro e wq ⟨rfl, hq⟩; subst wq)
    go_ret2
    exact ⟨by rw [HV.out.1, HV.out.2]; rfl, rfl⟩
end Go.Proofs.Ytfjnpmbkmoodnaa
