import Derived.Test.YtnplimdcfbgpeaaDoorCLBase
import Derived.Laws.AppendOwn
import Derived.Laws.MakeOwn
import Derived.Lib.Tables
import Derived.Laws.CopyOwn
namespace Go.Proofs.YtnplimdcfbgpeaaDoor
open Go.RowKit
set_option maxRecDepth 100000


set_option maxRecDepth 100000 in
theorem len64_u8 (W : World) : Calls Tryd.prog 62 #[.int .u64 255] W fun e w' => e = .returned (.int .i64 8) ∧ w' = W := by
  have h := len_255
  go_enter Tryd.func62, Tryd.ntmps62
  go_wp2
  go_ret
  exact ⟨by first | rfl | simp [h], rfl⟩
theorem width_u8 (W : World) : Calls Tryd.prog 74 #[] W fun e w' => e = .returned (.int .i64 1) ∧ w' = W := by
  go_enter Tryd.func74, Tryd.ntmps74
  go_wp2_with (go_at_call 62; refine (len64_u8 _).mono ?_; rintro e wq ⟨rfl, hq⟩; subst wq)
  go_ret
  exact ⟨rfl, rfl⟩

set_option maxHeartbeats 400000 in
theorem holds_u8 (ao : Option Addr) (n cap : Nat) (at_ : Int) (W : World) (hn : n ≤ 140737488355328) (t0 : -9223372036854775808 ≤ at_) (t1 : at_ ≤ 9223372036854775807) :
    Calls Tryd.prog 81 #[.slice ao n cap, .int .i64 at_] W fun e w' => e = .returned (.bool (decide (0 ≤ at_ ∧ at_ + 1 ≤ n))) ∧ w' = W := by
  by_cases h0 : 0 ≤ at_
  · by_cases h1 : at_ + 1 ≤ n
    · have HD : Hid (decide (0 ≤ at_ ∧ at_ + 1 ≤ (n : Int)) = true) := by simpa [Hid] using ⟨h0, h1⟩
      have d2 : decide ((1 : Int) ≤ (n : Int) - at_) = true := by simp; omega
      go_enter Tryd.func81, Tryd.ntmps81
      go_wp2_with (go_at_call 74; refine (width_u8 _).mono ?_; rintro e wq ⟨rfl, hq⟩; subst wq)
      go_ret
      exact ⟨by first | rfl | (rw [HD.out]; first | rfl | simp), rfl⟩
    · have HD : Hid (decide (0 ≤ at_ ∧ at_ + 1 ≤ (n : Int)) = false) := by simp [Hid]; omega
      have d2 : decide ((1 : Int) ≤ (n : Int) - at_) = false := by simp; omega
      go_enter Tryd.func81, Tryd.ntmps81
      go_wp2_with (go_at_call 74; refine (width_u8 _).mono ?_; rintro e wq ⟨rfl, hq⟩; subst wq)
      go_ret
      exact ⟨by first | rfl | (rw [HD.out]; first | rfl | simp), rfl⟩
  · have HD : Hid (decide (0 ≤ at_ ∧ at_ + 1 ≤ (n : Int)) = false) := by simp [Hid]; omega
    have d1 : decide (0 ≤ at_) = false := by simp; omega
    go_enter Tryd.func81, Tryd.ntmps81
    go_wp2_with (go_at_call 74; refine (width_u8 _).mono ?_; rintro e wq ⟨rfl, hq⟩; subst wq)
    go_ret
    exact ⟨by first | rfl | (rw [HD.out]; first | rfl | simp), rfl⟩

set_option maxRecDepth 100000 in
theorem or_u8 (x c : Int) (s : Nat) (hs : s < 8) (x0 : 0 ≤ x) (x1 : x < 2 ^ s) (c0 : 0 ≤ c) (c1 : c ≤ 255) (hc : c * 2 ^ s < 256) : bits .or .u8 x (c * 2 ^ s) = x + c * 2 ^ s := by
  obtain ⟨n, rfl⟩ := Int.eq_ofNat_of_zero_le x0
  obtain ⟨m, rfl⟩ := Int.eq_ofNat_of_zero_le c0
  have h1 : n < 2 ^ s := by exact_mod_cast x1
  have e1 : ((m * 2 ^ s : Nat) : Int) = (m : Int) * 2 ^ s := by push_cast; rfl
  have h2 : m * 2 ^ s < 256 := by rw [← e1] at hc; omega
  have h3 : (2 : Nat) ^ s < 256 := Nat.lt_of_lt_of_le (Nat.pow_lt_pow_right (by omega) hs) (by decide)
  have := u8_or_nat n (m * 2 ^ s) (by omega) h2
  rw [shl_or m n s h1] at this
  rw [← e1, this]
  push_cast
  rfl
set_option maxHeartbeats 1000000 in
theorem number_u8 (b off n cap : Nat) (zs : List Int) (W : World) (hz : zs.length = n) (hn : 1 ≤ n) (hn2 : n ≤ 140737488355328) (hwf : ∀ z ∈ zs, 0 ≤ z ∧ z ≤ 255) (hc : ∀ j, j < zs.length → W.cell? ⟨b, off + j, none⟩ = some (.int .u8 (zs.getD j 0))) :
    Calls Tryd.prog 82 #[.slice (some ⟨b, off, none⟩) n cap] W fun e w' => e = .returned (.int .u8 (num (zs.take 1))) ∧ w' = W := by
  subst hz
  go_enter Tryd.func82, Tryd.ntmps82
  go_wp2_with (go_at_call 74; refine (width_u8 _).mono ?_; rintro e wq ⟨rfl, hq⟩; subst wq)
  go_loop [3, 6] (fun x i => ∃ k : Nat, k ≤ 1 ∧ i = .int .i64 k ∧ x = .int .u8 (num (zs.take k)))
    (fun _ i => 1 - (intOf i).toNat)
  case atStart => exact ⟨0, Nat.zero_le _, rfl, rfl⟩
  case round =>
    obtain ⟨k, hk, rfl, rfl⟩ := hrel
    by_cases hlt : k < 1
    · have hck := hc k (by omega)
      have hcw := hwf _ (getD_mem (show k < zs.length by omega))
      have hts := take_snoc zs k (by omega)
      have hnr := num_range (zs.take k) (fun z hz => hwf z (List.mem_of_mem_take hz))
      have hl : (zs.take k).length = k := by simp; omega
      rw [hl] at hnr
      generalize zs.getD k 0 = c at hck hts hcw
      have HS : Hid (num (zs.take (k + 1)) = num (zs.take k) + 256 ^ k * c) := by rw [hts, num_snoc, hl]; exact rfl
      clear hts hl
      generalize num (zs.take k) = x at hnr HS
      obtain ⟨x0, x1⟩ := hnr
      obtain ⟨c0, c1⟩ := hcw
      have hkk : k = 0 := by omega
      have hkz : k < zs.length := by omega
      clear hc hwf
      subst hkk
      · have x1' : x < 1 := x1
        have ho := or_u8 x c 0 (by omega) x0 x1 c0 c1 (by omega)
        rw [show (2 : Int) ^ 0 = 1 from rfl] at ho
        rw [Int.mul_one] at ho; rw [Nat.add_zero] at hck
        go_wp2
        go_round
        case rel => exact ⟨0 + 1, by omega, by go_num, by rw [HS.out, Int.mul_comm, show (256 : Int) ^ 0 = 1 from rfl] ; rw [Int.mul_one]⟩
        case measure => simp [intOf]
    · obtain rfl : k = 1 := by omega
      go_wp2
      go_ret
      exact ⟨rfl, rfl⟩

set_option maxHeartbeats 1000000 in
theorem at_u8 (ao : Option Addr) (cap : Nat) (zs : List Int) (at_ : Int) (W : World) (hn : zs.length ≤ 140737488355328) (hcp : zs.length ≤ cap) (hwf : ∀ z ∈ zs, 0 ≤ z ∧ z ≤ 255) (hr : Reads W ao zs W.heap.size) (t0 : -9223372036854775808 ≤ at_) (t1 : at_ ≤ 9223372036854775807) :
    Calls Tryd.prog 73 #[.slice ao zs.length cap, .int .i64 at_] W fun e w' => e = .returned (.tuple #[.int .u8 (atv 1 zs at_), .int .i64 (ate 1 zs.length at_)]) ∧ w' = W := by
  have hh := holds_u8 ao zs.length cap at_ W hn t0 t1
  by_cases h : 0 ≤ at_ ∧ at_ + 1 ≤ (zs.length : Int)
  · have HV : Hid (atv 1 zs at_ = num ((zs.drop at_.toNat).take 1) ∧ ate 1 zs.length at_ = 0) := by simp [atv, ate, h, Hid]
    rw [decide_eq_true h] at hh
    obtain ⟨h0, h1⟩ := h
    obtain ⟨b, off, rfl, hbl, hc⟩ := hr (by omega)
    obtain ⟨p, rfl⟩ := Int.eq_ofNat_of_zero_le h0
    have hcap : (p : Int) ≤ (zs.length : Int) := by omega
    have hpc : ¬ p = cap := by omega
    have hpc2 : ¬ cap = p := by omega
    have hd := number_u8 b (off + p) (zs.length - p) (cap - p) (zs.drop p) W (by simp) (by omega) (by omega) (fun z hz => hwf z (List.mem_of_mem_drop hz)) (fun j hj => by
      rw [List.length_drop] at hj
      have := hc (p + j) (by omega)
      rw [Nat.add_assoc, this]; simp [List.getD])
    clear hc hwf
    go_enter Tryd.func73, Tryd.ntmps73
    go_wp2_with (first | (go_at_call 81; refine hh.mono ?_; rintro e wq ⟨rfl, hq⟩; subst wq) | (go_at_call 82; with_reducible refine hd.mono ?_; rintro e wq ⟨rfl, hq⟩; subst wq))
    go_ret2
    exact ⟨by rw [HV.out.1, HV.out.2]; rfl, rfl⟩
  · have HV : Hid (atv 1 zs at_ = 0 ∧ ate 1 zs.length at_ = 20) := by simp [atv, ate, h, Hid]
    rw [decide_eq_false h] at hh
    clear h
    go_enter Tryd.func73, Tryd.ntmps73
    go_wp2_with (go_at_call 81; refine hh.mono ?_; rintro e wq ⟨rfl, hq⟩; subst wq)
    go_ret2
    exact ⟨by rw [HV.out.1, HV.out.2]; rfl, rfl⟩

set_option maxRecDepth 100000 in
set_option maxHeartbeats 1000000 in
theorem put_u8 (ao : Option Addr) (cap : Nat) (xs : List Int) (w : World) (hn : xs.length * 1 ≤ 140737488355328) (hwf : ∀ z ∈ xs, 0 ≤ z ∧ z < 256) (hr : ReadsK w .u8 ao xs w.heap.size) :
    Calls Tryd.prog 63 #[.slice ao xs.length cap] w fun e w' => ∃ v, e = .returned v ∧ w'.ownsRow w.heap.size 5 1 v (xs.length * 1) (bv (puts 1 xs xs.length)) ∧ Below w.heap.size w w' := by
  obtain ⟨i0, hi, hz0, hz1, hz2⟩ := info_parts Tryd.info5
  obtain ⟨w1, hmk, hown0, hg0⟩ := run_make_own (P := Tryd.prog) w w.heap.size 24 5 i0 (.int .u8 0) 1 Tryd.underlying24 hi hz0 hz1 .i64 .i64 (xs.length * 1) (by rw [hz2]; omega) (by unfold maxLen; omega) (Nat.le_refl _)
  rw [show ((xs.length * 1 : Nat) : Int) = (xs.length : Int) * 1 by push_cast; rfl] at hmk
  rw [Int.mul_one] at hmk
  have hb0 : Below w.heap.size w w1 := (Below.refl w.heap.size w).grown hg0 (Nat.le_refl _) (fun k e => by simp at e)
  clear hg0
  go_enter Tryd.func63, Tryd.ntmps63
  go_wp2_with (go_at_call 74; refine (width_u8 _).mono ?_; rintro e wq ⟨rfl, hq⟩; subst wq)
  go_loopw [3, 14] (fun v i wr => ∃ k : Nat, k ≤ xs.length ∧ i = .int .i64 k ∧ wr.ownsRow w.heap.size 5 1 v (k * 1) (bv (puts 1 xs k)) ∧ Below w.heap.size w wr)
    (fun _ i _ => xs.length - (intOf i).toNat)
  case atStart => exact ⟨0, Nat.zero_le _, rfl, by simpa [puts, bv] using hown0, hb0⟩
  case round =>
    clear hown0 hb0 hmk
    obtain ⟨k, hk, rfl, hown, hb⟩ := hrel
    by_cases hlt : k < xs.length
    · obtain ⟨b, off, rfl, hbl, hc⟩ := (hr.below hb) (by omega)
      have hck := hc k hlt
      clear hc
      have hts := take_snoc xs k hlt
      have hxw := hwf _ (getD_mem hlt)
      generalize xs.getD k 0 = x at hck hts hxw
      have HS : Hid (puts 1 xs (k + 1) = puts 1 xs k ++ nb 1 x) := by simp [puts, hts, Hid]
      clear hts hwf
      obtain ⟨hx0, hx1⟩ := hxw
      have hpl := puts_len 1 xs k hk
      generalize puts 1 xs k = PP at hown HS hpl
      go_wp2_with (go_at_call 74; refine (width_u8 _).mono ?_; rintro e wq ⟨rfl, hq⟩; subst wq)
      go_loopw [3, 19] (fun v i wr => ∃ j : Nat, j ≤ 1 ∧ i = .int .i64 j ∧ wr.ownsRow w.heap.size 5 1 v (k * 1 + j) (bv (PP ++ nb j x)) ∧ Below w.heap.size w wr)
        (fun _ i _ => 1 - (intOf i).toNat)
      case atStart => exact ⟨0, by omega, rfl, by simpa [nb] using hown, hb⟩
      case round =>
        clear hown hb hck hr
        obtain ⟨j, hj, rfl, hown, hb⟩ := hrel
        have hB := hb.size
        by_cases hlt2 : j < 1
        · have hjj : j = 0 := by omega
          subst hjj
          · go_wp2_with (at_builtin; refine wpList_append_own _ rfl _ _ 24 rfl w.heap.size 5 i0 (.int .u8 0) 1 1 Tryd.underlying24 hi hz0 hz1 hz2 rfl (by decide) _ _ _ rfl (hown.alloc _) ⟨_, 0, none⟩ 1 1 [.int .u8 (x / 1 % 256)] rfl rfl ?d1 ?d2 ?d3 ?d4 ?d5 ?_)
            case d1 =>
              intro j u hj
              match j, hj with
              | 0, hj => simp at hj; subst hj; simp [Addr.add] <;> omega
            case d2 => intro u hu; simp at hu; subst hu; rfl
            case d3 => unfold maxLen; omega
            case d4 => omega
            case d5 => simp; omega
            intro v' w2 hown' hgrow _
            have R1 := own_snoc (M := PP ++ nb (0 + 1) x) (by rw [nb_snoc, List.append_assoc]; rw [show x / 256 ^ 0 = x from by simp]) hown'
            have R2 := grown_below hb hB hown hgrow
            clear hown' hgrow hown
            go_wp2
            go_roundw
            case rel => exact ⟨0 + 1, by omega, by go_num, by rw [Nat.mul_one]; exact R1, R2⟩
            case measure => simp [intOf]
        · obtain rfl : j = 1 := by omega
          go_wp2
          go_roundw
          case rel => exact ⟨k + 1, by omega, by go_num, by rw [HS.out, show (k + 1) * 1 = k * 1 + 1 by omega]; exact hown, hb⟩
          case measure => simp [intOf]; omega
    · obtain rfl : k = xs.length := by omega
      go_wp2
      go_ret
      exact ⟨_, rfl, hown, hb⟩

end Go.Proofs.YtnplimdcfbgpeaaDoor
namespace Go.Proofs.YtnplimdcfbgpeaaDoor
open Go.RowKit
set_option maxRecDepth 100000


set_option maxRecDepth 100000 in
theorem len64_u16 (W : World) : Calls Tryd.prog 62 #[.int .u64 65535] W fun e w' => e = .returned (.int .i64 16) ∧ w' = W := by
  have h := len_255
  go_enter Tryd.func62, Tryd.ntmps62
  go_wp2
  go_ret
  exact ⟨by first | rfl | simp [h], rfl⟩
theorem width_u16 (W : World) : Calls Tryd.prog 75 #[] W fun e w' => e = .returned (.int .i64 2) ∧ w' = W := by
  go_enter Tryd.func75, Tryd.ntmps75
  go_wp2_with (go_at_call 62; refine (len64_u16 _).mono ?_; rintro e wq ⟨rfl, hq⟩; subst wq)
  go_ret
  exact ⟨rfl, rfl⟩

set_option maxHeartbeats 400000 in
theorem holds_u16 (ao : Option Addr) (n cap : Nat) (at_ : Int) (W : World) (hn : n ≤ 140737488355328) (t0 : -9223372036854775808 ≤ at_) (t1 : at_ ≤ 9223372036854775807) :
    Calls Tryd.prog 100 #[.slice ao n cap, .int .i64 at_] W fun e w' => e = .returned (.bool (decide (0 ≤ at_ ∧ at_ + 2 ≤ n))) ∧ w' = W := by
  by_cases h0 : 0 ≤ at_
  · by_cases h1 : at_ + 2 ≤ n
    · have HD : Hid (decide (0 ≤ at_ ∧ at_ + 2 ≤ (n : Int)) = true) := by simpa [Hid] using ⟨h0, h1⟩
      have d2 : decide ((2 : Int) ≤ (n : Int) - at_) = true := by simp; omega
      go_enter Tryd.func100, Tryd.ntmps100
      go_wp2_with (go_at_call 75; refine (width_u16 _).mono ?_; rintro e wq ⟨rfl, hq⟩; subst wq)
      go_ret
      exact ⟨by first | rfl | (rw [HD.out]; first | rfl | simp), rfl⟩
    · have HD : Hid (decide (0 ≤ at_ ∧ at_ + 2 ≤ (n : Int)) = false) := by simp [Hid]; omega
      have d2 : decide ((2 : Int) ≤ (n : Int) - at_) = false := by simp; omega
      go_enter Tryd.func100, Tryd.ntmps100
      go_wp2_with (go_at_call 75; refine (width_u16 _).mono ?_; rintro e wq ⟨rfl, hq⟩; subst wq)
      go_ret
      exact ⟨by first | rfl | (rw [HD.out]; first | rfl | simp), rfl⟩
  · have HD : Hid (decide (0 ≤ at_ ∧ at_ + 2 ≤ (n : Int)) = false) := by simp [Hid]; omega
    have d1 : decide (0 ≤ at_) = false := by simp; omega
    go_enter Tryd.func100, Tryd.ntmps100
    go_wp2_with (go_at_call 75; refine (width_u16 _).mono ?_; rintro e wq ⟨rfl, hq⟩; subst wq)
    go_ret
    exact ⟨by first | rfl | (rw [HD.out]; first | rfl | simp), rfl⟩

set_option maxRecDepth 100000 in
theorem or_u16 (x c : Int) (s : Nat) (hs : s < 16) (x0 : 0 ≤ x) (x1 : x < 2 ^ s) (c0 : 0 ≤ c) (c1 : c ≤ 255) (hc : c * 2 ^ s < 65536) : bits .or .u16 x (c * 2 ^ s) = x + c * 2 ^ s := by
  obtain ⟨n, rfl⟩ := Int.eq_ofNat_of_zero_le x0
  obtain ⟨m, rfl⟩ := Int.eq_ofNat_of_zero_le c0
  have h1 : n < 2 ^ s := by exact_mod_cast x1
  have e1 : ((m * 2 ^ s : Nat) : Int) = (m : Int) * 2 ^ s := by push_cast; rfl
  have h2 : m * 2 ^ s < 65536 := by rw [← e1] at hc; omega
  have h3 : (2 : Nat) ^ s < 65536 := Nat.lt_of_lt_of_le (Nat.pow_lt_pow_right (by omega) hs) (by decide)
  have := u16_or_nat n (m * 2 ^ s) (by omega) h2
  rw [shl_or m n s h1] at this
  rw [← e1, this]
  push_cast
  rfl
set_option maxHeartbeats 1000000 in
theorem number_u16 (b off n cap : Nat) (zs : List Int) (W : World) (hz : zs.length = n) (hn : 2 ≤ n) (hn2 : n ≤ 140737488355328) (hwf : ∀ z ∈ zs, 0 ≤ z ∧ z ≤ 255) (hc : ∀ j, j < zs.length → W.cell? ⟨b, off + j, none⟩ = some (.int .u8 (zs.getD j 0))) :
    Calls Tryd.prog 101 #[.slice (some ⟨b, off, none⟩) n cap] W fun e w' => e = .returned (.int .u16 (num (zs.take 2))) ∧ w' = W := by
  subst hz
  go_enter Tryd.func101, Tryd.ntmps101
  go_wp2_with (go_at_call 75; refine (width_u16 _).mono ?_; rintro e wq ⟨rfl, hq⟩; subst wq)
  go_loop [3, 6] (fun x i => ∃ k : Nat, k ≤ 2 ∧ i = .int .i64 k ∧ x = .int .u16 (num (zs.take k)))
    (fun _ i => 2 - (intOf i).toNat)
  case atStart => exact ⟨0, Nat.zero_le _, rfl, rfl⟩
  case round =>
    obtain ⟨k, hk, rfl, rfl⟩ := hrel
    by_cases hlt : k < 2
    · have hck := hc k (by omega)
      have hcw := hwf _ (getD_mem (show k < zs.length by omega))
      have hts := take_snoc zs k (by omega)
      have hnr := num_range (zs.take k) (fun z hz => hwf z (List.mem_of_mem_take hz))
      have hl : (zs.take k).length = k := by simp; omega
      rw [hl] at hnr
      generalize zs.getD k 0 = c at hck hts hcw
      have HS : Hid (num (zs.take (k + 1)) = num (zs.take k) + 256 ^ k * c) := by rw [hts, num_snoc, hl]; exact rfl
      clear hts hl
      generalize num (zs.take k) = x at hnr HS
      obtain ⟨x0, x1⟩ := hnr
      obtain ⟨c0, c1⟩ := hcw
      have hkk : k = 0 ∨ k = 1 := by omega
      have hkz : k < zs.length := by omega
      clear hc hwf
      rcases hkk with rfl | hkk
      · have x1' : x < 1 := x1
        have ho := or_u16 x c 0 (by omega) x0 x1 c0 c1 (by omega)
        rw [show (2 : Int) ^ 0 = 1 from rfl] at ho
        rw [Int.mul_one] at ho; rw [Nat.add_zero] at hck
        go_wp2
        go_round
        case rel => exact ⟨0 + 1, by omega, by go_num, by rw [HS.out, Int.mul_comm, show (256 : Int) ^ 0 = 1 from rfl] ; rw [Int.mul_one]⟩
        case measure => simp [intOf]
      subst hkk
      · have x1' : x < 256 := x1
        have ho := or_u16 x c 8 (by omega) x0 x1 c0 c1 (by omega)
        rw [show (2 : Int) ^ 8 = 256 from rfl] at ho
        clear x1
        go_wp2
        go_round
        case rel => exact ⟨1 + 1, by omega, by go_num, by rw [HS.out, Int.mul_comm, show (256 : Int) ^ 1 = 256 from rfl]⟩
        case measure => simp [intOf]
    · obtain rfl : k = 2 := by omega
      go_wp2
      go_ret
      exact ⟨rfl, rfl⟩

set_option maxHeartbeats 1000000 in
theorem at_u16 (ao : Option Addr) (cap : Nat) (zs : List Int) (at_ : Int) (W : World) (hn : zs.length ≤ 140737488355328) (hcp : zs.length ≤ cap) (hwf : ∀ z ∈ zs, 0 ≤ z ∧ z ≤ 255) (hr : Reads W ao zs W.heap.size) (t0 : -9223372036854775808 ≤ at_) (t1 : at_ ≤ 9223372036854775807) :
    Calls Tryd.prog 98 #[.slice ao zs.length cap, .int .i64 at_] W fun e w' => e = .returned (.tuple #[.int .u16 (atv 2 zs at_), .int .i64 (ate 2 zs.length at_)]) ∧ w' = W := by
  have hh := holds_u16 ao zs.length cap at_ W hn t0 t1
  by_cases h : 0 ≤ at_ ∧ at_ + 2 ≤ (zs.length : Int)
  · have HV : Hid (atv 2 zs at_ = num ((zs.drop at_.toNat).take 2) ∧ ate 2 zs.length at_ = 0) := by simp [atv, ate, h, Hid]
    rw [decide_eq_true h] at hh
    obtain ⟨h0, h1⟩ := h
    obtain ⟨b, off, rfl, hbl, hc⟩ := hr (by omega)
    obtain ⟨p, rfl⟩ := Int.eq_ofNat_of_zero_le h0
    have hcap : (p : Int) ≤ (zs.length : Int) := by omega
    have hpc : ¬ p = cap := by omega
    have hpc2 : ¬ cap = p := by omega
    have hd := number_u16 b (off + p) (zs.length - p) (cap - p) (zs.drop p) W (by simp) (by omega) (by omega) (fun z hz => hwf z (List.mem_of_mem_drop hz)) (fun j hj => by
      rw [List.length_drop] at hj
      have := hc (p + j) (by omega)
      rw [Nat.add_assoc, this]; simp [List.getD])
    clear hc hwf
    go_enter Tryd.func98, Tryd.ntmps98
    go_wp2_with (first | (go_at_call 100; refine hh.mono ?_; rintro e wq ⟨rfl, hq⟩; subst wq) | (go_at_call 101; with_reducible refine hd.mono ?_; rintro e wq ⟨rfl, hq⟩; subst wq))
    go_ret2
    exact ⟨by rw [HV.out.1, HV.out.2]; rfl, rfl⟩
  · have HV : Hid (atv 2 zs at_ = 0 ∧ ate 2 zs.length at_ = 20) := by simp [atv, ate, h, Hid]
    rw [decide_eq_false h] at hh
    clear h
    go_enter Tryd.func98, Tryd.ntmps98
    go_wp2_with (go_at_call 100; refine hh.mono ?_; rintro e wq ⟨rfl, hq⟩; subst wq)
    go_ret2
    exact ⟨by rw [HV.out.1, HV.out.2]; rfl, rfl⟩

set_option maxRecDepth 100000 in
set_option maxHeartbeats 1000000 in
theorem put_u16 (ao : Option Addr) (cap : Nat) (xs : List Int) (w : World) (hn : xs.length * 2 ≤ 140737488355328) (hwf : ∀ z ∈ xs, 0 ≤ z ∧ z < 65536) (hr : ReadsK w .u16 ao xs w.heap.size) :
    Calls Tryd.prog 64 #[.slice ao xs.length cap] w fun e w' => ∃ v, e = .returned v ∧ w'.ownsRow w.heap.size 5 1 v (xs.length * 2) (bv (puts 2 xs xs.length)) ∧ Below w.heap.size w w' := by
  obtain ⟨i0, hi, hz0, hz1, hz2⟩ := info_parts Tryd.info5
  obtain ⟨w1, hmk, hown0, hg0⟩ := run_make_own (P := Tryd.prog) w w.heap.size 24 5 i0 (.int .u8 0) 1 Tryd.underlying24 hi hz0 hz1 .i64 .i64 (xs.length * 2) (by rw [hz2]; omega) (by unfold maxLen; omega) (Nat.le_refl _)
  rw [show ((xs.length * 2 : Nat) : Int) = (xs.length : Int) * 2 by push_cast; rfl] at hmk
  have hb0 : Below w.heap.size w w1 := (Below.refl w.heap.size w).grown hg0 (Nat.le_refl _) (fun k e => by simp at e)
  clear hg0
  go_enter Tryd.func64, Tryd.ntmps64
  go_wp2_with (go_at_call 75; refine (width_u16 _).mono ?_; rintro e wq ⟨rfl, hq⟩; subst wq)
  go_loopw [3, 14] (fun v i wr => ∃ k : Nat, k ≤ xs.length ∧ i = .int .i64 k ∧ wr.ownsRow w.heap.size 5 1 v (k * 2) (bv (puts 2 xs k)) ∧ Below w.heap.size w wr)
    (fun _ i _ => xs.length - (intOf i).toNat)
  case atStart => exact ⟨0, Nat.zero_le _, rfl, by simpa [puts, bv] using hown0, hb0⟩
  case round =>
    clear hown0 hb0 hmk
    obtain ⟨k, hk, rfl, hown, hb⟩ := hrel
    by_cases hlt : k < xs.length
    · obtain ⟨b, off, rfl, hbl, hc⟩ := (hr.below hb) (by omega)
      have hck := hc k hlt
      clear hc
      have hts := take_snoc xs k hlt
      have hxw := hwf _ (getD_mem hlt)
      generalize xs.getD k 0 = x at hck hts hxw
      have HS : Hid (puts 2 xs (k + 1) = puts 2 xs k ++ nb 2 x) := by simp [puts, hts, Hid]
      clear hts hwf
      obtain ⟨hx0, hx1⟩ := hxw
      have hpl := puts_len 2 xs k hk
      generalize puts 2 xs k = PP at hown HS hpl
      go_wp2_with (go_at_call 75; refine (width_u16 _).mono ?_; rintro e wq ⟨rfl, hq⟩; subst wq)
      go_loopw [3, 19] (fun v i wr => ∃ j : Nat, j ≤ 2 ∧ i = .int .i64 j ∧ wr.ownsRow w.heap.size 5 1 v (k * 2 + j) (bv (PP ++ nb j x)) ∧ Below w.heap.size w wr)
        (fun _ i _ => 2 - (intOf i).toNat)
      case atStart => exact ⟨0, by omega, rfl, by simpa [nb] using hown, hb⟩
      case round =>
        clear hown hb hck hr
        obtain ⟨j, hj, rfl, hown, hb⟩ := hrel
        have hB := hb.size
        by_cases hlt2 : j < 2
        · have hjj : j = 0 ∨ j = 1 := by omega
          rcases hjj with rfl | hjj
          · go_wp2_with (at_builtin; refine wpList_append_own _ rfl _ _ 24 rfl w.heap.size 5 i0 (.int .u8 0) 1 1 Tryd.underlying24 hi hz0 hz1 hz2 rfl (by decide) _ _ _ rfl (hown.alloc _) ⟨_, 0, none⟩ 1 1 [.int .u8 (x / 1 % 256)] rfl rfl ?d1 ?d2 ?d3 ?d4 ?d5 ?_)
            case d1 =>
              intro j u hj
              match j, hj with
              | 0, hj => simp at hj; subst hj; simp [Addr.add] <;> omega
            case d2 => intro u hu; simp at hu; subst hu; rfl
            case d3 => unfold maxLen; omega
            case d4 => omega
            case d5 => simp; omega
            intro v' w2 hown' hgrow _
            have R1 := own_snoc (M := PP ++ nb (0 + 1) x) (by rw [nb_snoc, List.append_assoc]; rw [show x / 256 ^ 0 = x from by simp]) hown'
            have R2 := grown_below hb hB hown hgrow
            clear hown' hgrow hown
            go_wp2
            go_roundw
            case rel => exact ⟨0 + 1, by omega, by go_num, R1, R2⟩
            case measure => simp [intOf]
          subst hjj
          · go_wp2_with (at_builtin; refine wpList_append_own _ rfl _ _ 24 rfl w.heap.size 5 i0 (.int .u8 0) 1 1 Tryd.underlying24 hi hz0 hz1 hz2 rfl (by decide) _ _ _ rfl (hown.alloc _) ⟨_, 0, none⟩ 1 1 [.int .u8 (x / 256 % 256)] rfl rfl ?d1 ?d2 ?d3 ?d4 ?d5 ?_)
            case d1 =>
              intro j u hj
              match j, hj with
              | 0, hj => simp at hj; subst hj; simp [Addr.add] <;> omega
            case d2 => intro u hu; simp at hu; subst hu; rfl
            case d3 => unfold maxLen; omega
            case d4 => omega
            case d5 => simp; omega
            intro v' w2 hown' hgrow _
            have R1 := own_snoc (M := PP ++ nb (1 + 1) x) (by rw [nb_snoc, List.append_assoc]; rfl) hown'
            have R2 := grown_below hb hB hown hgrow
            clear hown' hgrow hown
            go_wp2
            go_roundw
            case rel => exact ⟨1 + 1, by omega, by go_num, R1, R2⟩
            case measure => simp [intOf]
        · obtain rfl : j = 2 := by omega
          go_wp2
          go_roundw
          case rel => exact ⟨k + 1, by omega, by go_num, by rw [HS.out, show (k + 1) * 2 = k * 2 + 2 by omega]; exact hown, hb⟩
          case measure => simp [intOf]; omega
    · obtain rfl : k = xs.length := by omega
      go_wp2
      go_ret
      exact ⟨_, rfl, hown, hb⟩

end Go.Proofs.YtnplimdcfbgpeaaDoor
