import Derived.Test.YtpahpdgkahomlaaGreatDoorCLNum
import Derived.Laws.AppendOwn
import Derived.Laws.MakeOwn
import Derived.Lib.Tables
import Derived.Laws.CopyOwn
namespace Go.Proofs.YtpahpdgkahomlaaGreatDoor
open Go.RowKit
set_option maxRecDepth 100000


set_option maxRecDepth 100000 in
theorem len64_u16 (W : World) : Calls Tryz.prog 110 #[.int .u64 65535] W fun e w' => e = .returned (.int .i64 16) ∧ w' = W := by
  have h := len_255
  go_enter Tryz.func110, Tryz.ntmps110
  go_wp2
  go_ret
  exact ⟨by first | rfl | simp [h], rfl⟩
theorem width_u16 (W : World) : Calls Tryz.prog 98 #[] W fun e w' => e = .returned (.int .i64 2) ∧ w' = W := by
  go_enter Tryz.func98, Tryz.ntmps98
  go_wp2_with (go_at_call 110; refine (len64_u16 _).mono ?_; rintro e wq ⟨rfl, hq⟩; subst wq)
  go_ret
  exact ⟨rfl, rfl⟩

set_option maxRecDepth 100000 in
theorem or_u16 (x c : Int) (s : Nat) (hs : s < 16) (x0 : 0 ≤ x) (x1 : x < 2 ^ s) (c0 : 0 ≤ c) (c1 : c ≤ 255) (hc : c * 2 ^ s < 65536) : bits .or .u16 x (c * 2 ^ s) = x + c * 2 ^ s := by
  obtain ⟨n, rfl⟩ := Int.eq_ofNat_of_zero_le x0
  obtain ⟨m, rfl⟩ := Int.eq_ofNat_of_zero_le c0
  have h1 : n < 2 ^ s := by exact_mod_cast x1
  have e1 : ((m * 2 ^ s : Nat) : Int) = (m : Int) * 2 ^ s := by push_cast; rfl
  have h2 : m * 2 ^ s < 65536 := by rw [← e1] at hc; omega
  have h3 : (2 : Nat) ^ s < 65536 := Nat.lt_of_lt_of_le (Nat.pow_lt_pow_right (by omega) hs) (by decide)
  have := u16_or_nat n (m * 2 ^ s) (by omega) h2
  rw [shl_or m n s h1] at this
  rw [← e1, this]
  push_cast
  rfl
set_option maxRecDepth 100000 in
set_option maxHeartbeats 1000000 in
theorem put_u16 (ao : Option Addr) (cap : Nat) (xs : List Int) (w : World) (hn : xs.length * 2 ≤ 140737488355328) (hwf : ∀ z ∈ xs, 0 ≤ z ∧ z < 65536) (hr : ReadsK w .u16 ao xs w.heap.size) :
    Calls Tryz.prog 74 #[.slice ao xs.length cap] w fun e w' => ∃ v, e = .returned v ∧ w'.ownsRow w.heap.size 5 1 v (xs.length * 2) (bv (puts 2 xs xs.length)) ∧ Below w.heap.size w w' := by
  obtain ⟨i0, hi, hz0, hz1, hz2⟩ := info_parts Tryz.info5
  obtain ⟨w1, hmk, hown0, hg0⟩ := run_make_own (P := Tryz.prog) w w.heap.size 24 5 i0 (.int .u8 0) 1 Tryz.underlying24 hi hz0 hz1 .i64 .i64 (xs.length * 2) (by rw [hz2]; omega) (by unfold maxLen; omega) (Nat.le_refl _)
  rw [show ((xs.length * 2 : Nat) : Int) = (xs.length : Int) * 2 by push_cast; rfl] at hmk
  have hb0 : Below w.heap.size w w1 := (Below.refl w.heap.size w).grown hg0 (Nat.le_refl _) (fun k e => by simp at e)
  clear hg0
  go_enter Tryz.func74, Tryz.ntmps74
  go_wp2_with (go_at_call 98; refine (width_u16 _).mono ?_; rintro e wq ⟨rfl, hq⟩; subst wq)
  go_loopw [3, 14] (fun v i wr => ∃ k : Nat, k ≤ xs.length ∧ i = .int .i64 k ∧ wr.ownsRow w.heap.size 5 1 v (k * 2) (bv (puts 2 xs k)) ∧ Below w.heap.size w wr)
    (fun _ i _ => xs.length - (intOf i).toNat)
  case atStart => exact ⟨0, Nat.zero_le _, rfl, by simpa [puts, bv] using hown0, hb0⟩
  case round =>
    clear hown0 hb0 hmk
    obtain ⟨k, hk, rfl, hown, hb⟩ := hrel
    by_cases hlt : k < xs.length
    · obtain ⟨b, off, rfl, hbl, hc⟩ := (hr.below hb) (by omega)
      have hck := hc k hlt
      clear hc
      have hts := take_snoc xs k hlt
      have hxw := hwf _ (getD_mem hlt)
      generalize xs.getD k 0 = x at hck hts hxw
      have HS : Hid (puts 2 xs (k + 1) = puts 2 xs k ++ nb 2 x) := by simp [puts, hts, Hid]
      clear hts hwf
      obtain ⟨hx0, hx1⟩ := hxw
      have hpl := puts_len 2 xs k hk
      generalize puts 2 xs k = PP at hown HS hpl
      go_wp2_with (go_at_call 98; refine (width_u16 _).mono ?_; rintro e wq ⟨rfl, hq⟩; subst wq)
      go_loopw [3, 19] (fun v i wr => ∃ j : Nat, j ≤ 2 ∧ i = .int .i64 j ∧ wr.ownsRow w.heap.size 5 1 v (k * 2 + j) (bv (PP ++ nb j x)) ∧ Below w.heap.size w wr)
        (fun _ i _ => 2 - (intOf i).toNat)
      case atStart => exact ⟨0, by omega, rfl, by simpa [nb] using hown, hb⟩
      case round =>
        clear hown hb hck hr
        obtain ⟨j, hj, rfl, hown, hb⟩ := hrel
        have hB := hb.size
        by_cases hlt2 : j < 2
        · have hjj : j = 0 ∨ j = 1 := by omega
          rcases hjj with rfl | hjj
          · go_wp2_with (at_builtin; refine wpList_append_own _ rfl _ _ 24 rfl w.heap.size 5 i0 (.int .u8 0) 1 1 Tryz.underlying24 hi hz0 hz1 hz2 rfl (by decide) _ _ _ rfl (hown.alloc _) ⟨_, 0, none⟩ 1 1 [.int .u8 (x / 1 % 256)] rfl rfl ?d1 ?d2 ?d3 ?d4 ?d5 ?_)
            case d1 =>
              intro j u hj
              match j, hj with
              | 0, hj => simp at hj; subst hj; simp [Addr.add] <;> omega
            case d2 => intro u hu; simp at hu; subst hu; rfl
            case d3 => unfold maxLen; omega
            case d4 => omega
            case d5 => simp; omega
            intro v' w2 hown' hgrow _
            have R1 := own_snoc (M := PP ++ nb (0 + 1) x) (by rw [nb_snoc, List.append_assoc]; rw [show x / 256 ^ 0 = x from by simp]) hown'
            have R2 := grown_below hb hB hown hgrow
            clear hown' hgrow hown
            go_wp2
            go_roundw
            case rel => exact ⟨0 + 1, by omega, by go_num, R1, R2⟩
            case measure => simp [intOf]
          subst hjj
          · go_wp2_with (at_builtin; refine wpList_append_own _ rfl _ _ 24 rfl w.heap.size 5 i0 (.int .u8 0) 1 1 Tryz.underlying24 hi hz0 hz1 hz2 rfl (by decide) _ _ _ rfl (hown.alloc _) ⟨_, 0, none⟩ 1 1 [.int .u8 (x / 256 % 256)] rfl rfl ?d1 ?d2 ?d3 ?d4 ?d5 ?_)
            case d1 =>
              intro j u hj
              match j, hj with
              | 0, hj => simp at hj; subst hj; simp [Addr.add] <;> omega
            case d2 => intro u hu; simp at hu; subst hu; rfl
            case d3 => unfold maxLen; omega
            case d4 => omega
            case d5 => simp; omega
            intro v' w2 hown' hgrow _
            have R1 := own_snoc (M := PP ++ nb (1 + 1) x) (by rw [nb_snoc, List.append_assoc]; rfl) hown'
            have R2 := grown_below hb hB hown hgrow
            clear hown' hgrow hown
            go_wp2
            go_roundw
            case rel => exact ⟨1 + 1, by omega, by go_num, R1, R2⟩
            case measure => simp [intOf]
        · obtain rfl : j = 2 := by omega
          go_wp2
          go_roundw
          case rel => exact ⟨k + 1, by omega, by go_num, by rw [HS.out, show (k + 1) * 2 = k * 2 + 2 by omega]; exact hown, hb⟩
          case measure => simp [intOf]; omega
    · obtain rfl : k = xs.length := by omega
      go_wp2
      go_ret
      exact ⟨_, rfl, hown, hb⟩

end Go.Proofs.YtpahpdgkahomlaaGreatDoor
namespace Go.Proofs.YtpahpdgkahomlaaGreatDoor
open Go.RowKit
set_option maxRecDepth 100000


set_option maxRecDepth 100000 in
theorem len64_u32 (W : World) : Calls Tryz.prog 110 #[.int .u64 4294967295] W fun e w' => e = .returned (.int .i64 32) ∧ w' = W := by
  have h := len_255
  go_enter Tryz.func110, Tryz.ntmps110
  go_wp2
  go_ret
  exact ⟨by first | rfl | simp [h], rfl⟩
theorem width_u32 (W : World) : Calls Tryz.prog 99 #[] W fun e w' => e = .returned (.int .i64 4) ∧ w' = W := by
  go_enter Tryz.func99, Tryz.ntmps99
  go_wp2_with (go_at_call 110; refine (len64_u32 _).mono ?_; rintro e wq ⟨rfl, hq⟩; subst wq)
  go_ret
  exact ⟨rfl, rfl⟩

set_option maxRecDepth 100000 in
theorem or_u32 (x c : Int) (s : Nat) (hs : s < 32) (x0 : 0 ≤ x) (x1 : x < 2 ^ s) (c0 : 0 ≤ c) (c1 : c ≤ 255) (hc : c * 2 ^ s < 4294967296) : bits .or .u32 x (c * 2 ^ s) = x + c * 2 ^ s := by
  obtain ⟨n, rfl⟩ := Int.eq_ofNat_of_zero_le x0
  obtain ⟨m, rfl⟩ := Int.eq_ofNat_of_zero_le c0
  have h1 : n < 2 ^ s := by exact_mod_cast x1
  have e1 : ((m * 2 ^ s : Nat) : Int) = (m : Int) * 2 ^ s := by push_cast; rfl
  have h2 : m * 2 ^ s < 4294967296 := by rw [← e1] at hc; omega
  have h3 : (2 : Nat) ^ s < 4294967296 := Nat.lt_of_lt_of_le (Nat.pow_lt_pow_right (by omega) hs) (by decide)
  have := u32_or_nat n (m * 2 ^ s) (by omega) h2
  rw [shl_or m n s h1] at this
  rw [← e1, this]
  push_cast
  rfl
set_option maxRecDepth 100000 in
set_option maxHeartbeats 1000000 in
theorem put_u32 (ao : Option Addr) (cap : Nat) (xs : List Int) (w : World) (hn : xs.length * 4 ≤ 140737488355328) (hwf : ∀ z ∈ xs, 0 ≤ z ∧ z < 4294967296) (hr : ReadsK w .u32 ao xs w.heap.size) :
    Calls Tryz.prog 75 #[.slice ao xs.length cap] w fun e w' => ∃ v, e = .returned v ∧ w'.ownsRow w.heap.size 5 1 v (xs.length * 4) (bv (puts 4 xs xs.length)) ∧ Below w.heap.size w w' := by
  obtain ⟨i0, hi, hz0, hz1, hz2⟩ := info_parts Tryz.info5
  obtain ⟨w1, hmk, hown0, hg0⟩ := run_make_own (P := Tryz.prog) w w.heap.size 24 5 i0 (.int .u8 0) 1 Tryz.underlying24 hi hz0 hz1 .i64 .i64 (xs.length * 4) (by rw [hz2]; omega) (by unfold maxLen; omega) (Nat.le_refl _)
  rw [show ((xs.length * 4 : Nat) : Int) = (xs.length : Int) * 4 by push_cast; rfl] at hmk
  have hb0 : Below w.heap.size w w1 := (Below.refl w.heap.size w).grown hg0 (Nat.le_refl _) (fun k e => by simp at e)
  clear hg0
  go_enter Tryz.func75, Tryz.ntmps75
  go_wp2_with (go_at_call 99; refine (width_u32 _).mono ?_; rintro e wq ⟨rfl, hq⟩; subst wq)
  go_loopw [3, 14] (fun v i wr => ∃ k : Nat, k ≤ xs.length ∧ i = .int .i64 k ∧ wr.ownsRow w.heap.size 5 1 v (k * 4) (bv (puts 4 xs k)) ∧ Below w.heap.size w wr)
    (fun _ i _ => xs.length - (intOf i).toNat)
  case atStart => exact ⟨0, Nat.zero_le _, rfl, by simpa [puts, bv] using hown0, hb0⟩
  case round =>
    clear hown0 hb0 hmk
    obtain ⟨k, hk, rfl, hown, hb⟩ := hrel
    by_cases hlt : k < xs.length
    · obtain ⟨b, off, rfl, hbl, hc⟩ := (hr.below hb) (by omega)
      have hck := hc k hlt
      clear hc
      have hts := take_snoc xs k hlt
      have hxw := hwf _ (getD_mem hlt)
      generalize xs.getD k 0 = x at hck hts hxw
      have HS : Hid (puts 4 xs (k + 1) = puts 4 xs k ++ nb 4 x) := by simp [puts, hts, Hid]
      clear hts hwf
      obtain ⟨hx0, hx1⟩ := hxw
      have hpl := puts_len 4 xs k hk
      generalize puts 4 xs k = PP at hown HS hpl
      go_wp2_with (go_at_call 99; refine (width_u32 _).mono ?_; rintro e wq ⟨rfl, hq⟩; subst wq)
      go_loopw [3, 19] (fun v i wr => ∃ j : Nat, j ≤ 4 ∧ i = .int .i64 j ∧ wr.ownsRow w.heap.size 5 1 v (k * 4 + j) (bv (PP ++ nb j x)) ∧ Below w.heap.size w wr)
        (fun _ i _ => 4 - (intOf i).toNat)
      case atStart => exact ⟨0, by omega, rfl, by simpa [nb] using hown, hb⟩
      case round =>
        clear hown hb hck hr
        obtain ⟨j, hj, rfl, hown, hb⟩ := hrel
        have hB := hb.size
        by_cases hlt2 : j < 4
        · have hjj : j = 0 ∨ j = 1 ∨ j = 2 ∨ j = 3 := by omega
          rcases hjj with rfl | hjj
          · go_wp2_with (at_builtin; refine wpList_append_own _ rfl _ _ 24 rfl w.heap.size 5 i0 (.int .u8 0) 1 1 Tryz.underlying24 hi hz0 hz1 hz2 rfl (by decide) _ _ _ rfl (hown.alloc _) ⟨_, 0, none⟩ 1 1 [.int .u8 (x / 1 % 256)] rfl rfl ?d1 ?d2 ?d3 ?d4 ?d5 ?_)
            case d1 =>
              intro j u hj
              match j, hj with
              | 0, hj => simp at hj; subst hj; simp [Addr.add] <;> omega
            case d2 => intro u hu; simp at hu; subst hu; rfl
            case d3 => unfold maxLen; omega
            case d4 => omega
            case d5 => simp; omega
            intro v' w2 hown' hgrow _
            have R1 := own_snoc (M := PP ++ nb (0 + 1) x) (by rw [nb_snoc, List.append_assoc]; rw [show x / 256 ^ 0 = x from by simp]) hown'
            have R2 := grown_below hb hB hown hgrow
            clear hown' hgrow hown
            go_wp2
            go_roundw
            case rel => exact ⟨0 + 1, by omega, by go_num, R1, R2⟩
            case measure => simp [intOf]
          rcases hjj with rfl | hjj
          · go_wp2_with (at_builtin; refine wpList_append_own _ rfl _ _ 24 rfl w.heap.size 5 i0 (.int .u8 0) 1 1 Tryz.underlying24 hi hz0 hz1 hz2 rfl (by decide) _ _ _ rfl (hown.alloc _) ⟨_, 0, none⟩ 1 1 [.int .u8 (x / 256 % 256)] rfl rfl ?d1 ?d2 ?d3 ?d4 ?d5 ?_)
            case d1 =>
              intro j u hj
              match j, hj with
              | 0, hj => simp at hj; subst hj; simp [Addr.add] <;> omega
            case d2 => intro u hu; simp at hu; subst hu; rfl
            case d3 => unfold maxLen; omega
            case d4 => omega
            case d5 => simp; omega
            intro v' w2 hown' hgrow _
            have R1 := own_snoc (M := PP ++ nb (1 + 1) x) (by rw [nb_snoc, List.append_assoc]; rfl) hown'
            have R2 := grown_below hb hB hown hgrow
            clear hown' hgrow hown
            go_wp2
            go_roundw
            case rel => exact ⟨1 + 1, by omega, by go_num, R1, R2⟩
            case measure => simp [intOf]
          rcases hjj with rfl | hjj
          · go_wp2_with (at_builtin; refine wpList_append_own _ rfl _ _ 24 rfl w.heap.size 5 i0 (.int .u8 0) 1 1 Tryz.underlying24 hi hz0 hz1 hz2 rfl (by decide) _ _ _ rfl (hown.alloc _) ⟨_, 0, none⟩ 1 1 [.int .u8 (x / 65536 % 256)] rfl rfl ?d1 ?d2 ?d3 ?d4 ?d5 ?_)
            case d1 =>
              intro j u hj
              match j, hj with
              | 0, hj => simp at hj; subst hj; simp [Addr.add] <;> omega
            case d2 => intro u hu; simp at hu; subst hu; rfl
            case d3 => unfold maxLen; omega
            case d4 => omega
            case d5 => simp; omega
            intro v' w2 hown' hgrow _
            have R1 := own_snoc (M := PP ++ nb (2 + 1) x) (by rw [nb_snoc, List.append_assoc]; rfl) hown'
            have R2 := grown_below hb hB hown hgrow
            clear hown' hgrow hown
            go_wp2
            go_roundw
            case rel => exact ⟨2 + 1, by omega, by go_num, R1, R2⟩
            case measure => simp [intOf]
          subst hjj
          · go_wp2_with (at_builtin; refine wpList_append_own _ rfl _ _ 24 rfl w.heap.size 5 i0 (.int .u8 0) 1 1 Tryz.underlying24 hi hz0 hz1 hz2 rfl (by decide) _ _ _ rfl (hown.alloc _) ⟨_, 0, none⟩ 1 1 [.int .u8 (x / 16777216 % 256)] rfl rfl ?d1 ?d2 ?d3 ?d4 ?d5 ?_)
            case d1 =>
              intro j u hj
              match j, hj with
              | 0, hj => simp at hj; subst hj; simp [Addr.add] <;> omega
            case d2 => intro u hu; simp at hu; subst hu; rfl
            case d3 => unfold maxLen; omega
            case d4 => omega
            case d5 => simp; omega
            intro v' w2 hown' hgrow _
            have R1 := own_snoc (M := PP ++ nb (3 + 1) x) (by rw [nb_snoc, List.append_assoc]; rfl) hown'
            have R2 := grown_below hb hB hown hgrow
            clear hown' hgrow hown
            go_wp2
            go_roundw
            case rel => exact ⟨3 + 1, by omega, by go_num, R1, R2⟩
            case measure => simp [intOf]
        · obtain rfl : j = 4 := by omega
          go_wp2
          go_roundw
          case rel => exact ⟨k + 1, by omega, by go_num, by rw [HS.out, show (k + 1) * 4 = k * 4 + 4 by omega]; exact hown, hb⟩
          case measure => simp [intOf]; omega
    · obtain rfl : k = xs.length := by omega
      go_wp2
      go_ret
      exact ⟨_, rfl, hown, hb⟩

end Go.Proofs.YtpahpdgkahomlaaGreatDoor
