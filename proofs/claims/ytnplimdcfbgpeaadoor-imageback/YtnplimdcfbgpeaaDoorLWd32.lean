import Derived.Test.YtnplimdcfbgpeaaDoorCLBase
import Derived.Laws.AppendOwn
import Derived.Laws.MakeOwn
import Derived.Lib.Tables
import Derived.Laws.CopyOwn
namespace Go.Proofs.YtnplimdcfbgpeaaDoor
open Go.RowKit
set_option maxRecDepth 100000


set_option maxRecDepth 100000 in
theorem len64_u32 (W : World) : Calls Tryd.prog 62 #[.int .u64 4294967295] W fun e w' => e = .returned (.int .i64 32) ∧ w' = W := by
  have h := len_255
  go_enter Tryd.func62, Tryd.ntmps62
  go_wp2
  go_ret
  exact ⟨by first | rfl | simp [h], rfl⟩
theorem width_u32 (W : World) : Calls Tryd.prog 47 #[] W fun e w' => e = .returned (.int .i64 4) ∧ w' = W := by
  go_enter Tryd.func47, Tryd.ntmps47
  go_wp2_with (go_at_call 62; refine (len64_u32 _).mono ?_; rintro e wq ⟨rfl, hq⟩; subst wq)
  go_ret
  exact ⟨rfl, rfl⟩

set_option maxHeartbeats 400000 in
theorem holds_u32 (ao : Option Addr) (n cap : Nat) (at_ : Int) (W : World) (hn : n ≤ 140737488355328) (t0 : -9223372036854775808 ≤ at_) (t1 : at_ ≤ 9223372036854775807) :
    Calls Tryd.prog 44 #[.slice ao n cap, .int .i64 at_] W fun e w' => e = .returned (.bool (decide (0 ≤ at_ ∧ at_ + 4 ≤ n))) ∧ w' = W := by
  by_cases h0 : 0 ≤ at_
  · by_cases h1 : at_ + 4 ≤ n
    · have HD : Hid (decide (0 ≤ at_ ∧ at_ + 4 ≤ (n : Int)) = true) := by simpa [Hid] using ⟨h0, h1⟩
      have d2 : decide ((4 : Int) ≤ (n : Int) - at_) = true := by simp; omega
      go_enter Tryd.func44, Tryd.ntmps44
      go_wp2_with (go_at_call 47; refine (width_u32 _).mono ?_; rintro e wq ⟨rfl, hq⟩; subst wq)
      go_ret
      exact ⟨by first | rfl | (rw [HD.out]; first | rfl | simp), rfl⟩
    · have HD : Hid (decide (0 ≤ at_ ∧ at_ + 4 ≤ (n : Int)) = false) := by simp [Hid]; omega
      have d2 : decide ((4 : Int) ≤ (n : Int) - at_) = false := by simp; omega
      go_enter Tryd.func44, Tryd.ntmps44
      go_wp2_with (go_at_call 47; refine (width_u32 _).mono ?_; rintro e wq ⟨rfl, hq⟩; subst wq)
      go_ret
      exact ⟨by first | rfl | (rw [HD.out]; first | rfl | simp), rfl⟩
  · have HD : Hid (decide (0 ≤ at_ ∧ at_ + 4 ≤ (n : Int)) = false) := by simp [Hid]; omega
    have d1 : decide (0 ≤ at_) = false := by simp; omega
    go_enter Tryd.func44, Tryd.ntmps44
    go_wp2_with (go_at_call 47; refine (width_u32 _).mono ?_; rintro e wq ⟨rfl, hq⟩; subst wq)
    go_ret
    exact ⟨by first | rfl | (rw [HD.out]; first | rfl | simp), rfl⟩

set_option maxRecDepth 100000 in
theorem or_u32 (x c : Int) (s : Nat) (hs : s < 32) (x0 : 0 ≤ x) (x1 : x < 2 ^ s) (c0 : 0 ≤ c) (c1 : c ≤ 255) (hc : c * 2 ^ s < 4294967296) : bits .or .u32 x (c * 2 ^ s) = x + c * 2 ^ s := by
  obtain ⟨n, rfl⟩ := Int.eq_ofNat_of_zero_le x0
  obtain ⟨m, rfl⟩ := Int.eq_ofNat_of_zero_le c0
  have h1 : n < 2 ^ s := by exact_mod_cast x1
  have e1 : ((m * 2 ^ s : Nat) : Int) = (m : Int) * 2 ^ s := by push_cast; rfl
  have h2 : m * 2 ^ s < 4294967296 := by rw [← e1] at hc; omega
  have h3 : (2 : Nat) ^ s < 4294967296 := Nat.lt_of_lt_of_le (Nat.pow_lt_pow_right (by omega) hs) (by decide)
  have := u32_or_nat n (m * 2 ^ s) (by omega) h2
  rw [shl_or m n s h1] at this
  rw [← e1, this]
  push_cast
  rfl
set_option maxHeartbeats 1000000 in
theorem number_u32 (b off n cap : Nat) (zs : List Int) (W : World) (hz : zs.length = n) (hn : 4 ≤ n) (hn2 : n ≤ 140737488355328) (hwf : ∀ z ∈ zs, 0 ≤ z ∧ z ≤ 255) (hc : ∀ j, j < zs.length → W.cell? ⟨b, off + j, none⟩ = some (.int .u8 (zs.getD j 0))) :
    Calls Tryd.prog 65 #[.slice (some ⟨b, off, none⟩) n cap] W fun e w' => e = .returned (.int .u32 (num (zs.take 4))) ∧ w' = W := by
  subst hz
  go_enter Tryd.func65, Tryd.ntmps65
  go_wp2_with (go_at_call 47; refine (width_u32 _).mono ?_; rintro e wq ⟨rfl, hq⟩; subst wq)
  go_loop [3, 6] (fun x i => ∃ k : Nat, k ≤ 4 ∧ i = .int .i64 k ∧ x = .int .u32 (num (zs.take k)))
    (fun _ i => 4 - (intOf i).toNat)
  case atStart => exact ⟨0, Nat.zero_le _, rfl, rfl⟩
  case round =>
    obtain ⟨k, hk, rfl, rfl⟩ := hrel
    by_cases hlt : k < 4
    · have hck := hc k (by omega)
      have hcw := hwf _ (getD_mem (show k < zs.length by omega))
      have hts := take_snoc zs k (by omega)
      have hnr := num_range (zs.take k) (fun z hz => hwf z (List.mem_of_mem_take hz))
      have hl : (zs.take k).length = k := by simp; omega
      rw [hl] at hnr
      generalize zs.getD k 0 = c at hck hts hcw
      have HS : Hid (num (zs.take (k + 1)) = num (zs.take k) + 256 ^ k * c) := by rw [hts, num_snoc, hl]; exact rfl
      clear hts hl
      generalize num (zs.take k) = x at hnr HS
      obtain ⟨x0, x1⟩ := hnr
      obtain ⟨c0, c1⟩ := hcw
      have hkk : k = 0 ∨ k = 1 ∨ k = 2 ∨ k = 3 := by omega
      have hkz : k < zs.length := by omega
      clear hc hwf
      rcases hkk with rfl | hkk
      · have x1' : x < 1 := x1
        have ho := or_u32 x c 0 (by omega) x0 x1 c0 c1 (by omega)
        rw [show (2 : Int) ^ 0 = 1 from rfl] at ho
        rw [Int.mul_one] at ho; rw [Nat.add_zero] at hck
        go_wp2
        go_round
        case rel => exact ⟨0 + 1, by omega, by go_num, by rw [HS.out, Int.mul_comm, show (256 : Int) ^ 0 = 1 from rfl] ; rw [Int.mul_one]⟩
        case measure => simp [intOf]
      rcases hkk with rfl | hkk
      · have x1' : x < 256 := x1
        have ho := or_u32 x c 8 (by omega) x0 x1 c0 c1 (by omega)
        rw [show (2 : Int) ^ 8 = 256 from rfl] at ho
        clear x1
        go_wp2
        go_round
        case rel => exact ⟨1 + 1, by omega, by go_num, by rw [HS.out, Int.mul_comm, show (256 : Int) ^ 1 = 256 from rfl]⟩
        case measure => simp [intOf]
      rcases hkk with rfl | hkk
      · have x1' : x < 65536 := x1
        have ho := or_u32 x c 16 (by omega) x0 x1 c0 c1 (by omega)
        rw [show (2 : Int) ^ 16 = 65536 from rfl] at ho
        clear x1
        go_wp2
        go_round
        case rel => exact ⟨2 + 1, by omega, by go_num, by rw [HS.out, Int.mul_comm, show (256 : Int) ^ 2 = 65536 from rfl]⟩
        case measure => simp [intOf]
      subst hkk
      · have x1' : x < 16777216 := x1
        have ho := or_u32 x c 24 (by omega) x0 x1 c0 c1 (by omega)
        rw [show (2 : Int) ^ 24 = 16777216 from rfl] at ho
        clear x1
        go_wp2
        go_round
        case rel => exact ⟨3 + 1, by omega, by go_num, by rw [HS.out, Int.mul_comm, show (256 : Int) ^ 3 = 16777216 from rfl]⟩
        case measure => simp [intOf]
    · obtain rfl : k = 4 := by omega
      go_wp2
      go_ret
      exact ⟨rfl, rfl⟩

set_option maxHeartbeats 1000000 in
theorem at_u32 (ao : Option Addr) (cap : Nat) (zs : List Int) (at_ : Int) (W : World) (hn : zs.length ≤ 140737488355328) (hcp : zs.length ≤ cap) (hwf : ∀ z ∈ zs, 0 ≤ z ∧ z ≤ 255) (hr : Reads W ao zs W.heap.size) (t0 : -9223372036854775808 ≤ at_) (t1 : at_ ≤ 9223372036854775807) :
    Calls Tryd.prog 49 #[.slice ao zs.length cap, .int .i64 at_] W fun e w' => e = .returned (.tuple #[.int .u32 (atv 4 zs at_), .int .i64 (ate 4 zs.length at_)]) ∧ w' = W := by
  have hh := holds_u32 ao zs.length cap at_ W hn t0 t1
  by_cases h : 0 ≤ at_ ∧ at_ + 4 ≤ (zs.length : Int)
  · have HV : Hid (atv 4 zs at_ = num ((zs.drop at_.toNat).take 4) ∧ ate 4 zs.length at_ = 0) := by simp [atv, ate, h, Hid]
    rw [decide_eq_true h] at hh
    obtain ⟨h0, h1⟩ := h
    obtain ⟨b, off, rfl, hbl, hc⟩ := hr (by omega)
    obtain ⟨p, rfl⟩ := Int.eq_ofNat_of_zero_le h0
    have hcap : (p : Int) ≤ (zs.length : Int) := by omega
    have hpc : ¬ p = cap := by omega
    have hpc2 : ¬ cap = p := by omega
    have hd := number_u32 b (off + p) (zs.length - p) (cap - p) (zs.drop p) W (by simp) (by omega) (by omega) (fun z hz => hwf z (List.mem_of_mem_drop hz)) (fun j hj => by
      rw [List.length_drop] at hj
      have := hc (p + j) (by omega)
      rw [Nat.add_assoc, this]; simp [List.getD])
    clear hc hwf
    go_enter Tryd.func49, Tryd.ntmps49
    go_wp2_with (first | (go_at_call 44; refine hh.mono ?_; rintro e wq ⟨rfl, hq⟩; subst wq) | (go_at_call 65; with_reducible refine hd.mono ?_; rintro e wq ⟨rfl, hq⟩; subst wq))
    go_ret2
    exact ⟨by rw [HV.out.1, HV.out.2]; rfl, rfl⟩
  · have HV : Hid (atv 4 zs at_ = 0 ∧ ate 4 zs.length at_ = 20) := by simp [atv, ate, h, Hid]
    rw [decide_eq_false h] at hh
    clear h
    go_enter Tryd.func49, Tryd.ntmps49
    go_wp2_with (go_at_call 44; refine hh.mono ?_; rintro e wq ⟨rfl, hq⟩; subst wq)
    go_ret2
    exact ⟨by rw [HV.out.1, HV.out.2]; rfl, rfl⟩

set_option maxRecDepth 100000 in
set_option maxHeartbeats 1000000 in
theorem put_u32 (ao : Option Addr) (cap : Nat) (xs : List Int) (w : World) (hn : xs.length * 4 ≤ 140737488355328) (hwf : ∀ z ∈ xs, 0 ≤ z ∧ z < 4294967296) (hr : ReadsK w .u32 ao xs w.heap.size) :
    Calls Tryd.prog 33 #[.slice ao xs.length cap] w fun e w' => ∃ v, e = .returned v ∧ w'.ownsRow w.heap.size 5 1 v (xs.length * 4) (bv (puts 4 xs xs.length)) ∧ Below w.heap.size w w' := by
  obtain ⟨i0, hi, hz0, hz1, hz2⟩ := info_parts Tryd.info5
  obtain ⟨w1, hmk, hown0, hg0⟩ := run_make_own (P := Tryd.prog) w w.heap.size 24 5 i0 (.int .u8 0) 1 Tryd.underlying24 hi hz0 hz1 .i64 .i64 (xs.length * 4) (by rw [hz2]; omega) (by unfold maxLen; omega) (Nat.le_refl _)
  rw [show ((xs.length * 4 : Nat) : Int) = (xs.length : Int) * 4 by push_cast; rfl] at hmk
  have hb0 : Below w.heap.size w w1 := (Below.refl w.heap.size w).grown hg0 (Nat.le_refl _) (fun k e => by simp at e)
  clear hg0
  go_enter Tryd.func33, Tryd.ntmps33
  go_wp2_with (go_at_call 47; refine (width_u32 _).mono ?_; rintro e wq ⟨rfl, hq⟩; subst wq)
  go_loopw [3, 14] (fun v i wr => ∃ k : Nat, k ≤ xs.length ∧ i = .int .i64 k ∧ wr.ownsRow w.heap.size 5 1 v (k * 4) (bv (puts 4 xs k)) ∧ Below w.heap.size w wr)
    (fun _ i _ => xs.length - (intOf i).toNat)
  case atStart => exact ⟨0, Nat.zero_le _, rfl, by simpa [puts, bv] using hown0, hb0⟩
  case round =>
    clear hown0 hb0 hmk
    obtain ⟨k, hk, rfl, hown, hb⟩ := hrel
    by_cases hlt : k < xs.length
    · obtain ⟨b, off, rfl, hbl, hc⟩ := (hr.below hb) (by omega)
      have hck := hc k hlt
      clear hc
      have hts := take_snoc xs k hlt
      have hxw := hwf _ (getD_mem hlt)
      generalize xs.getD k 0 = x at hck hts hxw
      have HS : Hid (puts 4 xs (k + 1) = puts 4 xs k ++ nb 4 x) := by simp [puts, hts, Hid]
      clear hts hwf
      obtain ⟨hx0, hx1⟩ := hxw
      have hpl := puts_len 4 xs k hk
      generalize puts 4 xs k = PP at hown HS hpl
      go_wp2_with (go_at_call 47; refine (width_u32 _).mono ?_; rintro e wq ⟨rfl, hq⟩; subst wq)
      go_loopw [3, 19] (fun v i wr => ∃ j : Nat, j ≤ 4 ∧ i = .int .i64 j ∧ wr.ownsRow w.heap.size 5 1 v (k * 4 + j) (bv (PP ++ nb j x)) ∧ Below w.heap.size w wr)
        (fun _ i _ => 4 - (intOf i).toNat)
      case atStart => exact ⟨0, by omega, rfl, by simpa [nb] using hown, hb⟩
      case round =>
        clear hown hb hck hr
        obtain ⟨j, hj, rfl, hown, hb⟩ := hrel
        have hB := hb.size
        by_cases hlt2 : j < 4
        · have hjj : j = 0 ∨ j = 1 ∨ j = 2 ∨ j = 3 := by omega
          rcases hjj with rfl | hjj
          · go_wp2_with (at_builtin; refine wpList_append_own _ rfl _ _ 24 rfl w.heap.size 5 i0 (.int .u8 0) 1 1 Tryd.underlying24 hi hz0 hz1 hz2 rfl (by decide) _ _ _ rfl (hown.alloc _) ⟨_, 0, none⟩ 1 1 [.int .u8 (x / 1 % 256)] rfl rfl ?d1 ?d2 ?d3 ?d4 ?d5 ?_)
            case d1 =>
              intro j u hj
              match j, hj with
              | 0, hj => simp at hj; subst hj; simp [Addr.add] <;> omega
            case d2 => intro u hu; simp at hu; subst hu; rfl
            case d3 => unfold maxLen; omega
            case d4 => omega
            case d5 => simp; omega
            intro v' w2 hown' hgrow _
            have R1 := own_snoc (M := PP ++ nb (0 + 1) x) (by rw [nb_snoc, List.append_assoc]; rw [show x / 256 ^ 0 = x from by simp]) hown'
            have R2 := grown_below hb hB hown hgrow
            clear hown' hgrow hown
            go_wp2
            go_roundw
            case rel => exact ⟨0 + 1, by omega, by go_num, R1, R2⟩
            case measure => simp [intOf]
          rcases hjj with rfl | hjj
          · go_wp2_with (at_builtin; refine wpList_append_own _ rfl _ _ 24 rfl w.heap.size 5 i0 (.int .u8 0) 1 1 Tryd.underlying24 hi hz0 hz1 hz2 rfl (by decide) _ _ _ rfl (hown.alloc _) ⟨_, 0, none⟩ 1 1 [.int .u8 (x / 256 % 256)] rfl rfl ?d1 ?d2 ?d3 ?d4 ?d5 ?_)
            case d1 =>
              intro j u hj
              match j, hj with
              | 0, hj => simp at hj; subst hj; simp [Addr.add] <;> omega
            case d2 => intro u hu; simp at hu; subst hu; rfl
            case d3 => unfold maxLen; omega
            case d4 => omega
            case d5 => simp; omega
            intro v' w2 hown' hgrow _
            have R1 := own_snoc (M := PP ++ nb (1 + 1) x) (by rw [nb_snoc, List.append_assoc]; rfl) hown'
            have R2 := grown_below hb hB hown hgrow
            clear hown' hgrow hown
            go_wp2
            go_roundw
            case rel => exact ⟨1 + 1, by omega, by go_num, R1, R2⟩
            case measure => simp [intOf]
          rcases hjj with rfl | hjj
          · go_wp2_with (at_builtin; refine wpList_append_own _ rfl _ _ 24 rfl w.heap.size 5 i0 (.int .u8 0) 1 1 Tryd.underlying24 hi hz0 hz1 hz2 rfl (by decide) _ _ _ rfl (hown.alloc _) ⟨_, 0, none⟩ 1 1 [.int .u8 (x / 65536 % 256)] rfl rfl ?d1 ?d2 ?d3 ?d4 ?d5 ?_)
            case d1 =>
              intro j u hj
              match j, hj with
              | 0, hj => simp at hj; subst hj; simp [Addr.add] <;> omega
            case d2 => intro u hu; simp at hu; subst hu; rfl
            case d3 => unfold maxLen; omega
            case d4 => omega
            case d5 => simp; omega
            intro v' w2 hown' hgrow _
            have R1 := own_snoc (M := PP ++ nb (2 + 1) x) (by rw [nb_snoc, List.append_assoc]; rfl) hown'
            have R2 := grown_below hb hB hown hgrow
            clear hown' hgrow hown
            go_wp2
            go_roundw
            case rel => exact ⟨2 + 1, by omega, by go_num, R1, R2⟩
            case measure => simp [intOf]
          subst hjj
          · go_wp2_with (at_builtin; refine wpList_append_own _ rfl _ _ 24 rfl w.heap.size 5 i0 (.int .u8 0) 1 1 Tryd.underlying24 hi hz0 hz1 hz2 rfl (by decide) _ _ _ rfl (hown.alloc _) ⟨_, 0, none⟩ 1 1 [.int .u8 (x / 16777216 % 256)] rfl rfl ?d1 ?d2 ?d3 ?d4 ?d5 ?_)
            case d1 =>
              intro j u hj
              match j, hj with
              | 0, hj => simp at hj; subst hj; simp [Addr.add] <;> omega
            case d2 => intro u hu; simp at hu; subst hu; rfl
            case d3 => unfold maxLen; omega
            case d4 => omega
            case d5 => simp; omega
            intro v' w2 hown' hgrow _
            have R1 := own_snoc (M := PP ++ nb (3 + 1) x) (by rw [nb_snoc, List.append_assoc]; rfl) hown'
            have R2 := grown_below hb hB hown hgrow
            clear hown' hgrow hown
            go_wp2
            go_roundw
            case rel => exact ⟨3 + 1, by omega, by go_num, R1, R2⟩
            case measure => simp [intOf]
        · obtain rfl : j = 4 := by omega
          go_wp2
          go_roundw
          case rel => exact ⟨k + 1, by omega, by go_num, by rw [HS.out, show (k + 1) * 4 = k * 4 + 4 by omega]; exact hown, hb⟩
          case measure => simp [intOf]; omega
    · obtain rfl : k = xs.length := by omega
      go_wp2
      go_ret
      exact ⟨_, rfl, hown, hb⟩

set_option maxRecDepth 100000 in
set_option maxHeartbeats 2000000 in
theorem with_u32 (ao : Option Addr) (cap : Nat) (zs : List Int) (at_ x : Int) (W : World) (hn : zs.length ≤ 140737488355328) (hr : Reads W ao zs W.heap.size) (t0 : -9223372036854775808 ≤ at_) (t1 : at_ ≤ 9223372036854775807) (x0 : 0 ≤ x) (x1 : x < 4294967296) (hin : 0 ≤ at_ ∧ at_ + 4 ≤ (zs.length : Int)) :
    Calls Tryd.prog 31 #[.slice ao zs.length cap, .int .i64 at_, .int .u32 x] W fun e w' => ∃ v, e = .returned (.tuple #[v, .int .i64 0]) ∧ w'.ownsRow W.heap.size 5 1 v zs.length (bv (wth 4 zs at_.toNat x)) ∧ Below W.heap.size W w' := by
  have hh := holds_u32 ao zs.length cap at_ W hn t0 t1
  rw [decide_eq_true hin] at hh
  obtain ⟨h0, h1⟩ := hin
  obtain ⟨b, off, rfl, hbl, _⟩ := hr (by omega)
  obtain ⟨p, rfl⟩ := Int.eq_ofNat_of_zero_le h0
  have hcl := clone_any (some ⟨b, off, none⟩) cap zs W hn (by simp) hr
  go_enter Tryd.func31, Tryd.ntmps31
  go_wp2_with (go_at_call 44; refine hh.mono ?_; rintro e wq ⟨rfl, hq⟩; subst wq)
  refine hcl.mono ?_
  rintro e w1 ⟨v, rfl, own1, hb1⟩
  have own1' := own1
  rcases own1.2 with ⟨_, hz⟩ | ⟨g, cf, cur, rfl, hgb, hgc, hnc, hcm, hcs, htk⟩
  · omega
  have hz1 := hb1.size
  have hpc : ¬ p = cf := by omega
  have hpc2 : ¬ cf = p := by omega
  have hpl : (p : Int) ≤ (zs.length : Int) := by omega
  have HP : Calls Tryd.prog 33 #[.slice (some ⟨w1.heap.size, 0, none⟩) 1 1] (w1.alloc (.cells #[.int .u32 x] 25)).drew fun e w' => ∃ v, e = .returned v ∧ w'.ownsRow (w1.heap.size + 1) 5 1 v 4 (bv (nb 4 x)) ∧ Below (w1.heap.size + 1) (w1.alloc (.cells #[.int .u32 x] 25)).drew w' := by
    have := put_u32 (some ⟨w1.heap.size, 0, none⟩) 1 [x] (w1.alloc (.cells #[.int .u32 x] 25)).drew (by simp) (by simp; omega) (lit_readsK w1 _ 25 x)
    simpa [puts] using this
  have hgl : g < w1.heap.size := (own1'.lt g rfl).2
  have hbd : Below w1.heap.size w1 (w1.alloc (.cells #[.int .u32 x] 25)).drew := ((Below.refl w1.heap.size w1).alloc (Nat.le_refl _) _).drew
  have hgc2 : (w1.alloc (.cells #[.int .u32 x] 25)).drew.heap[g]? = some (.cells cur.toList.toArray 5) := (hbd.block g hgl).trans (by simpa using hgc)
  have hmin : (bv (nb 4 x)).length = Nat.min 4 (zs.length - p) := by rw [bv_len, nb_len]; show 4 = min 4 (zs.length - p); omega
  have hfit : p + (bv (nb 4 x)).length ≤ cur.toList.length := by rw [bv_len, nb_len, Array.length_toList]; omega
  clear hcl hh own1' own1 hr
  go_wp2_with fail
  go_region_law (first
    | (rw [if_pos (by simp [Region.wanted])]; unfold Oper.wp; go_simp; go_at_call 33; with_reducible refine HP.mono ?_; rintro e w2 ⟨v2, rfl, own2, hb2⟩; obtain ⟨g2, c2, rfl, hc2⟩ := own_form own2 (by decide))
    | (refine step_copy_splice rfl _ _ 24 24 rfl 5 Tryd.underlying24 Tryd.sz5 _ _ _ _ _ _ rfl rfl g p cur.toList 5 (by rw [hb2.block g (by omega)]; exact hgc2) (bv (nb 4 x)) hmin (fun _ => ⟨rfl, _, rfl, fun j u hj => own2.cells (g := g2) rfl j u hj⟩) hfit (fun u hu => by simp [bv] at hu; obtain ⟨z, _, rfl⟩ := hu; rfl) W.heap.size W (hb1.trans ((hbd.trans (hb2.mono (Nat.le_succ _))).mono hz1)) hgb ?_; intro w3 HG3 hb3))
  have HW : Hid (w3.ownsRow W.heap.size 5 1 (.slice (some ⟨g, 0, none⟩) zs.length cf) zs.length (bv (wth 4 zs p x))) := by
    refine ⟨?_, .inr ⟨g, cf, _, rfl, hgb, HG3.out, hnc, hcm, ?_, ?_⟩⟩
    · simp [bv, wth, nb_len]; omega
    · rw [List.size_toArray, length_splice _ _ _ hfit, Array.length_toList, hcs]
    · exact splice_wth 4 cur.toList zs p x (by omega) (by simpa using htk)
  clear HG3 hgc hgc2 htk hcs hfit hmin own2 hb2 hbd
  go_wp2_with fail
  go_ret2
  exact ⟨_, rfl, HW.out, hb3⟩

theorem withE_u32 (ao : Option Addr) (n cap : Nat) (at_ x : Int) (W : World) (hn : n ≤ 140737488355328) (t0 : -9223372036854775808 ≤ at_) (t1 : at_ ≤ 9223372036854775807) (hin : ¬ (0 ≤ at_ ∧ at_ + 4 ≤ (n : Int))) :
    Calls Tryd.prog 31 #[.slice ao n cap, .int .i64 at_, .int .u32 x] W fun e w' => e = .returned (.tuple #[.slice none 0 0, .int .i64 20]) ∧ w' = W := by
  have hh := holds_u32 ao n cap at_ W hn t0 t1
  rw [decide_eq_false hin] at hh
  clear hin
  go_enter Tryd.func31, Tryd.ntmps31
  go_wp2_with (go_at_call 44; refine hh.mono ?_; rintro e wq ⟨rfl, hq⟩; subst wq)
  go_ret2
  exact ⟨rfl, rfl⟩
end Go.Proofs.YtnplimdcfbgpeaaDoor
