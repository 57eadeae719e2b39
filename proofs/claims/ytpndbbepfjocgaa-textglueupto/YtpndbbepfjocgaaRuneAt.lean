import Derived.Test.YtpndbbepfjocgaaDec
namespace Go.Proofs.Ytpndbbepfjocgaa
open Go.RowKit

/-- the bits of the bytes behind the first, gathered -/
def acc (s : ByteArray) (i : Nat) (r0 : Int) : Nat → Int
  | 0 => r0
  | k + 1 => acc s i r0 k * 64 + bt s (i + (k + 1)) - 128
abbrev isCont (s : ByteArray) (j : Nat) : Prop := 128 ≤ bt s j ∧ bt s j ≤ 191

theorem acc_range (s : ByteArray) (i : Nat) (r0 : Int) (h0 : 0 ≤ r0) (h1 : r0 ≤ 31) (k : Nat) (hk : k ≤ 3) (hc : ∀ j, 1 ≤ j → j ≤ k → isCont s (i + j)) :
    0 ≤ acc s i r0 k ∧ acc s i r0 k ≤ 8388607 ∧ (k ≤ 2 → acc s i r0 k ≤ 131071) := by
  have step : ∀ n, 1 ≤ n → n ≤ k → 128 ≤ bt s (i + n) ∧ bt s (i + n) ≤ 191 := fun n a b => hc n a b
  match k, hk with
  | 0, _ => simp only [acc]; omega
  | 1, _ => have := step 1 (by omega) (by omega); simp only [acc, Nat.zero_add]; omega
  | 2, _ => have := step 1 (by omega) (by omega); have := step 2 (by omega) (by omega); simp only [acc, Nat.zero_add, Nat.reduceAdd]; omega
  | 3, _ => have := step 1 (by omega) (by omega); have := step 2 (by omega) (by omega); have := step 3 (by omega) (by omega); simp only [acc, Nat.zero_add, Nat.reduceAdd]; omega

/-- what runeAt tells where the first byte says n bytes -/
def raN (s : ByteArray) (i n : Nat) (r0 least : Int) : Int × Nat :=
  if i + n ≤ s.size ∧ (∀ j, j < n → 1 ≤ j → isCont s (i + j)) ∧ least ≤ acc s i r0 (n - 1) ∧ acc s i r0 (n - 1) ≤ 1114111 ∧ ¬ (55296 ≤ acc s i r0 (n - 1) ∧ acc s i r0 (n - 1) ≤ 57343) then (acc s i r0 (n - 1), n) else (0, 0)
def ra (s : ByteArray) (i : Nat) : Int × Nat :=
  if bt s i < 128 then (bt s i, 1)
  else if bt s i < 192 then (0, 0)
  else if bt s i < 224 then raN s i 2 (bt s i - 192) 128
  else if bt s i < 240 then raN s i 3 (bt s i - 224) 2048
  else if bt s i < 248 then raN s i 4 (bt s i - 240) 65536
  else (0, 0)

theorem ret_pair {k l : IntKind} {a b c d : Int} (h : a = c) (h' : b = d) : Ending.returned (.tuple #[.int k a, .int l b]) = .returned (.tuple #[.int k c, .int l d]) := by rw [h, h']
theorem raN_short {s : ByteArray} {i n : Nat} {r0 least : Int} (h : ¬ i + n ≤ s.size) : raN s i n r0 least = (0, 0) := by
  unfold raN; rw [if_neg (fun c => h c.1)]
theorem raN_lost {s : ByteArray} {i n j : Nat} {r0 least : Int} (h1 : j < n) (h2 : 1 ≤ j) (h : ¬ isCont s (i + j)) : raN s i n r0 least = (0, 0) := by
  unfold raN; rw [if_neg (fun c => h (c.2.1 j h1 h2))]
theorem raN_bad {s : ByteArray} {i n : Nat} {r0 least : Int} (h : acc s i r0 (n - 1) < least ∨ 1114111 < acc s i r0 (n - 1) ∨ (55296 ≤ acc s i r0 (n - 1) ∧ acc s i r0 (n - 1) ≤ 57343)) : raN s i n r0 least = (0, 0) := by
  unfold raN
  rw [if_neg (fun c => ?_)]
  obtain ⟨_, _, c1, c2, c3⟩ := c
  rcases h with h | h | h
  · omega
  · omega
  · exact c3 h
theorem raN_good {s : ByteArray} {i n : Nat} {r0 least : Int} (h1 : i + n ≤ s.size) (h2 : ∀ j, j < n → 1 ≤ j → isCont s (i + j)) (h3 : least ≤ acc s i r0 (n - 1)) (h4 : acc s i r0 (n - 1) ≤ 1114111) (h5 : ¬ (55296 ≤ acc s i r0 (n - 1) ∧ acc s i r0 (n - 1) ≤ 57343)) : raN s i n r0 least = (acc s i r0 (n - 1), n) := by
  unfold raN; rw [if_pos ⟨h1, h2, h3, h4, h5⟩]

set_option maxRecDepth 100000 in
set_option maxHeartbeats 1000000 in
theorem ra_walkA (s : ByteArray) (i : Nat) (w : World) (hi : i < s.size) (h1 : bt s i < 128) :
    Calls Try.prog 29 #[.string s, .int .i64 i] w fun e w' => e = .returned (.tuple #[.int .i32 (bt s i), .int .i64 1]) ∧ w' = w := by
  have hiI : (i : Int) < (s.size : Int) := by omega
  have hbe := bt_eq s i hi
  obtain ⟨b, hb⟩ : ∃ b : Nat, b = bt s i := ⟨_, rfl⟩
  rw [← hb] at hbe h1 ⊢
  have hsi : (s[i]'hi).toNat = b := hbe.symm
  clear hbe hb
  go_enter Try.func29, Try.ntmps29
  go_wp2
  go_ret2
  exact ⟨rfl, rfl⟩

set_option maxRecDepth 100000 in
set_option maxHeartbeats 1000000 in
theorem ra_walkB (s : ByteArray) (i : Nat) (w : World) (hi : i < s.size) (h0 : 128 ≤ bt s i) (h1 : bt s i < 192) :
    Calls Try.prog 29 #[.string s, .int .i64 i] w fun e w' => e = .returned (.tuple #[.int .i32 0, .int .i64 0]) ∧ w' = w := by
  have hiI : (i : Int) < (s.size : Int) := by omega
  have hbe := bt_eq s i hi
  obtain ⟨b, hb⟩ : ∃ b : Nat, b = bt s i := ⟨_, rfl⟩
  rw [← hb] at hbe h0 h1
  have hsi : (s[i]'hi).toNat = b := hbe.symm
  clear hbe hb
  go_enter Try.func29, Try.ntmps29
  go_wp2
  go_ret2
  exact ⟨rfl, rfl⟩

set_option maxRecDepth 100000 in
set_option maxHeartbeats 1000000 in
theorem ra_walkC (s : ByteArray) (i : Nat) (w : World) (hi : i < s.size) (h0 : 248 ≤ bt s i) (h1 : bt s i < 256) :
    Calls Try.prog 29 #[.string s, .int .i64 i] w fun e w' => e = .returned (.tuple #[.int .i32 0, .int .i64 0]) ∧ w' = w := by
  have hiI : (i : Int) < (s.size : Int) := by omega
  have hbe := bt_eq s i hi
  obtain ⟨b, hb⟩ : ∃ b : Nat, b = bt s i := ⟨_, rfl⟩
  rw [← hb] at hbe h0 h1
  have hsi : (s[i]'hi).toNat = b := hbe.symm
  clear hbe hb
  go_enter Try.func29, Try.ntmps29
  go_wp2
  go_ret2
  exact ⟨rfl, rfl⟩

set_option maxRecDepth 100000 in
set_option maxHeartbeats 2000000 in
theorem ra_walk2 (s : ByteArray) (i : Nat) (w : World) (hs : s.size ≤ 140737488355328) (hi : i < s.size) (h0 : 192 ≤ bt s i) (h1 : bt s i < 224) :
    Calls Try.prog 29 #[.string s, .int .i64 i] w fun e w' => e = .returned (.tuple #[.int .i32 (raN s i 2 (bt s i - 192) 128).1, .int .i64 (raN s i 2 (bt s i - 192) 128).2]) ∧ w' = w := by
  have hiI : (i : Int) < (s.size : Int) := by omega
  have hbe := bt_eq s i hi
  obtain ⟨b, hb⟩ : ∃ b : Nat, b = bt s i := ⟨_, rfl⟩
  have HB : Hid (b = bt s i) := hb
  rw [← hb] at hbe h0 h1 ⊢
  have hsi : (s[i]'hi).toNat = b := hbe.symm
  clear hbe hb
  by_cases hsz : i + 2 ≤ s.size
  · have hszI : (i : Int) + 2 ≤ (s.size : Int) := by omega
    have dn0 : decide (b < 128) = false := by simp; omega
    have di0 : decide ((b : Int) < 128) = false := by simp; omega
    have dn1 : decide (192 ≤ b) = true := by simp; omega
    have di1 : decide ((192 : Int) ≤ (b : Int)) = true := by simp; omega
    have dn2 : decide (b < 224) = true := by simp; omega
    have di2 : decide ((b : Int) < 224) = true := by simp; omega
    have dn3 : decide (224 ≤ b) = false := by simp; omega
    have di3 : decide ((224 : Int) ≤ (b : Int)) = false := by simp; omega
    have dn4 : decide (b < 240) = true := by simp; omega
    have di4 : decide ((b : Int) < 240) = true := by simp; omega
    have dn5 : decide (240 ≤ b) = false := by simp; omega
    have di5 : decide ((240 : Int) ≤ (b : Int)) = false := by simp; omega
    have dn6 : decide (b < 248) = true := by simp; omega
    have di6 : decide ((b : Int) < 248) = true := by simp; omega
    have ds0 : decide (s.size < i + 2) = false := by simp; omega
    have ds1 : decide ((s.size : Int) < (i : Int) + 2) = false := by simp; omega
    go_enter Try.func29, Try.ntmps29
    go_wp2
    go_loop [8, 10, 11] (fun r k _ => ∃ m : Nat, 1 ≤ m ∧ m ≤ 2 ∧ k = .int .i64 m ∧ r = .int .i32 (acc s i ((b : Int) - 192) (m - 1)) ∧ ∀ j, 1 ≤ j → j ≤ m - 1 → isCont s (i + j)) (fun _ k _ => 2 - (intOf k).toNat)
    case atStart => exact ⟨1, by omega, by omega, rfl, rfl, fun j a c => by omega⟩
    case round =>
      obtain ⟨m, hm1, hm2, rfl, rfl, hc⟩ := hrel
      have HC : Hid (∀ j, 1 ≤ j → j ≤ m - 1 → isCont s (i + j)) := hc
      have har := acc_range s i ((b : Int) - 192) (by omega) (by omega) (m - 1) (by omega) hc
      obtain ⟨ha0, ha1, ha2⟩ := har
      clear hc
      by_cases hm : m < 2
      · have ha3 := ha2 (by omega)
        clear ha2 ha1
        have himn : i + m < s.size := by omega
        have himI : (i : Int) + (m : Int) < (s.size : Int) := by omega
        have hxe := bt_eq s (i + m) himn
        have hxl := bt_lt s (i + m)
        obtain ⟨x, hx⟩ : ∃ x : Nat, x = bt s (i + m) := ⟨_, rfl⟩
        have HX : Hid (x = bt s (i + m)) := hx
        rw [← hx] at hxe hxl
        have hsx : (s[i + m]'himn).toNat = x := hxe.symm
        clear hxe hx
        have HA : Hid (acc s i ((b : Int) - 192) m = acc s i ((b : Int) - 192) (m - 1) * 64 + x - 128) := by
          have : acc s i ((b : Int) - 192) (m - 1 + 1) = acc s i ((b : Int) - 192) (m - 1) * 64 + bt s (i + (m - 1 + 1)) - 128 := rfl
          rw [show m - 1 + 1 = m by omega] at this
          rw [Hid, this, HX.out]
        generalize acc s i ((b : Int) - 192) (m - 1) = a at *
        by_cases c1 : x < 128
        · have c1I : (x : Int) < 128 := by omega
          go_wp2
          go_ret2
          refine ⟨?_, rfl⟩
          rw [raN_lost (j := m) (by omega) (by omega) (fun h => by unfold isCont at h; rw [← HX.out] at h; omega)]; rfl
        · by_cases c2 : 191 < x
          · have c1I : (128 : Int) ≤ (x : Int) := by omega
            have c2I : (191 : Int) < (x : Int) := by omega
            go_wp2
            go_ret2
            refine ⟨?_, rfl⟩
            rw [raN_lost (j := m) (by omega) (by omega) (fun h => by unfold isCont at h; rw [← HX.out] at h; omega)]; rfl
          · have c1I : (128 : Int) ≤ (x : Int) := by omega
            have c2I : (x : Int) ≤ 191 := by omega
            go_wp2
            go_round
            case rel =>
              refine ⟨m + 1, by omega, by omega, by go_num, ?_, fun j j1 j2 => ?_⟩
              · rw [show m + 1 - 1 = m by omega, HA.out]
              · by_cases e : j = m
                · subst e; unfold isCont; rw [← HX.out]; omega
                · exact HC.out j j1 (by omega)
            case measure => simp [intOf]; omega
      · obtain rfl : m = 2 := by omega
        have HC2 : Hid (∀ j, j < 2 → 1 ≤ j → isCont s (i + j)) := fun j j1 j2 => HC.out j j2 (by omega)
        simp only [Nat.reduceSub] at ha0 ha1
        have HAA : Hid (acc s i ((b : Int) - 192) (2 - 1) = acc s i ((b : Int) - 192) 1) := rfl
        simp only [Nat.reduceSub]
        obtain ⟨a, ha⟩ : ∃ a, a = acc s i ((b : Int) - 192) 1 := ⟨_, rfl⟩
        have HA : Hid (a = acc s i ((b : Int) - 192) (2 - 1)) := ha
        rw [← ha] at ha0 ha1 ⊢
        clear ha HAA ha2
        by_cases g1 : a < 128
        · go_wp2
          go_ret2
          refine ⟨?_, rfl⟩
          rw [raN_bad (by rw [← HA.out]; exact .inl g1)]; rfl
        · by_cases g2 : 1114111 < a
          · have g1' : 128 ≤ a := by omega
            go_wp2
            go_ret2
            refine ⟨?_, rfl⟩
            rw [raN_bad (by rw [← HA.out]; exact .inr (.inl g2))]; rfl
          · by_cases g3 : 55296 ≤ a
            · by_cases g4 : a ≤ 57343
              · have g1' : 128 ≤ a := by omega
                have g2' : a ≤ 1114111 := by omega
                go_wp2
                go_ret2
                refine ⟨?_, rfl⟩
                rw [raN_bad (by rw [← HA.out]; exact .inr (.inr ⟨g3, g4⟩))]; rfl
              · have g1' : 128 ≤ a := by omega
                have g2' : a ≤ 1114111 := by omega
                have g4' : 57343 < a := by omega
                go_wp2
                go_ret2
                refine ⟨?_, rfl⟩
                rw [raN_good hsz HC2.out (by rw [← HA.out]; exact g1') (by rw [← HA.out]; exact g2') (by rw [← HA.out]; omega), ← HA.out]; rfl
            · have g1' : 128 ≤ a := by omega
              have g2' : a ≤ 1114111 := by omega
              have g3' : a < 55296 := by omega
              go_wp2
              go_ret2
              refine ⟨?_, rfl⟩
              rw [raN_good hsz HC2.out (by rw [← HA.out]; exact g1') (by rw [← HA.out]; exact g2') (by rw [← HA.out]; omega), ← HA.out]; rfl
  · have hszI : (s.size : Int) < (i : Int) + 2 := by omega
    go_enter Try.func29, Try.ntmps29
    go_wp2
    go_ret2
    refine ⟨?_, rfl⟩
    rw [raN_short hsz]; rfl

set_option maxRecDepth 100000 in
set_option maxHeartbeats 2000000 in
theorem ra_walk3 (s : ByteArray) (i : Nat) (w : World) (hs : s.size ≤ 140737488355328) (hi : i < s.size) (h0 : 224 ≤ bt s i) (h1 : bt s i < 240) :
    Calls Try.prog 29 #[.string s, .int .i64 i] w fun e w' => e = .returned (.tuple #[.int .i32 (raN s i 3 (bt s i - 224) 2048).1, .int .i64 (raN s i 3 (bt s i - 224) 2048).2]) ∧ w' = w := by
  have hiI : (i : Int) < (s.size : Int) := by omega
  have hbe := bt_eq s i hi
  obtain ⟨b, hb⟩ : ∃ b : Nat, b = bt s i := ⟨_, rfl⟩
  have HB : Hid (b = bt s i) := hb
  rw [← hb] at hbe h0 h1 ⊢
  have hsi : (s[i]'hi).toNat = b := hbe.symm
  clear hbe hb
  by_cases hsz : i + 3 ≤ s.size
  · have hszI : (i : Int) + 3 ≤ (s.size : Int) := by omega
    have dn0 : decide (b < 128) = false := by simp; omega
    have di0 : decide ((b : Int) < 128) = false := by simp; omega
    have dn1 : decide (192 ≤ b) = true := by simp; omega
    have di1 : decide ((192 : Int) ≤ (b : Int)) = true := by simp; omega
    have dn2 : decide (b < 224) = false := by simp; omega
    have di2 : decide ((b : Int) < 224) = false := by simp; omega
    have dn3 : decide (224 ≤ b) = true := by simp; omega
    have di3 : decide ((224 : Int) ≤ (b : Int)) = true := by simp; omega
    have dn4 : decide (b < 240) = true := by simp; omega
    have di4 : decide ((b : Int) < 240) = true := by simp; omega
    have dn5 : decide (240 ≤ b) = false := by simp; omega
    have di5 : decide ((240 : Int) ≤ (b : Int)) = false := by simp; omega
    have dn6 : decide (b < 248) = true := by simp; omega
    have di6 : decide ((b : Int) < 248) = true := by simp; omega
    have ds0 : decide (s.size < i + 3) = false := by simp; omega
    have ds1 : decide ((s.size : Int) < (i : Int) + 3) = false := by simp; omega
    go_enter Try.func29, Try.ntmps29
    go_wp2
    go_loop [8, 10, 11] (fun r k _ => ∃ m : Nat, 1 ≤ m ∧ m ≤ 3 ∧ k = .int .i64 m ∧ r = .int .i32 (acc s i ((b : Int) - 224) (m - 1)) ∧ ∀ j, 1 ≤ j → j ≤ m - 1 → isCont s (i + j)) (fun _ k _ => 3 - (intOf k).toNat)
    case atStart => exact ⟨1, by omega, by omega, rfl, rfl, fun j a c => by omega⟩
    case round =>
      obtain ⟨m, hm1, hm2, rfl, rfl, hc⟩ := hrel
      have HC : Hid (∀ j, 1 ≤ j → j ≤ m - 1 → isCont s (i + j)) := hc
      have har := acc_range s i ((b : Int) - 224) (by omega) (by omega) (m - 1) (by omega) hc
      obtain ⟨ha0, ha1, ha2⟩ := har
      clear hc
      by_cases hm : m < 3
      · have ha3 := ha2 (by omega)
        clear ha2 ha1
        have himn : i + m < s.size := by omega
        have himI : (i : Int) + (m : Int) < (s.size : Int) := by omega
        have hxe := bt_eq s (i + m) himn
        have hxl := bt_lt s (i + m)
        obtain ⟨x, hx⟩ : ∃ x : Nat, x = bt s (i + m) := ⟨_, rfl⟩
        have HX : Hid (x = bt s (i + m)) := hx
        rw [← hx] at hxe hxl
        have hsx : (s[i + m]'himn).toNat = x := hxe.symm
        clear hxe hx
        have HA : Hid (acc s i ((b : Int) - 224) m = acc s i ((b : Int) - 224) (m - 1) * 64 + x - 128) := by
          have : acc s i ((b : Int) - 224) (m - 1 + 1) = acc s i ((b : Int) - 224) (m - 1) * 64 + bt s (i + (m - 1 + 1)) - 128 := rfl
          rw [show m - 1 + 1 = m by omega] at this
          rw [Hid, this, HX.out]
        generalize acc s i ((b : Int) - 224) (m - 1) = a at *
        by_cases c1 : x < 128
        · have c1I : (x : Int) < 128 := by omega
          go_wp2
          go_ret2
          refine ⟨?_, rfl⟩
          rw [raN_lost (j := m) (by omega) (by omega) (fun h => by unfold isCont at h; rw [← HX.out] at h; omega)]; rfl
        · by_cases c2 : 191 < x
          · have c1I : (128 : Int) ≤ (x : Int) := by omega
            have c2I : (191 : Int) < (x : Int) := by omega
            go_wp2
            go_ret2
            refine ⟨?_, rfl⟩
            rw [raN_lost (j := m) (by omega) (by omega) (fun h => by unfold isCont at h; rw [← HX.out] at h; omega)]; rfl
          · have c1I : (128 : Int) ≤ (x : Int) := by omega
            have c2I : (x : Int) ≤ 191 := by omega
            go_wp2
            go_round
            case rel =>
              refine ⟨m + 1, by omega, by omega, by go_num, ?_, fun j j1 j2 => ?_⟩
              · rw [show m + 1 - 1 = m by omega, HA.out]
              · by_cases e : j = m
                · subst e; unfold isCont; rw [← HX.out]; omega
                · exact HC.out j j1 (by omega)
            case measure => simp [intOf]; omega
      · obtain rfl : m = 3 := by omega
        have HC2 : Hid (∀ j, j < 3 → 1 ≤ j → isCont s (i + j)) := fun j j1 j2 => HC.out j j2 (by omega)
        simp only [Nat.reduceSub] at ha0 ha1
        have HAA : Hid (acc s i ((b : Int) - 224) (3 - 1) = acc s i ((b : Int) - 224) 2) := rfl
        simp only [Nat.reduceSub]
        obtain ⟨a, ha⟩ : ∃ a, a = acc s i ((b : Int) - 224) 2 := ⟨_, rfl⟩
        have HA : Hid (a = acc s i ((b : Int) - 224) (3 - 1)) := ha
        rw [← ha] at ha0 ha1 ⊢
        clear ha HAA ha2
        by_cases g1 : a < 2048
        · go_wp2
          go_ret2
          refine ⟨?_, rfl⟩
          rw [raN_bad (by rw [← HA.out]; exact .inl g1)]; rfl
        · by_cases g2 : 1114111 < a
          · have g1' : 2048 ≤ a := by omega
            go_wp2
            go_ret2
            refine ⟨?_, rfl⟩
            rw [raN_bad (by rw [← HA.out]; exact .inr (.inl g2))]; rfl
          · by_cases g3 : 55296 ≤ a
            · by_cases g4 : a ≤ 57343
              · have g1' : 2048 ≤ a := by omega
                have g2' : a ≤ 1114111 := by omega
                go_wp2
                go_ret2
                refine ⟨?_, rfl⟩
                rw [raN_bad (by rw [← HA.out]; exact .inr (.inr ⟨g3, g4⟩))]; rfl
              · have g1' : 2048 ≤ a := by omega
                have g2' : a ≤ 1114111 := by omega
                have g4' : 57343 < a := by omega
                go_wp2
                go_ret2
                refine ⟨?_, rfl⟩
                rw [raN_good hsz HC2.out (by rw [← HA.out]; exact g1') (by rw [← HA.out]; exact g2') (by rw [← HA.out]; omega), ← HA.out]; rfl
            · have g1' : 2048 ≤ a := by omega
              have g2' : a ≤ 1114111 := by omega
              have g3' : a < 55296 := by omega
              go_wp2
              go_ret2
              refine ⟨?_, rfl⟩
              rw [raN_good hsz HC2.out (by rw [← HA.out]; exact g1') (by rw [← HA.out]; exact g2') (by rw [← HA.out]; omega), ← HA.out]; rfl
  · have hszI : (s.size : Int) < (i : Int) + 3 := by omega
    go_enter Try.func29, Try.ntmps29
    go_wp2
    go_ret2
    refine ⟨?_, rfl⟩
    rw [raN_short hsz]; rfl

set_option maxRecDepth 100000 in
set_option maxHeartbeats 2000000 in
theorem ra_walk4 (s : ByteArray) (i : Nat) (w : World) (hs : s.size ≤ 140737488355328) (hi : i < s.size) (h0 : 240 ≤ bt s i) (h1 : bt s i < 248) :
    Calls Try.prog 29 #[.string s, .int .i64 i] w fun e w' => e = .returned (.tuple #[.int .i32 (raN s i 4 (bt s i - 240) 65536).1, .int .i64 (raN s i 4 (bt s i - 240) 65536).2]) ∧ w' = w := by
  have hiI : (i : Int) < (s.size : Int) := by omega
  have hbe := bt_eq s i hi
  obtain ⟨b, hb⟩ : ∃ b : Nat, b = bt s i := ⟨_, rfl⟩
  have HB : Hid (b = bt s i) := hb
  rw [← hb] at hbe h0 h1 ⊢
  have hsi : (s[i]'hi).toNat = b := hbe.symm
  clear hbe hb
  by_cases hsz : i + 4 ≤ s.size
  · have hszI : (i : Int) + 4 ≤ (s.size : Int) := by omega
    have dn0 : decide (b < 128) = false := by simp; omega
    have di0 : decide ((b : Int) < 128) = false := by simp; omega
    have dn1 : decide (192 ≤ b) = true := by simp; omega
    have di1 : decide ((192 : Int) ≤ (b : Int)) = true := by simp; omega
    have dn2 : decide (b < 224) = false := by simp; omega
    have di2 : decide ((b : Int) < 224) = false := by simp; omega
    have dn3 : decide (224 ≤ b) = true := by simp; omega
    have di3 : decide ((224 : Int) ≤ (b : Int)) = true := by simp; omega
    have dn4 : decide (b < 240) = false := by simp; omega
    have di4 : decide ((b : Int) < 240) = false := by simp; omega
    have dn5 : decide (240 ≤ b) = true := by simp; omega
    have di5 : decide ((240 : Int) ≤ (b : Int)) = true := by simp; omega
    have dn6 : decide (b < 248) = true := by simp; omega
    have di6 : decide ((b : Int) < 248) = true := by simp; omega
    have ds0 : decide (s.size < i + 4) = false := by simp; omega
    have ds1 : decide ((s.size : Int) < (i : Int) + 4) = false := by simp; omega
    go_enter Try.func29, Try.ntmps29
    go_wp2
    go_loop [8, 10, 11] (fun r k _ => ∃ m : Nat, 1 ≤ m ∧ m ≤ 4 ∧ k = .int .i64 m ∧ r = .int .i32 (acc s i ((b : Int) - 240) (m - 1)) ∧ ∀ j, 1 ≤ j → j ≤ m - 1 → isCont s (i + j)) (fun _ k _ => 4 - (intOf k).toNat)
    case atStart => exact ⟨1, by omega, by omega, rfl, rfl, fun j a c => by omega⟩
    case round =>
      obtain ⟨m, hm1, hm2, rfl, rfl, hc⟩ := hrel
      have HC : Hid (∀ j, 1 ≤ j → j ≤ m - 1 → isCont s (i + j)) := hc
      have har := acc_range s i ((b : Int) - 240) (by omega) (by omega) (m - 1) (by omega) hc
      obtain ⟨ha0, ha1, ha2⟩ := har
      clear hc
      by_cases hm : m < 4
      · have ha3 := ha2 (by omega)
        clear ha2 ha1
        have himn : i + m < s.size := by omega
        have himI : (i : Int) + (m : Int) < (s.size : Int) := by omega
        have hxe := bt_eq s (i + m) himn
        have hxl := bt_lt s (i + m)
        obtain ⟨x, hx⟩ : ∃ x : Nat, x = bt s (i + m) := ⟨_, rfl⟩
        have HX : Hid (x = bt s (i + m)) := hx
        rw [← hx] at hxe hxl
        have hsx : (s[i + m]'himn).toNat = x := hxe.symm
        clear hxe hx
        have HA : Hid (acc s i ((b : Int) - 240) m = acc s i ((b : Int) - 240) (m - 1) * 64 + x - 128) := by
          have : acc s i ((b : Int) - 240) (m - 1 + 1) = acc s i ((b : Int) - 240) (m - 1) * 64 + bt s (i + (m - 1 + 1)) - 128 := rfl
          rw [show m - 1 + 1 = m by omega] at this
          rw [Hid, this, HX.out]
        generalize acc s i ((b : Int) - 240) (m - 1) = a at *
        by_cases c1 : x < 128
        · have c1I : (x : Int) < 128 := by omega
          go_wp2
          go_ret2
          refine ⟨?_, rfl⟩
          rw [raN_lost (j := m) (by omega) (by omega) (fun h => by unfold isCont at h; rw [← HX.out] at h; omega)]; rfl
        · by_cases c2 : 191 < x
          · have c1I : (128 : Int) ≤ (x : Int) := by omega
            have c2I : (191 : Int) < (x : Int) := by omega
            go_wp2
            go_ret2
            refine ⟨?_, rfl⟩
            rw [raN_lost (j := m) (by omega) (by omega) (fun h => by unfold isCont at h; rw [← HX.out] at h; omega)]; rfl
          · have c1I : (128 : Int) ≤ (x : Int) := by omega
            have c2I : (x : Int) ≤ 191 := by omega
            go_wp2
            go_round
            case rel =>
              refine ⟨m + 1, by omega, by omega, by go_num, ?_, fun j j1 j2 => ?_⟩
              · rw [show m + 1 - 1 = m by omega, HA.out]
              · by_cases e : j = m
                · subst e; unfold isCont; rw [← HX.out]; omega
                · exact HC.out j j1 (by omega)
            case measure => simp [intOf]; omega
      · obtain rfl : m = 4 := by omega
        have HC2 : Hid (∀ j, j < 4 → 1 ≤ j → isCont s (i + j)) := fun j j1 j2 => HC.out j j2 (by omega)
        simp only [Nat.reduceSub] at ha0 ha1
        have HAA : Hid (acc s i ((b : Int) - 240) (4 - 1) = acc s i ((b : Int) - 240) 3) := rfl
        simp only [Nat.reduceSub]
        obtain ⟨a, ha⟩ : ∃ a, a = acc s i ((b : Int) - 240) 3 := ⟨_, rfl⟩
        have HA : Hid (a = acc s i ((b : Int) - 240) (4 - 1)) := ha
        rw [← ha] at ha0 ha1 ⊢
        clear ha HAA ha2
        by_cases g1 : a < 65536
        · go_wp2
          go_ret2
          refine ⟨?_, rfl⟩
          rw [raN_bad (by rw [← HA.out]; exact .inl g1)]; rfl
        · by_cases g2 : 1114111 < a
          · have g1' : 65536 ≤ a := by omega
            go_wp2
            go_ret2
            refine ⟨?_, rfl⟩
            rw [raN_bad (by rw [← HA.out]; exact .inr (.inl g2))]; rfl
          · by_cases g3 : 55296 ≤ a
            · by_cases g4 : a ≤ 57343
              · have g1' : 65536 ≤ a := by omega
                have g2' : a ≤ 1114111 := by omega
                go_wp2
                go_ret2
                refine ⟨?_, rfl⟩
                rw [raN_bad (by rw [← HA.out]; exact .inr (.inr ⟨g3, g4⟩))]; rfl
              · have g1' : 65536 ≤ a := by omega
                have g2' : a ≤ 1114111 := by omega
                have g4' : 57343 < a := by omega
                go_wp2
                go_ret2
                refine ⟨?_, rfl⟩
                rw [raN_good hsz HC2.out (by rw [← HA.out]; exact g1') (by rw [← HA.out]; exact g2') (by rw [← HA.out]; omega), ← HA.out]; rfl
            · have g1' : 65536 ≤ a := by omega
              have g2' : a ≤ 1114111 := by omega
              have g3' : a < 55296 := by omega
              go_wp2
              go_ret2
              refine ⟨?_, rfl⟩
              rw [raN_good hsz HC2.out (by rw [← HA.out]; exact g1') (by rw [← HA.out]; exact g2') (by rw [← HA.out]; omega), ← HA.out]; rfl
  · have hszI : (s.size : Int) < (i : Int) + 4 := by omega
    go_enter Try.func29, Try.ntmps29
    go_wp2
    go_ret2
    refine ⟨?_, rfl⟩
    rw [raN_short hsz]; rfl

theorem ra_any (s : ByteArray) (i : Nat) (w : World) (hs : s.size ≤ 140737488355328) (hi : i < s.size) :
    Calls Try.prog 29 #[.string s, .int .i64 i] w fun e w' => e = .returned (.tuple #[.int .i32 (ra s i).1, .int .i64 (ra s i).2]) ∧ w' = w := by
  have hb := bt_lt s i
  unfold ra
  by_cases a1 : bt s i < 128
  · rw [if_pos a1]; exact ra_walkA s i w hi a1
  · rw [if_neg a1]
    by_cases a2 : bt s i < 192
    · rw [if_pos a2]; exact ra_walkB s i w hi (by omega) a2
    · rw [if_neg a2]
      by_cases a3 : bt s i < 224
      · rw [if_pos a3]; exact ra_walk2 s i w hs hi (by omega) a3
      · rw [if_neg a3]
        by_cases a4 : bt s i < 240
        · rw [if_pos a4]; exact ra_walk3 s i w hs hi (by omega) a4
        · rw [if_neg a4]
          by_cases a5 : bt s i < 248
          · rw [if_pos a5]; exact ra_walk4 s i w hs hi (by omega) a5
          · rw [if_neg a5]; exact ra_walkC s i w hi (by omega) (by omega)
end Go.Proofs.Ytpndbbepfjocgaa
