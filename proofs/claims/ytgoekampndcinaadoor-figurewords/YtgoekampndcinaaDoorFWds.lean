import Derived.Test.YtgoekampndcinaaDoorFFmt
namespace Go.Proofs.YtgoekampndcinaaDoor
open Go.RowKit

theorem itoa_neg' (x : Nat) (h : 2147483648 ≤ x) (h' : x < 4294967296) : Lib.itoa (sgd x) = 45 :: Lib.decDigits (4294967296 - x) := by
  have : sgd x = -((4294967296 - x : Nat) : Int) := by unfold sgd; rw [if_neg (by omega)]; omega
  rw [this, Lib.itoa_neg _ (by omega)]
theorem itoa_pos' (x : Nat) (h : x < 2147483648) : Lib.itoa (sgd x) = Lib.decDigits x := by
  have : sgd x = (x : Int) := by unfold sgd; rw [if_pos h]
  rw [this, Lib.itoa_nonneg]
theorem word_signed (x : Nat) (hx : x < 4294967296) : wordV (str (Lib.itoa (sgd x))) = (x, 0, 0) := by
  by_cases h : x < 2147483648
  · rw [itoa_pos' x h]
    have := word_pos 0 x hx (by omega)
    simpa using this
  · rw [itoa_neg' x (by omega) hx]
    have := word_neg 0 (4294967296 - x) (by omega) (by omega) (by omega)
    rw [show 4294967296 - (4294967296 - x) = x by omega] at this
    simpa using this
theorem str_tail (L : List UInt8) : (str (45 :: L)).extract 1 (str (45 :: L)).size = str L := by
  apply ByteArray.ext
  apply Array.toList_inj.1
  rw [Lib.extract_data]
  simp [str, ByteArray.size]
set_option maxRecDepth 100000 in
set_option maxHeartbeats 4000000 in
theorem fwords_neg (x n : Nat) (w : World) (hx : x < 4294967296) (hn : n < 256) (hneg : 2147483648 ≤ x) (ht : Tb w) :
    Calls Tryd.prog 4 #[.int .u32 x, .int .u8 n] w fun e w' => e = .returned (.bool true) ∧ Below w.heap.size w w' := by
  obtain ⟨r, hr'⟩ : ∃ r, n % 40 = r := ⟨_, rfl⟩
  have hr : r < 40 := by omega
  have hnI : (n : Int) % 40 = (r : Int) := by omega
  obtain ⟨D, hD⟩ : ∃ D, Lib.decDigits (4294967296 - x) = D := ⟨_, rfl⟩
  have hi := itoa_neg' x hneg hx
  have hwS := word_signed x hx
  have hwH := word_hex x hx
  have hwN := word_neg r (4294967296 - x) (by omega) (by omega) hr
  rw [show 4294967296 - (4294967296 - x) = x by omega] at hwN
  have hl := dec_len (4294967296 - x) (by omega)
  rw [hD] at hi hwN hl
  rw [hi] at hwS
  have HI : Hid (Lib.itoa (sgd x) = 45 :: D) := hi
  have HS : Hid (wordV (str (45 :: D)) = (x, 0, 0)) := hwS
  have HH : Hid (wordV (str (48 :: 120 :: byts (hk 8 x))) = (x, 0, 0)) := hwH
  have HN : Hid (wordV (str (45 :: (List.replicate r 48 ++ D))) = (x, 0, 0)) := hwN
  have hsz1 : (str (48 :: 120 :: byts (hk 8 x))).size = 10 := by rw [str_size, List.length_cons, List.length_cons, byts_len, hk_len]
  have hsz2 : (str (45 :: D)).size = D.length + 1 := by rw [str_size]; rfl
  have hsz3 : (str D).size = D.length := str_size D
  have HC : Hid ((⟨#[45]⟩ ++ str (List.replicate r 48)) ++ str D = str (45 :: (List.replicate r 48 ++ D))) := by
    rw [Hid, show (⟨#[45]⟩ : ByteArray) = str [45] from rfl, str_append, str_append]; rfl
  have HT : Hid ((str (45 :: D)).extract 1 (str (45 :: D)).size = str D) := str_tail D
  have ht' := str_tail D
  have h0 : 0 < (str (45 :: D)).size := by omega
  have hb0 : ((str (45 :: D))[0]'h0).toNat = 45 := rfl
  have hsz4 : (str (List.replicate r 48)).size = r := by rw [str_size]; simp
  have hwr : IntKind.i32.wrap (x : Int) = (x : Int) - 4294967296 := by rw [IntKind.wrap_i32]; omega
  clear hr' hi hwS hwH hwN hD
  have htm : Int.tmod (n : Int) 40 = (r : Int) := by rw [Int.tmod_eq_emod_of_nonneg (by omega)]; exact hnI
  have hne : ((str (45 :: D)).toList == []) = false := by rw [Lib.toList_data]; rfl
  have HRP : Hid (∀ w, Calls Tryd.prog 10 #[.string ⟨#[48]⟩, .int .i64 r] w fun e w' => e = .returned (.string (str (List.replicate r 48))) ∧ Below w.heap.size w w') := fun w => rep_any r w (by omega)
  have HHX : Hid (∀ w, Tb w → Calls Tryd.prog 7 #[.int .u32 x] w fun e w' => e = .returned (.string (str (48 :: 120 :: byts (hk 8 x)))) ∧ Below w.heap.size w w') := fun w ht => hex_any x w hx ht
  generalize str (45 :: (List.replicate r 48 ++ D)) = S3 at *
  have hs0 : bt (str (45 :: D)) 0 = 45 := by rw [str_bt _ 0 (by simp)]; rfl
  have HI2 : Hid (str (Lib.itoa (sgd x)) = str (45 :: D)) := by rw [Hid, HI.out]
  clear HI HT hb0 h0
  generalize str (45 :: D) = S at *
  generalize str D = T at *
  generalize str (48 :: 120 :: byts (hk 8 x)) = S2 at *
  generalize str (List.replicate r 48) = S4 at *
  have h0 : 0 < S.size := by omega
  have hb0 : (S[0]'h0).toNat = 45 := by rw [← bt_eq S 0 h0]; exact hs0
  have hSI : (S.size : Int) = (D.length : Int) + 1 := by omega
  have hTI : T.size ≤ 20 := by omega
  clear hs0
  rw [hsz2] at ht'
  have TB : Below w.heap.size w w := Below.refl _ _
  go_enter Tryd.func4, Tryd.ntmps4
  go_wp2_with (first
    | (go_at_call 5; refine (signed_any x _ hx (ht.below TB)).mono ?_; rintro e w1 ⟨rfl, hb⟩; rw [HI2.out]; replace TB : Below w.heap.size w w1 := TB.trans (hb.mono TB.size))
    | (go_at_call 7; refine (HHX.out _ (ht.below TB)).mono ?_; rintro e w1 ⟨rfl, hb⟩; replace TB : Below w.heap.size w w1 := TB.trans (hb.mono TB.size))
    | (go_at_call 10; refine (HRP.out _).mono ?_; rintro e w1 ⟨rfl, hb⟩; replace TB : Below w.heap.size w w1 := TB.trans (hb.mono TB.size))
    | (go_at_call 9; refine (word_any _ _).mono ?_; rintro e wq ⟨rfl, hq⟩; subst wq; first | rw [HS.out, trip] | rw [HH.out, trip] | rw [HC.out, HN.out, trip]))
  go_ret
  exact ⟨rfl, TB⟩
set_option maxRecDepth 100000 in
set_option maxHeartbeats 4000000 in
theorem fwords_pos (x n : Nat) (w : World) (hx : x < 4294967296) (hn : n < 256) (hpos : x < 2147483648) (ht : Tb w) :
    Calls Tryd.prog 4 #[.int .u32 x, .int .u8 n] w fun e w' => e = .returned (.bool true) ∧ Below w.heap.size w w' := by
  obtain ⟨r, hr'⟩ : ∃ r, n % 40 = r := ⟨_, rfl⟩
  have hr : r < 40 := by omega
  have hnI : (n : Int) % 40 = (r : Int) := by omega
  have htm : Int.tmod (n : Int) 40 = (r : Int) := by rw [Int.tmod_eq_emod_of_nonneg (by omega)]; exact hnI
  obtain ⟨D, hD⟩ : ∃ D, Lib.decDigits x = D := ⟨_, rfl⟩
  have hi := itoa_pos' x hpos
  have hwS := word_signed x hx
  have hwH := word_hex x hx
  have hwN := word_pos r x hx hr
  have hl := dec_len x (by omega)
  rw [hD] at hi hwN hl
  rw [hi] at hwS
  have HI2 : Hid (str (Lib.itoa (sgd x)) = str D) := by rw [Hid, hi]
  have HS : Hid (wordV (str D) = (x, 0, 0)) := hwS
  have HH : Hid (wordV (str (48 :: 120 :: byts (hk 8 x))) = (x, 0, 0)) := hwH
  have HN : Hid (wordV (str (List.replicate r 48 ++ D)) = (x, 0, 0)) := hwN
  have hsz1 : (str (48 :: 120 :: byts (hk 8 x))).size = 10 := by rw [str_size, List.length_cons, List.length_cons, byts_len, hk_len]
  have hsz3 : (str D).size = D.length := str_size D
  have HC : Hid ((⟨#[]⟩ ++ str (List.replicate r 48)) ++ str D = str (List.replicate r 48 ++ D)) := by
    rw [Hid, show (⟨#[]⟩ : ByteArray) = str [] from rfl, str_append, str_append]; rfl
  have HC2 : Hid (str (List.replicate r 48) ++ str D = str (List.replicate r 48 ++ D)) := str_append _ _
  have hsz4 : (str (List.replicate r 48)).size = r := by rw [str_size]; simp
  have hwr : IntKind.i32.wrap (x : Int) = (x : Int) := by rw [IntKind.wrap_i32]; omega
  have HRP : Hid (∀ w, Calls Tryd.prog 10 #[.string ⟨#[48]⟩, .int .i64 r] w fun e w' => e = .returned (.string (str (List.replicate r 48))) ∧ Below w.heap.size w w') := fun w => rep_any r w (by omega)
  have HHX : Hid (∀ w, Tb w → Calls Tryd.prog 7 #[.int .u32 x] w fun e w' => e = .returned (.string (str (48 :: 120 :: byts (hk 8 x)))) ∧ Below w.heap.size w w') := fun w ht => hex_any x w hx ht
  clear hr' hi hwS hwH hwN hD
  generalize str (List.replicate r 48 ++ D) = S3 at *
  generalize str D = S at *
  generalize str (48 :: 120 :: byts (hk 8 x)) = S2 at *
  generalize str (List.replicate r 48) = S4 at *
  have TB : Below w.heap.size w w := Below.refl _ _
  go_enter Tryd.func4, Tryd.ntmps4
  go_wp2_with (first
    | (go_at_call 5; refine (signed_any x _ hx (ht.below TB)).mono ?_; rintro e w1 ⟨rfl, hb⟩; rw [HI2.out]; replace TB : Below w.heap.size w w1 := TB.trans (hb.mono TB.size))
    | (go_at_call 7; refine (HHX.out _ (ht.below TB)).mono ?_; rintro e w1 ⟨rfl, hb⟩; replace TB : Below w.heap.size w w1 := TB.trans (hb.mono TB.size))
    | (go_at_call 10; refine (HRP.out _).mono ?_; rintro e w1 ⟨rfl, hb⟩; replace TB : Below w.heap.size w w1 := TB.trans (hb.mono TB.size))
    | (go_at_call 9; refine (word_any _ _).mono ?_; rintro e wq ⟨rfl, hq⟩; subst wq; first | rw [HS.out, trip] | rw [HH.out, trip] | rw [HC.out, HN.out, trip] | rw [HC2.out, HN.out, trip]))
  go_ret
  exact ⟨rfl, TB⟩
theorem fwords_any (x n : Nat) (w : World) (hx : x < 4294967296) (hn : n < 256) (ht : Tb w) :
    Calls Tryd.prog 4 #[.int .u32 x, .int .u8 n] w fun e w' => e = .returned (.bool true) ∧ Below w.heap.size w w' := by
  by_cases h : x < 2147483648
  · exact fwords_pos x n w hx hn h ht
  · exact fwords_neg x n w hx hn (by omega) ht
end Go.Proofs.YtgoekampndcinaaDoor
