import Derived.Test.YtpndbbepfjocgaaCULe
import Derived.Test.YtpndbbepfjocgaaUNm
import Derived.Test.YtpndbbepfjocgaaUFg
import Derived.Test.YtpndbbepfjocgaaCUSa
import Derived.Test.YtpndbbepfjocgaaCKGa
namespace Go.Proofs.Ytpndbbepfjocgaa
open Go.RowKit
set_option maxRecDepth 100000

/-- what the document's token gives at a place -/
def TkP (s : ByteArray) (G : List ByteArray) (a : Nat) (e : Ending) : Prop := ∃ (k x : Nat) (T : ByteArray) (p er : Int), e = .returned (.tuple #[.agg #[.int .u8 k, .int .i64 x, .string T], .int .i64 p, .int .i64 er]) ∧
  ((er = 0 ∧ (stp s G a).what = 1 ∧ k = (stp s G a).kind ∧ x = a ∧ T = s.extract a (stp s G a).go) ∨ (er ≠ 0 ∧ (stp s G a).what = 2 ∧ er = (stp s G a).err ∧ p = (stp s G a).place))
theorem tkp_tok {s : ByteArray} {G : List ByteArray} {a k g : Nat} {T : ByteArray} (h : stp s G a = ⟨1, k, g, 0, 0⟩) (hT : s.extract a g = T) : TkP s G a (.returned (.tuple #[.agg #[.int .u8 k, .int .i64 a, .string T], .int .i64 0, .int .i64 0])) :=
  ⟨k, a, T, 0, 0, rfl, .inl ⟨rfl, by rw [h], by rw [h], rfl, by rw [h, hT]⟩⟩
theorem stp_dig {s : ByteArray} {G : List ByteArray} {a : Nat} (ha : a < s.size) (h : digitL (bt s a : Int) = true) : stp s G a = ⟨1, 2, fgEnd s a, 0, 0⟩ := by
  have hb : 48 ≤ bt s a ∧ bt s a ≤ 57 := by unfold digitL at h; simp at h; omega
  have f := first_of s a ha (by omega)
  have hl : letterL (bt s a : Int) = false := by unfold letterL plainL; simp; omega
  unfold stp
  rw [f, if_neg (by omega), if_neg (by omega), if_neg (by omega), if_neg (by rw [hl]; simp; omega), if_pos h]
theorem name_no {n : Int} (h : nameL n = false) : n ≠ 95 ∧ letterL n = false ∧ digitL n = false := by
  unfold nameL at h
  simp only [Bool.or_eq_false_iff, decide_eq_false_iff_not] at h
  exact ⟨h.1.1, h.1.2, h.2⟩
theorem nm_digit {s : ByteArray} {a : Nat} (ha : a < s.size) (h : digitL (bt s a : Int) = false) : digitL (numAt s a) = false := by
  by_cases hb : bt s a < 128
  · rw [(dec_low s a ha hb).2]; exact h
  · have h2 := (dec_high s a ha (by omega)).2.1
    unfold digitL
    simp
    omega
theorem num_byte {s : ByteArray} {a : Nat} (ha : a < s.size) {n : Nat} (hn : n < 128) : numAt s a = n ↔ bt s a = n := by
  by_cases hb : bt s a < 128
  · rw [(dec_low s a ha hb).2]; omega
  · have h2 := (dec_high s a ha (by omega)).2.1
    omega
theorem stp_nam {s : ByteArray} {G : List ByteArray} {a : Nat} (ha : a < s.size) (hT : Tb s a) (h10 : bt s a ≠ 10) (hd : digitL (bt s a : Int) = false) (h : nameL (numAt s a) = true) : stp s G a = ⟨1, 1, nmEnd s a, 0, 0⟩ := by
  have f := first_sub s a ha
  obtain ⟨t1, t2, t3, t4⟩ := hT ha
  have n9 := num_byte ha (n := 9) (by omega)
  have n13 := num_byte ha (n := 13) (by omega)
  have n32 := num_byte ha (n := 32) (by omega)
  have n35 := num_byte ha (n := 35) (by omega)
  have n10 := num_byte ha (n := 10) (by omega)
  have hdd := nm_digit ha hd
  unfold stp
  rw [f, if_neg (by omega), if_neg (by omega), if_neg (by omega), if_pos ?_]
  unfold nameL at h
  rw [hdd, Bool.or_false, Bool.or_eq_true, decide_eq_true_eq] at h
  exact h
theorem stp_lit {s : ByteArray} {G : List ByteArray} {a : Nat} (ha : a < s.size) (h : bt s a = 34 ∨ bt s a = 39) : stp s G a = if (litV s a).2.2.2 = 0 then ⟨1, (litV s a).1, (litV s a).2.1, 0, 0⟩ else ⟨2, 0, 0, (litV s a).2.2.1, (litV s a).2.2.2⟩ := by
  have f := first_of s a ha (by omega)
  have hl : letterL (bt s a : Int) = false := by unfold letterL plainL; simp; omega
  have hd : digitL (bt s a : Int) = false := by unfold digitL; simp; omega
  unfold stp
  rw [f, if_neg (by omega), if_neg (by omega), if_neg (by omega), if_neg (by rw [hl]; simp; omega), if_neg (by rw [hd]; simp), if_pos (by omega)]
theorem stp_sgn {s : ByteArray} {G : List ByteArray} {a : Nat} (ha : a < s.size) (hT : Tb s a) (h10 : bt s a ≠ 10) (h34 : bt s a ≠ 34) (h39 : bt s a ≠ 39) (hn : nameL (numAt s a) = false) :
    stp s G a = if sgL s G a = 0 then ⟨2, 0, 0, a, if numAt s a < 0 then 13 else 10⟩ else ⟨1, 5, a + sgL s G a, 0, 0⟩ := by
  have f := first_sub s a ha
  obtain ⟨t1, t2, t3, t4⟩ := hT ha
  have n9 := num_byte ha (n := 9) (by omega)
  have n13 := num_byte ha (n := 13) (by omega)
  have n32 := num_byte ha (n := 32) (by omega)
  have n35 := num_byte ha (n := 35) (by omega)
  have n10 := num_byte ha (n := 10) (by omega)
  have n34 := num_byte ha (n := 34) (by omega)
  have n39 := num_byte ha (n := 39) (by omega)
  obtain ⟨q1, q2, q3⟩ := name_no hn
  unfold stp
  rw [f, if_neg (by omega), if_neg (by omega), if_neg (by omega), if_neg (by rw [q2]; simp; exact q1), if_neg (by rw [q3]; simp), if_neg (by omega)]
theorem nmEnd_no {s : ByteArray} {a : Nat} (ha : a < s.size) (h : nameL (numAt s a) = false) : nmEnd s a = a := by
  rw [nmEnd_F s a (by omega)]
  exact nmF_stop rfl h
theorem heap_drew (w : World) (o : Obj) (m : Nat) : ((w.alloc o).drewN m).heap[w.heap.size]? = some o := heap_alloc_last w o
theorem ltp_out {s : ByteArray} {a : Nat} {e : Ending} (h : LtP s a e) : ∃ (k x : Nat) (T : ByteArray) (p er : Int), e = .returned (.tuple #[.agg #[.int .u8 k, .int .i64 x, .string T], .int .i64 p, .int .i64 er]) ∧ er = (litV s a).2.2.2 ∧ (er = 0 → k = (litV s a).1 ∧ x = a ∧ T = s.extract a (litV s a).2.1) ∧ (er ≠ 0 → p = (litV s a).2.2.1) := h
theorem tkp_err {s : ByteArray} {G : List ByteArray} {a k x : Nat} {T : ByteArray} {p er : Int} (h : stp s G a = ⟨2, 0, 0, p, er⟩) (he : er ≠ 0) : TkP s G a (.returned (.tuple #[.agg #[.int .u8 k, .int .i64 x, .string T], .int .i64 p, .int .i64 er])) :=
  ⟨k, x, T, p, er, rfl, .inr ⟨he, by rw [h], by rw [h], by rw [h]⟩⟩
theorem tkp_lit {s : ByteArray} {G : List ByteArray} {a k x : Nat} {T : ByteArray} {p er : Int} (h : stp s G a = if (litV s a).2.2.2 = 0 then ⟨1, (litV s a).1, (litV s a).2.1, 0, 0⟩ else ⟨2, 0, 0, (litV s a).2.2.1, (litV s a).2.2.2⟩) (q1 : er = (litV s a).2.2.2) (q2 : er = 0 → k = (litV s a).1 ∧ x = a ∧ T = s.extract a (litV s a).2.1) (q3 : er ≠ 0 → p = (litV s a).2.2.1) :
    TkP s G a (.returned (.tuple #[.agg #[.int .u8 k, .int .i64 x, .string T], .int .i64 p, .int .i64 er])) := by
  by_cases h0 : er = 0
  · rw [if_pos (by rw [← q1]; exact h0)] at h
    obtain ⟨r1, r2, r3⟩ := q2 h0
    exact ⟨k, x, T, p, er, rfl, .inl ⟨h0, by rw [h], by rw [h]; exact r1, r2, by rw [h]; exact r3⟩⟩
  · rw [if_neg (by rw [← q1]; exact h0)] at h
    exact ⟨k, x, T, p, er, rfl, .inr ⟨h0, by rw [h], by rw [h]; exact q1, by rw [h]; exact q3 h0⟩⟩
theorem mayB_sz {G : List ByteArray} (h : mayB G = true) : ∀ x ∈ G, x.size ≤ 3 := by
  intro x hx
  have := mayB_sg h x hx
  unfold isSg at this
  simp only [Bool.and_eq_true, decide_eq_true_eq] at this
  exact this.1.2
theorem sgL_le (s : ByteArray) (G : List ByteArray) (a : Nat) : sgL s G a ≤ s.size - a := by
  have := sgF_le s G a (min 3 (s.size - a))
  unfold sgL
  omega
theorem ne_emptyU {T : ByteArray} (h : 0 < T.size) : ¬ T.toList = [] ∧ T.toList.isEmpty = false := by
  have h2 : ¬ T.toList = [] := by
    rw [Lib.toList_data]
    intro e
    have : T.data.toList.length = 0 := by rw [e]; rfl
    rw [Array.length_toList] at this
    have h3 : T.size = T.data.size := rfl
    omega
  exact ⟨h2, by simpa using h2⟩
set_option maxHeartbeats 4000000 in
theorem utok_ten (s : ByteArray) (a : Nat) (ao : Option Addr) (c : Nat) (G : List ByteArray) (w : World) (h : bt s a = 10) (ha : a < s.size) (hs : s.size ≤ 524288) :
    Calls Try.prog 19 #[.string s, .int .i64 a, .slice ao G.length c] w fun e w' => TkP s G a e ∧ Below w.heap.size w w' := by
  have haI : (a : Int) < (s.size : Int) := by omega
  have hgx := bt_get s a ha
  rw [h] at hgx
  obtain ⟨T, hT⟩ : ∃ T, s.extract a (a + 1) = T := ⟨_, rfl⟩
  have HP := hidK (tkp_tok (stp_ten s G a ha h) hT)
  have h1 : (a : Int) ≤ (a : Int) + 1 := by omega
  have h2 : (a : Int) + 1 ≤ (s.size : Int) := by omega
  clear h
  go_enter Try.func19, Try.ntmps19
  go_wp2_with fail
  exact bodyPost_ret (tk3Res (p := 6) (u := 7) (v := 8) (by kernel_rfl) _ _ _ w.heap.size (tkA 6 a T) rfl (heap_alloc_last w _) _ rfl rfl rfl) rfl ⟨HP.out, (Below.refl _ _).alloc (Nat.le_refl _) _⟩
set_option maxHeartbeats 4000000 in
theorem utok_dig (s : ByteArray) (a : Nat) (ao : Option Addr) (c : Nat) (G : List ByteArray) (w : World) (h10 : bt s a ≠ 10) (hd : digitL (bt s a : Int) = true) (ha : a < s.size) (hs : s.size ≤ 524288) :
    Calls Try.prog 19 #[.string s, .int .i64 a, .slice ao G.length c] w fun e w' => TkP s G a e ∧ Below w.heap.size w w' := by
  have haI : (a : Int) < (s.size : Int) := by omega
  have hgx := bt_get s a ha
  have h10I : ¬ (bt s a : Int) = 10 := by omega
  have h10b : ((bt s a : Int) == 10) = false := by simp; omega
  have hD := fun w1 => udigit_any (bt s a : Int) w1
  rw [hd] at hD
  have hF := fun w1 => ufg_any s a w1 ha (by omega)
  obtain ⟨b1, b2⟩ := fgEnd_bd s a ha
  have hst := stp_dig (G := G) ha hd
  generalize fgEnd s a = E at *
  generalize bt s a = y at *
  obtain ⟨T, hT⟩ : ∃ T, s.extract a E = T := ⟨_, rfl⟩
  have HP := hidK (tkp_tok hst hT)
  have h1 : (a : Int) ≤ (E : Int) := by omega
  have h2 : (E : Int) ≤ (s.size : Int) := by omega
  clear hst hd h10
  go_enter Try.func19, Try.ntmps19
  go_wp2_with (first
    | (go_at_call 23; with_reducible refine (hD _).mono ?_; rintro e wq ⟨rfl, hq⟩; subst wq)
    | (go_at_call 25; with_reducible refine (hF _).mono ?_; rintro e wq ⟨rfl, hq⟩; subst wq)
    | (go_at_call 26; with_reducible refine (hN _).mono ?_; rintro e wq ⟨rfl, hq⟩; subst wq)
    | (go_at_call 27; with_reducible refine (hL _).mono ?_; rintro e wq ⟨hlt, hq⟩; obtain ⟨k, x, T, p, er, rfl, q1, q2, q3⟩ := ltp_out hlt; have Q1 := hidK q1; have Q2 := hidK q2; have Q3 := hidK q3; clear q1 q2 q3)
    | (go_at_call 28; with_reducible refine (hS _ HG2).mono ?_; rintro e wq ⟨rfl, m, hq⟩; subst wq)
    | (go_at_call 29; with_reducible refine (hR _).mono ?_; rintro e wq ⟨rfl, hq⟩; subst wq)
    | fail)
  exact bodyPost_ret (tk3Res (p := 6) (u := 7) (v := 8) (by kernel_rfl) _ _ _ w.heap.size (tkA 2 a T) rfl (heap_alloc_last w _) _ rfl rfl rfl) rfl ⟨HP.out, (Below.refl _ _).alloc (Nat.le_refl _) _⟩
set_option maxHeartbeats 4000000 in
theorem utok_nam (s : ByteArray) (a : Nat) (ao : Option Addr) (c : Nat) (G : List ByteArray) (w : World) (hTb : Tb s a) (h10 : bt s a ≠ 10) (hd : digitL (bt s a : Int) = false) (hn : nameL (numAt s a) = true) (ha : a < s.size) (hs : s.size ≤ 524288) :
    Calls Try.prog 19 #[.string s, .int .i64 a, .slice ao G.length c] w fun e w' => TkP s G a e ∧ Below w.heap.size w w' := by
  have haI : (a : Int) < (s.size : Int) := by omega
  have hgx := bt_get s a ha
  have h10I : ¬ (bt s a : Int) = 10 := by omega
  have h10b : ((bt s a : Int) == 10) = false := by simp; omega
  have hD := fun w1 => udigit_any (bt s a : Int) w1
  rw [hd] at hD
  have hN := fun w1 => unm_any s a w1 (by omega) (by omega)
  obtain ⟨b1, b2⟩ := nmEnd_bd s a ha (by rw [first_sub s a ha]; exact hn)
  have hst := stp_nam (G := G) ha hTb h10 hd hn
  generalize nmEnd s a = E at *
  generalize bt s a = y at *
  obtain ⟨T, hT⟩ : ∃ T, s.extract a E = T := ⟨_, rfl⟩
  have HP := hidK (tkp_tok hst hT)
  have h1 : (a : Int) < (E : Int) := by omega
  have h2 : (E : Int) ≤ (s.size : Int) := by omega
  have h3 : (a : Int) ≤ (E : Int) := by omega
  clear hst hd h10 hn hTb
  go_enter Try.func19, Try.ntmps19
  go_wp2_with (first
    | (go_at_call 23; with_reducible refine (hD _).mono ?_; rintro e wq ⟨rfl, hq⟩; subst wq)
    | (go_at_call 25; with_reducible refine (hF _).mono ?_; rintro e wq ⟨rfl, hq⟩; subst wq)
    | (go_at_call 26; with_reducible refine (hN _).mono ?_; rintro e wq ⟨rfl, hq⟩; subst wq)
    | (go_at_call 27; with_reducible refine (hL _).mono ?_; rintro e wq ⟨hlt, hq⟩; obtain ⟨k, x, T, p, er, rfl, q1, q2, q3⟩ := ltp_out hlt; have Q1 := hidK q1; have Q2 := hidK q2; have Q3 := hidK q3; clear q1 q2 q3)
    | (go_at_call 28; with_reducible refine (hS _ HG2).mono ?_; rintro e wq ⟨rfl, m, hq⟩; subst wq)
    | (go_at_call 29; with_reducible refine (hR _).mono ?_; rintro e wq ⟨rfl, hq⟩; subst wq)
    | fail)
  exact bodyPost_ret (tk3Res (p := 6) (u := 7) (v := 8) (by kernel_rfl) _ _ _ w.heap.size (tkA 1 a T) rfl (heap_alloc_last w _) _ rfl rfl rfl) rfl ⟨HP.out, (Below.refl _ _).alloc (Nat.le_refl _) _⟩
set_option maxHeartbeats 4000000 in
theorem utok_lit (s : ByteArray) (a : Nat) (ao : Option Addr) (c : Nat) (G : List ByteArray) (w : World) (h : bt s a = 34 ∨ bt s a = 39) (ha : a < s.size) (hs : s.size ≤ 524288) :
    Calls Try.prog 19 #[.string s, .int .i64 a, .slice ao G.length c] w fun e w' => TkP s G a e ∧ Below w.heap.size w w' := by
  have haI : (a : Int) < (s.size : Int) := by omega
  have hgx := bt_get s a ha
  have hd : digitL (bt s a : Int) = false := by unfold digitL; simp; omega
  have hn : nameL (numAt s a) = false := by rw [(dec_low s a ha (by omega)).2]; unfold nameL letterL plainL digitL; simp; omega
  have h10I : ¬ (bt s a : Int) = 10 := by omega
  have h10b : ((bt s a : Int) == 10) = false := by simp; omega
  have hD := fun w1 => udigit_any (bt s a : Int) w1
  rw [hd] at hD
  have hN := fun w1 => unm_any s a w1 (by omega) (by omega)
  rw [nmEnd_no ha hn] at hN
  have hL := fun w1 => uliteral_any s a w1 ha hs h
  have HSt := hidK (stp_lit (G := G) ha h)
  have hh : (((bt s a : Int) == 34) || ((bt s a : Int) == 39)) = true := by simp; omega
  generalize bt s a = y at *
  clear hd hn
  rcases h with h | h
  · subst h
    have hgx2 : s[a].toNat = 34 := hgx
    have hD2 : ∀ w1, Calls Try.prog 23 #[.int .u8 34] w1 fun e w' => e = .returned (.bool false) ∧ w' = w1 := hD
    clear hgx hD h10I h10b hh
    go_enter Try.func19, Try.ntmps19
    go_wp2_with (first
      | (go_at_call 23; with_reducible refine (hD2 _).mono ?_; rintro e wq ⟨rfl, hq⟩; subst wq)
      | (go_at_call 26; with_reducible refine (hN _).mono ?_; rintro e wq ⟨rfl, hq⟩; subst wq)
      | (go_at_call 27; with_reducible refine (hL _).mono ?_; rintro e wq ⟨hlt, hq⟩; obtain ⟨k, x, T, p, er, rfl, q1, q2, q3⟩ := ltp_out hlt; have Q1 := hidK q1; have Q2 := hidK q2; have Q3 := hidK q3; clear q1 q2 q3)
      | (refine wpList_store_row rfl _ _ _ rfl w.heap.size _ (tkA k x T) rfl rfl (hpT hq) (by rw [infoTk]; rfl) rfl (tk_all _ _ _) ?_)
      | fail)
    exact bodyPost_ret (tk3Res (p := 6) (u := 7) (v := 8) (by kernel_rfl) _ _ _ w.heap.size (tkA k x T) rfl (setRow_heap _ _ _ _ _ _ (hpT hq)) _ rfl rfl rfl) rfl ⟨tkp_lit HSt.out Q1.out Q2.out Q3.out, below_setRow (((Below.refl _ _).alloc (Nat.le_refl _) _).trans (hq.mono (by simp))) (Nat.le_refl _) _⟩
  · subst h
    have hgx2 : s[a].toNat = 39 := hgx
    have hD2 : ∀ w1, Calls Try.prog 23 #[.int .u8 39] w1 fun e w' => e = .returned (.bool false) ∧ w' = w1 := hD
    clear hgx hD h10I h10b hh
    go_enter Try.func19, Try.ntmps19
    go_wp2_with (first
      | (go_at_call 23; with_reducible refine (hD2 _).mono ?_; rintro e wq ⟨rfl, hq⟩; subst wq)
      | (go_at_call 26; with_reducible refine (hN _).mono ?_; rintro e wq ⟨rfl, hq⟩; subst wq)
      | (go_at_call 27; with_reducible refine (hL _).mono ?_; rintro e wq ⟨hlt, hq⟩; obtain ⟨k, x, T, p, er, rfl, q1, q2, q3⟩ := ltp_out hlt; have Q1 := hidK q1; have Q2 := hidK q2; have Q3 := hidK q3; clear q1 q2 q3)
      | (refine wpList_store_row rfl _ _ _ rfl w.heap.size _ (tkA k x T) rfl rfl (hpT hq) (by rw [infoTk]; rfl) rfl (tk_all _ _ _) ?_)
      | fail)
    exact bodyPost_ret (tk3Res (p := 6) (u := 7) (v := 8) (by kernel_rfl) _ _ _ w.heap.size (tkA k x T) rfl (setRow_heap _ _ _ _ _ _ (hpT hq)) _ rfl rfl rfl) rfl ⟨tkp_lit HSt.out Q1.out Q2.out Q3.out, below_setRow (((Below.refl _ _).alloc (Nat.le_refl _) _).trans (hq.mono (by simp))) (Nat.le_refl _) _⟩
set_option maxHeartbeats 4000000 in
theorem utok_sgn (s : ByteArray) (a : Nat) (ao : Option Addr) (c : Nat) (G : List ByteArray) (w : World) (h0 : sgL s G a ≠ 0) (hm : mayB G = true) (hTb : Tb s a) (h10 : bt s a ≠ 10) (h34 : bt s a ≠ 34) (h39 : bt s a ≠ 39) (hd : digitL (bt s a : Int) = false) (hn : nameL (numAt s a) = false) (hr : GRd w ao G w.heap.size) (ha : a < s.size) (hs : s.size ≤ 524288) :
    Calls Try.prog 19 #[.string s, .int .i64 a, .slice ao G.length c] w fun e w' => TkP s G a e ∧ Below w.heap.size w w' := by
  have haI : (a : Int) < (s.size : Int) := by omega
  have hgx := bt_get s a ha
  have h10I : ¬ (bt s a : Int) = 10 := by omega
  have h10b : ((bt s a : Int) == 10) = false := by simp; omega
  have hD := fun w1 => udigit_any (bt s a : Int) w1
  rw [hd] at hD
  have h64 : G.length ≤ 64 := by
    unfold mayB at hm
    simp only [Bool.and_eq_true, decide_eq_true_eq] at hm
    exact hm.1
  have hN := fun w1 => unm_any s a w1 (by omega) (by omega)
  rw [nmEnd_no ha hn] at hN
  have hS := fun w1 (h : GRd w1 ao G w1.heap.size) => signAt_any s a ao c G w1 h64 (mayB_sz hm) (by omega) (by omega) h
  have HG2 : GRd (w.alloc (.cells #[.int .u8 0, .int .i64 0, .string ⟨#[]⟩] 40)) ao G (w.alloc (.cells #[.int .u8 0, .int .i64 0, .string ⟨#[]⟩] 40)).heap.size := (hr.below ((Below.refl _ _).alloc (Nat.le_refl _) _)).mono (by simp)
  have hst := stp_sgn (G := G) ha hTb h10 h34 h39 hn
  have h34I : ¬ (bt s a : Int) = 34 := by omega
  have h39I : ¬ (bt s a : Int) = 39 := by omega
  have h34b : ((bt s a : Int) == 34) = false := by simp; omega
  have h39b : ((bt s a : Int) == 39) = false := by simp; omega
  have hsl := sgL_le s G a
  rw [if_neg h0] at hst
  obtain ⟨T, hT⟩ : ∃ T, s.extract a (a + sgL s G a) = T := ⟨_, rfl⟩
  have hTz : T.size = sgL s G a := by rw [← hT, ext_size (by omega)]
  have HP := hidK (tkp_tok hst hT)
  rw [hT] at hS
  have hTe := ne_emptyU (T := T) (by omega)
  obtain ⟨hTe1, hTe2⟩ := hTe
  generalize bt s a = y at *
  clear hst hT hTz hr hd hn hTb h10 h34 h39 hsl
  go_enter Try.func19, Try.ntmps19
  go_wp2_with (first
    | (go_at_call 23; with_reducible refine (hD _).mono ?_; rintro e wq ⟨rfl, hq⟩; subst wq)
    | (go_at_call 25; with_reducible refine (hF _).mono ?_; rintro e wq ⟨rfl, hq⟩; subst wq)
    | (go_at_call 26; with_reducible refine (hN _).mono ?_; rintro e wq ⟨rfl, hq⟩; subst wq)
    | (go_at_call 27; with_reducible refine (hL _).mono ?_; rintro e wq ⟨hlt, hq⟩; obtain ⟨k, x, T, p, er, rfl, q1, q2, q3⟩ := ltp_out hlt; have Q1 := hidK q1; have Q2 := hidK q2; have Q3 := hidK q3; clear q1 q2 q3)
    | (go_at_call 28; with_reducible refine (hS _ HG2).mono ?_; rintro e wq ⟨rfl, m, hq⟩; subst wq)
    | (go_at_call 29; with_reducible refine (hR _).mono ?_; rintro e wq ⟨rfl, hq⟩; subst wq)
    | (refine wpList_store_row rfl _ _ _ rfl w.heap.size _ (tkA 5 a T) rfl rfl (heap_alloc_last w _) (by rw [infoTk]; rfl) rfl (tk_all _ _ _) ?_)
    | fail)
  exact bodyPost_ret (tk3Res (p := 6) (u := 7) (v := 8) (by kernel_rfl) _ _ _ w.heap.size (tkA 5 a T) rfl (setRow_heap _ _ _ _ _ _ (heap_drew w _ m)) _ rfl rfl rfl) rfl ⟨HP.out, below_setRow (below_drewN ((Below.refl _ _).alloc (Nat.le_refl _) _) m) (Nat.le_refl _) _⟩
set_option maxHeartbeats 4000000 in
theorem utok_err (s : ByteArray) (a : Nat) (ao : Option Addr) (c : Nat) (G : List ByteArray) (w : World) (h0 : sgL s G a = 0) (hm : mayB G = true) (hTb : Tb s a) (h10 : bt s a ≠ 10) (h34 : bt s a ≠ 34) (h39 : bt s a ≠ 39) (hd : digitL (bt s a : Int) = false) (hn : nameL (numAt s a) = false) (hr : GRd w ao G w.heap.size) (ha : a < s.size) (hs : s.size ≤ 524288) :
    Calls Try.prog 19 #[.string s, .int .i64 a, .slice ao G.length c] w fun e w' => TkP s G a e ∧ Below w.heap.size w w' := by
  have haI : (a : Int) < (s.size : Int) := by omega
  have hgx := bt_get s a ha
  have h10I : ¬ (bt s a : Int) = 10 := by omega
  have h10b : ((bt s a : Int) == 10) = false := by simp; omega
  have hD := fun w1 => udigit_any (bt s a : Int) w1
  rw [hd] at hD
  have h64 : G.length ≤ 64 := by
    unfold mayB at hm
    simp only [Bool.and_eq_true, decide_eq_true_eq] at hm
    exact hm.1
  have hN := fun w1 => unm_any s a w1 (by omega) (by omega)
  rw [nmEnd_no ha hn] at hN
  have hS := fun w1 (h : GRd w1 ao G w1.heap.size) => signAt_any s a ao c G w1 h64 (mayB_sz hm) (by omega) (by omega) h
  have HG2 : GRd (w.alloc (.cells #[.int .u8 0, .int .i64 0, .string ⟨#[]⟩] 40)) ao G (w.alloc (.cells #[.int .u8 0, .int .i64 0, .string ⟨#[]⟩] 40)).heap.size := (hr.below ((Below.refl _ _).alloc (Nat.le_refl _) _)).mono (by simp)
  have hst := stp_sgn (G := G) ha hTb h10 h34 h39 hn
  have h34I : ¬ (bt s a : Int) = 34 := by omega
  have h39I : ¬ (bt s a : Int) = 39 := by omega
  have h34b : ((bt s a : Int) == 34) = false := by simp; omega
  have h39b : ((bt s a : Int) == 39) = false := by simp; omega
  rw [if_pos h0] at hst
  have hT : s.extract a (a + sgL s G a) = ⟨#[]⟩ := by rw [h0]; exact (sa_zero s G a (by omega)).1.symm
  rw [hT] at hS
  have hR := fun w1 => ra_any s a w1 (by omega) ha
  rcases ra_num s a with ⟨e1, e2, _⟩ | ⟨e1, e2⟩
  · rw [e1] at hR
    rw [e2, if_pos (by have := bt_lt s a; omega)] at hst
    have HP := hidK (tkp_err (k := 0) (x := 0) (T := ⟨#[]⟩) hst (by decide))
    simp only at hR
    generalize bt s a = y at *
    clear hst hT hr hd hn hTb h10 h34 h39 e1 e2
    go_enter Try.func19, Try.ntmps19
    go_wp2_with (first
    | (go_at_call 23; with_reducible refine (hD _).mono ?_; rintro e wq ⟨rfl, hq⟩; subst wq)
    | (go_at_call 25; with_reducible refine (hF _).mono ?_; rintro e wq ⟨rfl, hq⟩; subst wq)
    | (go_at_call 26; with_reducible refine (hN _).mono ?_; rintro e wq ⟨rfl, hq⟩; subst wq)
    | (go_at_call 27; with_reducible refine (hL _).mono ?_; rintro e wq ⟨hlt, hq⟩; obtain ⟨k, x, T, p, er, rfl, q1, q2, q3⟩ := ltp_out hlt; have Q1 := hidK q1; have Q2 := hidK q2; have Q3 := hidK q3; clear q1 q2 q3)
    | (go_at_call 28; with_reducible refine (hS _ HG2).mono ?_; rintro e wq ⟨rfl, m, hq⟩; subst wq)
    | (go_at_call 29; with_reducible refine (hR _).mono ?_; rintro e wq ⟨rfl, hq⟩; subst wq)
    | (refine wpList_store_row rfl _ _ _ rfl w.heap.size _ (tkA 0 0 ⟨#[]⟩) rfl rfl (heap_alloc_last w _) (by rw [infoTk]; rfl) rfl (tk_all _ _ _) ?_)
    | fail)
    exact bodyPost_ret (tk3Res (p := 6) (u := 7) (v := 8) (by kernel_rfl) _ _ _ w.heap.size (tkA 0 0 ⟨#[]⟩) rfl (setRow_heap _ _ _ _ _ _ (heap_drew w _ m)) _ rfl rfl rfl) rfl ⟨HP.out, below_setRow (below_drewN ((Below.refl _ _).alloc (Nat.le_refl _) _) m) (Nat.le_refl _) _⟩
  · rw [e2] at hR
    rw [if_neg (by omega)] at hst
    have HP := hidK (tkp_err (k := 0) (x := 0) (T := ⟨#[]⟩) hst (by decide))
    simp only at hR
    have hw := wid_pos s a
    have hw0 : ¬ (wid s a : Int) = 0 := by omega
    have hw0b : ((wid s a : Int) == 0) = false := by rw [beq_eq_false_iff_ne]; exact hw0
    generalize wid s a = wd at *
    generalize bt s a = y at *
    clear hst hT hr hd hn hTb h10 h34 h39 e1 e2
    go_enter Try.func19, Try.ntmps19
    go_wp2_with (first
    | (go_at_call 23; with_reducible refine (hD _).mono ?_; rintro e wq ⟨rfl, hq⟩; subst wq)
    | (go_at_call 25; with_reducible refine (hF _).mono ?_; rintro e wq ⟨rfl, hq⟩; subst wq)
    | (go_at_call 26; with_reducible refine (hN _).mono ?_; rintro e wq ⟨rfl, hq⟩; subst wq)
    | (go_at_call 27; with_reducible refine (hL _).mono ?_; rintro e wq ⟨hlt, hq⟩; obtain ⟨k, x, T, p, er, rfl, q1, q2, q3⟩ := ltp_out hlt; have Q1 := hidK q1; have Q2 := hidK q2; have Q3 := hidK q3; clear q1 q2 q3)
    | (go_at_call 28; with_reducible refine (hS _ HG2).mono ?_; rintro e wq ⟨rfl, m, hq⟩; subst wq)
    | (go_at_call 29; with_reducible refine (hR _).mono ?_; rintro e wq ⟨rfl, hq⟩; subst wq)
    | (refine wpList_store_row rfl _ _ _ rfl w.heap.size _ (tkA 0 0 ⟨#[]⟩) rfl rfl (heap_alloc_last w _) (by rw [infoTk]; rfl) rfl (tk_all _ _ _) ?_)
    | fail)
    exact bodyPost_ret (tk3Res (p := 6) (u := 7) (v := 8) (by kernel_rfl) _ _ _ w.heap.size (tkA 0 0 ⟨#[]⟩) rfl (setRow_heap _ _ _ _ _ _ (heap_drew w _ m)) _ rfl rfl rfl) rfl ⟨HP.out, below_setRow (below_drewN ((Below.refl _ _).alloc (Nat.le_refl _) _) m) (Nat.le_refl _) _⟩
/-- the document's token -/
theorem utoken_any (s : ByteArray) (a : Nat) (ao : Option Addr) (c : Nat) (G : List ByteArray) (w : World) (hm : mayB G = true) (hTb : Tb s a) (hr : GRd w ao G w.heap.size) (ha : a < s.size) (hs : s.size ≤ 524288) :
    Calls Try.prog 19 #[.string s, .int .i64 a, .slice ao G.length c] w fun e w' => TkP s G a e ∧ Below w.heap.size w w' := by
  by_cases h10 : bt s a = 10
  · exact utok_ten s a ao c G w h10 ha hs
  cases hd : digitL (bt s a : Int) with
  | true => exact utok_dig s a ao c G w h10 hd ha hs
  | false =>
    cases hn : nameL (numAt s a) with
    | true => exact utok_nam s a ao c G w hTb h10 hd hn ha hs
    | false =>
      by_cases h34 : bt s a = 34
      · exact utok_lit s a ao c G w (.inl h34) ha hs
      by_cases h39 : bt s a = 39
      · exact utok_lit s a ao c G w (.inr h39) ha hs
      by_cases h0 : sgL s G a = 0
      · exact utok_err s a ao c G w h0 hm hTb h10 h34 h39 hd hn hr ha hs
      · exact utok_sgn s a ao c G w h0 hm hTb h10 h34 h39 hd hn hr ha hs
end Go.Proofs.Ytpndbbepfjocgaa
