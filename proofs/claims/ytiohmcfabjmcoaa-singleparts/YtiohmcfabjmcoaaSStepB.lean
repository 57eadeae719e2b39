import Derived.Test.YtiohmcfabjmcoaaSStepM
namespace Go.Proofs.Ytiohmcfabjmcoaa
open Go.RowKit

theorem bt {w a b : World} (h1 : Below w.heap.size w a) (h2 : Below a.heap.size a b) : Below w.heap.size w b := h1.trans (h2.mono h1.size)
set_option maxRecDepth 100000 in
set_option maxHeartbeats 2000000 in
theorem rab1 (a : Nat)  (w : World) (t : ∀ w, Calls Try.prog 22 #[.int .u32 a] w fun e w' => e = .returned (.agg #[.int .u8 1, .bool false, .int .u64 0, .int .i64 0]) ∧ Below w.heap.size w w') :
    Calls Try.prog 12 #[.int .u32 a] w fun e w' => e = .returned (.int .u32 2143289344) ∧ Below w.heap.size w w' := by
  go_enter Try.func12, Try.ntmps12
  go_wp2_with (first
    | (go_at_call 22; with_reducible refine (t _).mono ?_; rintro e wq ⟨rfl, h1⟩)
    | (go_at_call 24; with_reducible refine (lay_none _).mono ?_; rintro e wq ⟨rfl, h2⟩))
  go_ret
  exact ⟨rfl, bt h1 (bt (by repeat (first | exact Below.refl _ _ | refine bel ?_ | refine Below.drew ?_)) h2)⟩
set_option maxRecDepth 100000 in
set_option maxHeartbeats 2000000 in
theorem rab2 (a : Nat)  (w : World) (t : ∀ w, Calls Try.prog 22 #[.int .u32 a] w fun e w' => e = .returned (.agg #[.int .u8 2, .bool false, .int .u64 0, .int .i64 0]) ∧ Below w.heap.size w w') :
    Calls Try.prog 12 #[.int .u32 a] w fun e w' => e = .returned (.int .u32 (wrd false 2139095040 : Nat)) ∧ Below w.heap.size w w' := by
  go_enter Try.func12, Try.ntmps12
  go_wp2_with (first
    | (go_at_call 22; with_reducible refine (t _).mono ?_; rintro e wq ⟨rfl, h1⟩)
    | (go_at_call 24; with_reducible refine (lay_endless false _).mono ?_; rintro e wq ⟨rfl, h2⟩))
  go_ret
  exact ⟨rfl, bt h1 (bt (by repeat (first | exact Below.refl _ _ | refine bel ?_ | refine Below.drew ?_)) h2)⟩
set_option maxRecDepth 100000 in
set_option maxHeartbeats 2000000 in
theorem rab3 (a : Nat)  (w : World) (t : ∀ w, Calls Try.prog 22 #[.int .u32 a] w fun e w' => e = .returned (.agg #[.int .u8 2, .bool true, .int .u64 0, .int .i64 0]) ∧ Below w.heap.size w w') :
    Calls Try.prog 12 #[.int .u32 a] w fun e w' => e = .returned (.int .u32 (wrd true 2139095039 : Nat)) ∧ Below w.heap.size w w' := by
  have l : ∀ w, Calls Try.prog 24 #[.agg #[.int .u8 3, .bool true, .int .u64 16777215, .int .i64 104]] w fun e w' => e = .returned (.int .u32 (wrd true 2139095039 : Nat)) ∧ Below w.heap.size w w' := fun w => lay_fin true 16777215 253 w (by decide) (by decide) (by decide)
  go_enter Try.func12, Try.ntmps12
  go_wp2_with (first
    | (go_at_call 22; with_reducible refine (t _).mono ?_; rintro e wq ⟨rfl, h1⟩)
    | (go_at_call 24; with_reducible refine (l _).mono ?_; rintro e wq ⟨rfl, h2⟩)
    | (go_at_call 25; with_reducible refine (nought2 true _).mono ?_; rintro e wq ⟨rfl, o, hq⟩; subst wq)
    | (go_at_call 26; with_reducible refine (shorter2 true _).mono ?_; rintro e wq ⟨rfl, h3⟩))
  go_ret
  exact ⟨rfl, bt h1 (bt (by repeat (first | exact Below.refl _ _ | refine bel ?_ | refine Below.drew ?_)) (bt h3 h2))⟩
set_option maxRecDepth 100000 in
set_option maxHeartbeats 2000000 in
theorem rab4a (a : Nat) (j : Nat) (hj : j < 253) (w : World) (t : ∀ w, Calls Try.prog 22 #[.int .u32 a] w fun e w' => e = .returned (.agg #[.int .u8 3, .bool true, .int .u64 8388608, .int .i64 (-149 + ((j + 1 : Nat) : Int))]) ∧ Below w.heap.size w w') :
    Calls Try.prog 12 #[.int .u32 a] w fun e w' => e = .returned (.int .u32 (wrd true (j * 8388608 + 16777215) : Nat)) ∧ Below w.heap.size w w' := by
  have g1 : ((8388608 : Nat) : Int) = 8388608 := rfl
  have n1 := fun w => nought3 true 8388608 (-149 + ((j + 1 : Nat) : Int)) w (by decide)
  rw [g1] at n1
  have s1 := fun w => shorter3a true (-149 + ((j + 1 : Nat) : Int)) w (by omega) (by omega)
  rw [show (-149 + ((j + 1 : Nat) : Int)) - 1 = -149 + (j : Int) by omega] at s1
  have l : ∀ w, Calls Try.prog 24 #[.agg #[.int .u8 3, .bool true, .int .u64 16777215, .int .i64 (-149 + (j : Int))]] w fun e w' => e = .returned (.int .u32 (wrd true (j * 8388608 + 16777215) : Nat)) ∧ Below w.heap.size w w' := fun w => lay_fin true 16777215 j w (by decide) (by omega) (Or.inr (by decide))
  generalize hP : (-149 + ((j + 1 : Nat) : Int)) = P at *
  clear hP
  go_enter Try.func12, Try.ntmps12
  go_wp2_with (first
    | (go_at_call 22; with_reducible refine (t _).mono ?_; rintro e wq ⟨rfl, h1⟩)
    | (go_at_call 24; with_reducible refine (l _).mono ?_; rintro e wq ⟨rfl, h2⟩)
    | (go_at_call 25; with_reducible refine (n1 _).mono ?_; rintro e wq ⟨rfl, o, hq⟩; subst wq)
    | (go_at_call 26; with_reducible refine (s1 _).mono ?_; rintro e wq ⟨rfl, h3⟩))
  go_ret
  exact ⟨rfl, bt h1 (bt (by repeat (first | exact Below.refl _ _ | refine bel ?_ | refine Below.drew ?_)) (bt h3 h2))⟩
set_option maxRecDepth 100000 in
set_option maxHeartbeats 2000000 in
theorem rab4b (a : Nat)  (w : World) (t : ∀ w, Calls Try.prog 22 #[.int .u32 a] w fun e w' => e = .returned (.agg #[.int .u8 3, .bool true, .int .u64 8388608, .int .i64 (-149)]) ∧ Below w.heap.size w w') :
    Calls Try.prog 12 #[.int .u32 a] w fun e w' => e = .returned (.int .u32 (wrd true 8388607 : Nat)) ∧ Below w.heap.size w w' := by
  have g1 : ((8388608 : Nat) : Int) = 8388608 := rfl
  have n1 := fun w => nought3 true 8388608 (-149) w (by decide)
  rw [g1] at n1
  have l : ∀ w, Calls Try.prog 24 #[.agg #[.int .u8 3, .bool true, .int .u64 8388607, .int .i64 (-149)]] w fun e w' => e = .returned (.int .u32 (wrd true 8388607 : Nat)) ∧ Below w.heap.size w w' := fun w => lay_fin true 8388607 0 w (by decide) (by decide) (Or.inl rfl)
  go_enter Try.func12, Try.ntmps12
  go_wp2_with (first
    | (go_at_call 22; with_reducible refine (t _).mono ?_; rintro e wq ⟨rfl, h1⟩)
    | (go_at_call 24; with_reducible refine (l _).mono ?_; rintro e wq ⟨rfl, h2⟩)
    | (go_at_call 25; with_reducible refine (n1 _).mono ?_; rintro e wq ⟨rfl, o, hq⟩; subst wq)
    | (go_at_call 26; with_reducible refine (shorter3c true _).mono ?_; rintro e wq ⟨rfl, h3⟩))
  go_ret
  exact ⟨rfl, bt h1 (bt (by repeat (first | exact Below.refl _ _ | refine bel ?_ | refine Below.drew ?_)) (bt h3 h2))⟩
set_option maxRecDepth 100000 in
set_option maxHeartbeats 2000000 in
theorem rab4c (a : Nat) (g k : Nat) (hg : g + 1 < 16777216) (hne : g + 1 ≠ 8388608) (hk : k < 254) (hkg : k = 0 ∨ 8388608 ≤ g) (w : World) (t : ∀ w, Calls Try.prog 22 #[.int .u32 a] w fun e w' => e = .returned (.agg #[.int .u8 3, .bool true, .int .u64 ((g : Int) + 1), .int .i64 (-149 + (k : Int))]) ∧ Below w.heap.size w w') :
    Calls Try.prog 12 #[.int .u32 a] w fun e w' => e = .returned (.int .u32 (wrd true (k * 8388608 + g) : Nat)) ∧ Below w.heap.size w w' := by
  have n1 := fun w => nought3 true (g + 1) (-149 + (k : Int)) w (by simp; omega)
  rw [show ((g + 1 : Nat) : Int) = (g : Int) + 1 by omega] at n1
  have s1 := fun w => shorter3b true g (-149 + (k : Int)) w (by simp; omega) (by omega)
  have l := fun w => lay_fin true g k w (by omega) hk hkg
  clear hg hne hk hkg
  generalize (-149 + (k : Int)) = P at *
  go_enter Try.func12, Try.ntmps12
  go_wp2_with (first
    | (go_at_call 22; with_reducible refine (t _).mono ?_; rintro e wq ⟨rfl, h1⟩)
    | (go_at_call 24; with_reducible refine (l _).mono ?_; rintro e wq ⟨rfl, h2⟩)
    | (go_at_call 25; with_reducible refine (n1 _).mono ?_; rintro e wq ⟨rfl, o, hq⟩; subst wq)
    | (go_at_call 26; with_reducible refine (s1 _).mono ?_; rintro e wq ⟨rfl, h3⟩))
  go_ret
  exact ⟨rfl, bt h1 (bt (by repeat (first | exact Below.refl _ _ | refine bel ?_ | refine Below.drew ?_)) (bt h3 h2))⟩
set_option maxRecDepth 100000 in
set_option maxHeartbeats 2000000 in
theorem rab5t (a : Nat)  (w : World) (t : ∀ w, Calls Try.prog 22 #[.int .u32 a] w fun e w' => e = .returned (.agg #[.int .u8 3, .bool true, .int .u64 0, .int .i64 (-149)]) ∧ Below w.heap.size w w') :
    Calls Try.prog 12 #[.int .u32 a] w fun e w' => e = .returned (.int .u32 1) ∧ Below w.heap.size w w' := by
  have l : ∀ w, Calls Try.prog 24 #[.agg #[.int .u8 3, .bool false, .int .u64 1, .int .i64 (-149)]] w fun e w' => e = .returned (.int .u32 1) ∧ Below w.heap.size w w' := fun w => lay_fin false 1 0 w (by decide) (by decide) (Or.inl rfl)
  have o1 : ∀ w, Calls Try.prog 27 #[.agg #[.int .u8 3, .bool false, .int .u64 0, .int .i64 (-149)]] w fun e w' => e = .returned (.agg #[.int .u8 3, .bool false, .int .u64 1, .int .i64 (-149)]) ∧ Below w.heap.size w w' := fun w => longer1 false 0 (-149) w (by decide) (by decide)
  go_enter Try.func12, Try.ntmps12
  go_wp2_with (first
    | (go_at_call 22; with_reducible refine (t _).mono ?_; rintro e wq ⟨rfl, h1⟩)
    | (go_at_call 24; with_reducible refine (l _).mono ?_; rintro e wq ⟨rfl, h2⟩)
    | (go_at_call 25; with_reducible refine (nought3z true (-149) _).mono ?_; rintro e wq ⟨rfl, o, hq⟩; subst wq)
    | (go_at_call 25; with_reducible refine (nought3z false (-149) _).mono ?_; rintro e wq ⟨rfl, o, hq⟩; subst wq)
    | (go_at_call 27; with_reducible refine (o1 _).mono ?_; rintro e wq ⟨rfl, h3⟩))
  go_ret
  exact ⟨rfl, bt h1 (bt (by repeat (first | exact Below.refl _ _ | refine bel ?_ | refine Below.drew ?_)) (bt h3 h2))⟩
set_option maxRecDepth 100000 in
set_option maxHeartbeats 2000000 in
theorem rab5f (a : Nat)  (w : World) (t : ∀ w, Calls Try.prog 22 #[.int .u32 a] w fun e w' => e = .returned (.agg #[.int .u8 3, .bool false, .int .u64 0, .int .i64 (-149)]) ∧ Below w.heap.size w w') :
    Calls Try.prog 12 #[.int .u32 a] w fun e w' => e = .returned (.int .u32 1) ∧ Below w.heap.size w w' := by
  have l : ∀ w, Calls Try.prog 24 #[.agg #[.int .u8 3, .bool false, .int .u64 1, .int .i64 (-149)]] w fun e w' => e = .returned (.int .u32 1) ∧ Below w.heap.size w w' := fun w => lay_fin false 1 0 w (by decide) (by decide) (Or.inl rfl)
  have o1 : ∀ w, Calls Try.prog 27 #[.agg #[.int .u8 3, .bool false, .int .u64 0, .int .i64 (-149)]] w fun e w' => e = .returned (.agg #[.int .u8 3, .bool false, .int .u64 1, .int .i64 (-149)]) ∧ Below w.heap.size w w' := fun w => longer1 false 0 (-149) w (by decide) (by decide)
  go_enter Try.func12, Try.ntmps12
  go_wp2_with (first
    | (go_at_call 22; with_reducible refine (t _).mono ?_; rintro e wq ⟨rfl, h1⟩)
    | (go_at_call 24; with_reducible refine (l _).mono ?_; rintro e wq ⟨rfl, h2⟩)
    | (go_at_call 25; with_reducible refine (nought3z false (-149) _).mono ?_; rintro e wq ⟨rfl, o, hq⟩; subst wq)
    | (go_at_call 25; with_reducible refine (nought3z false (-149) _).mono ?_; rintro e wq ⟨rfl, o, hq⟩; subst wq)
    | (go_at_call 27; with_reducible refine (o1 _).mono ?_; rintro e wq ⟨rfl, h3⟩))
  go_ret
  exact ⟨rfl, bt h1 (bt (by repeat (first | exact Below.refl _ _ | refine bel ?_ | refine Below.drew ?_)) (bt h3 h2))⟩
set_option maxRecDepth 100000 in
set_option maxHeartbeats 2000000 in
theorem rab6a (a : Nat) (n k : Nat) (h0 : 0 < n) (hn : n + 1 < 16777216) (hk : k < 254) (hkn : k = 0 ∨ 8388608 ≤ n) (w : World) (t : ∀ w, Calls Try.prog 22 #[.int .u32 a] w fun e w' => e = .returned (.agg #[.int .u8 3, .bool false, .int .u64 (n : Int), .int .i64 (-149 + (k : Int))]) ∧ Below w.heap.size w w') :
    Calls Try.prog 12 #[.int .u32 a] w fun e w' => e = .returned (.int .u32 (wrd false (k * 8388608 + (n + 1)) : Nat)) ∧ Below w.heap.size w w' := by
  have n1 := fun w => nought3 false n (-149 + (k : Int)) w (by simp; omega)
  have s1 := fun w => longer1 false n (-149 + (k : Int)) w (decide_eq_true (by omega)) (by omega)
  have l := fun w => lay_fin false (n + 1) k w (by omega) hk (by omega)
  rw [show ((n + 1 : Nat) : Int) = (n : Int) + 1 by omega] at l
  clear h0 hn hk hkn
  generalize (-149 + (k : Int)) = P at *
  go_enter Try.func12, Try.ntmps12
  go_wp2_with (first
    | (go_at_call 22; with_reducible refine (t _).mono ?_; rintro e wq ⟨rfl, h1⟩)
    | (go_at_call 24; with_reducible refine (l _).mono ?_; rintro e wq ⟨rfl, h2⟩)
    | (go_at_call 25; with_reducible refine (n1 _).mono ?_; rintro e wq ⟨rfl, o, hq⟩; subst wq)
    | (go_at_call 27; with_reducible refine (s1 _).mono ?_; rintro e wq ⟨rfl, h3⟩))
  go_ret
  exact ⟨rfl, bt h1 (bt (by repeat (first | exact Below.refl _ _ | refine bel ?_ | refine Below.drew ?_)) (bt h3 h2))⟩
set_option maxRecDepth 100000 in
set_option maxHeartbeats 2000000 in
theorem rab6b (a : Nat) (k : Nat) (hk : k < 253) (w : World) (t : ∀ w, Calls Try.prog 22 #[.int .u32 a] w fun e w' => e = .returned (.agg #[.int .u8 3, .bool false, .int .u64 16777215, .int .i64 (-149 + (k : Int))]) ∧ Below w.heap.size w w') :
    Calls Try.prog 12 #[.int .u32 a] w fun e w' => e = .returned (.int .u32 (wrd false ((k + 1) * 8388608 + 8388608) : Nat)) ∧ Below w.heap.size w w' := by
  have n1 : ∀ w, Calls Try.prog 25 #[.agg #[.int .u8 3, .bool false, .int .u64 16777215, .int .i64 (-149 + (k : Int))]] w fun e w' => e = .returned (.bool false) ∧ ∃ o0, w' = w.alloc o0 := fun w => nought3 false 16777215 (-149 + (k : Int)) w (by decide)
  have s1 := fun w => longer2 false (-149 + (k : Int)) w (decide_eq_false (by omega)) (by omega) (by omega)
  have l : ∀ w, Calls Try.prog 24 #[.agg #[.int .u8 3, .bool false, .int .u64 8388608, .int .i64 (-149 + ((k + 1 : Nat) : Int))]] w fun e w' => e = .returned (.int .u32 (wrd false ((k + 1) * 8388608 + 8388608) : Nat)) ∧ Below w.heap.size w w' := fun w => lay_fin false 8388608 (k + 1) w (by decide) (by omega) (Or.inr (by decide))
  rw [show (-149 + ((k + 1 : Nat) : Int)) = -149 + (k : Int) + 1 by omega] at l
  generalize (-149 + (k : Int)) = P at *
  go_enter Try.func12, Try.ntmps12
  go_wp2_with (first
    | (go_at_call 22; with_reducible refine (t _).mono ?_; rintro e wq ⟨rfl, h1⟩)
    | (go_at_call 24; with_reducible refine (l _).mono ?_; rintro e wq ⟨rfl, h2⟩)
    | (go_at_call 25; with_reducible refine (n1 _).mono ?_; rintro e wq ⟨rfl, o, hq⟩; subst wq)
    | (go_at_call 27; with_reducible refine (s1 _).mono ?_; rintro e wq ⟨rfl, h3⟩))
  go_ret
  exact ⟨rfl, bt h1 (bt (by repeat (first | exact Below.refl _ _ | refine bel ?_ | refine Below.drew ?_)) (bt h3 h2))⟩
set_option maxRecDepth 100000 in
set_option maxHeartbeats 2000000 in
theorem rab6c (a : Nat)  (w : World) (t : ∀ w, Calls Try.prog 22 #[.int .u32 a] w fun e w' => e = .returned (.agg #[.int .u8 3, .bool false, .int .u64 16777215, .int .i64 104]) ∧ Below w.heap.size w w') :
    Calls Try.prog 12 #[.int .u32 a] w fun e w' => e = .returned (.int .u32 (wrd false 2139095040 : Nat)) ∧ Below w.heap.size w w' := by
  have n1 : ∀ w, Calls Try.prog 25 #[.agg #[.int .u8 3, .bool false, .int .u64 16777215, .int .i64 104]] w fun e w' => e = .returned (.bool false) ∧ ∃ o0, w' = w.alloc o0 := fun w => nought3 false 16777215 104 w (by decide)
  go_enter Try.func12, Try.ntmps12
  go_wp2_with (first
    | (go_at_call 22; with_reducible refine (t _).mono ?_; rintro e wq ⟨rfl, h1⟩)
    | (go_at_call 24; with_reducible refine (lay_endless false _).mono ?_; rintro e wq ⟨rfl, h2⟩)
    | (go_at_call 25; with_reducible refine (n1 _).mono ?_; rintro e wq ⟨rfl, o, hq⟩; subst wq)
    | (go_at_call 27; with_reducible refine (longer3 false _).mono ?_; rintro e wq ⟨rfl, h3⟩))
  go_ret
  exact ⟨rfl, bt h1 (bt (by repeat (first | exact Below.refl _ _ | refine bel ?_ | refine Below.drew ?_)) (bt h3 h2))⟩
theorem sg_of (a : Nat) : sg a = true ∧ 2147483648 ≤ a ∨ sg a = false ∧ a < 2147483648 := by
  unfold sg
  by_cases h : 2147483648 ≤ a
  · exact Or.inl ⟨decide_eq_true h, h⟩
  · exact Or.inr ⟨decide_eq_false h, by omega⟩
theorem rabove_any (a : Nat) (w : World) (h : a < 4294967296) :
    Calls Try.prog 12 #[.int .u32 a] w fun e w' => e = .returned (.int .u32 (fab a)) ∧ Below w.heap.size w w' := by
  unfold fab
  by_cases ho : ok a = false
  · rw [if_pos ho]; exact rab1 a w fun w => take_none a w h ho
  have ho' : ok a = true := by simpa using ho
  have hm : a % 2147483648 ≤ 2139095040 := by simpa [ok] using ho'
  rw [if_neg ho]
  by_cases hi : a % 2147483648 = 2139095040
  · have tk := fun w => take_endless a w h hi
    rw [if_neg (by omega)]
    rcases sg_of a with ⟨hs, hge⟩ | ⟨hs, hlt⟩
    · rw [hs] at tk
      rw [if_neg (by omega), if_pos hge, show a - 1 = wrd true 2139095039 by show _ = 2147483648 + 2139095039; omega]
      exact rab3 a w tk
    · rw [hs] at tk
      rw [if_pos (by omega)]
      exact rab2 a w tk
  have tk := fun w => take_fin a w h (by omega)
  obtain ⟨r1, r2, r3⟩ := rd_rung a
  have hk : rdk a < 254 := by omega
  generalize rdm a = n at *
  generalize rdk a = k at *
  by_cases hz : a % 2147483648 = 0
  · rw [if_pos hz]
    have hn0 : n = 0 := by omega
    have hk0 : k = 0 := by omega
    subst hn0 hk0
    rcases sg_of a with ⟨hs, -⟩ | ⟨hs, -⟩
    · rw [hs] at tk; exact rab5t a w tk
    · rw [hs] at tk; exact rab5f a w tk
  rw [if_neg hz, if_neg (by omega)]
  have hn0 : 0 < n := by omega
  rcases sg_of a with ⟨hs, hge⟩ | ⟨hs, hlt⟩
  · rw [hs] at tk
    rw [if_pos hge]
    by_cases hn : n = 8388608
    · subst hn
      by_cases hk0 : k = 0
      · subst hk0
        rw [show a - 1 = wrd true 8388607 by show _ = 2147483648 + 8388607; omega]
        exact rab4b a w tk
      · obtain ⟨j, rfl⟩ : ∃ j, k = j + 1 := ⟨k - 1, by omega⟩
        rw [show a - 1 = wrd true (j * 8388608 + 16777215) by show _ = 2147483648 + (j * 8388608 + 16777215); omega]
        exact rab4a a j (by omega) w tk
    · obtain ⟨g, rfl⟩ : ∃ g, n = g + 1 := ⟨n - 1, by omega⟩
      rw [show a - 1 = wrd true (k * 8388608 + g) by show _ = 2147483648 + (k * 8388608 + g); omega]
      rw [show ((g + 1 : Nat) : Int) = (g : Int) + 1 by omega] at tk
      exact rab4c a g k r2 hn hk (by omega) w tk
  · rw [hs] at tk
    rw [if_neg (by omega)]
    by_cases hn : n + 1 < 16777216
    · rw [show a + 1 = wrd false (k * 8388608 + (n + 1)) by show _ = 0 + (k * 8388608 + (n + 1)); omega]
      exact rab6a a n k hn0 hn hk r3 w tk
    · have hn2 : n = 16777215 := by omega
      subst hn2
      by_cases hk2 : k = 253
      · subst hk2
        rw [show a + 1 = wrd false 2139095040 by show _ = 0 + 2139095040; omega]
        exact rab6c a w tk
      · rw [show a + 1 = wrd false ((k + 1) * 8388608 + 8388608) by show _ = 0 + ((k + 1) * 8388608 + 8388608); omega]
        exact rab6b a k (by omega) w tk
end Go.Proofs.Ytiohmcfabjmcoaa
