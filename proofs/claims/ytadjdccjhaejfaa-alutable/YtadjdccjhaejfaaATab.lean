import Derived.Test.YtadjdccjhaejfaaABase
namespace Go.Proofs.Ytadjdccjhaejfaa
open Go.RowKit
theorem binE_cases {op b : Nat} (h : binE op b = 61) : ¬ (39 ≤ op ∧ op ≤ 57 ∧ op ≠ 49 ∧ op ≠ 53) := by
  intro c
  unfold binE at h
  by_cases c5 : op = 42 ∨ op = 43 ∨ op = 44 ∨ op = 45
  · rw [if_pos c5] at h; split at h <;> omega
  · rw [if_neg c5, if_pos c] at h; omega
theorem binV_none {op a b : Nat} (h : binE op b = 61) : binV op a b = 0 := by
  have c := binE_cases h
  unfold binV
  rw [if_neg (by omega), if_neg (by omega), if_neg (by omega), if_neg (by omega), if_neg (by omega), if_neg (by omega), if_neg (by omega), if_neg (by omega), if_neg (by omega), if_neg (by omega), if_neg (by omega), if_neg (by omega), if_neg (by omega), if_neg (by omega), if_neg (by omega), if_neg (by omega), if_neg (by omega)]
theorem hoV_none {op a b : Nat} (h : hoE op = 61) : hoV op a b = false := by
  have c : ¬ (13 ≤ op ∧ op ≤ 28) := fun c => by unfold hoE at h; rw [if_pos c] at h; omega
  unfold hoV
  rw [if_neg (by omega), if_neg (by omega), if_neg (by omega), if_neg (by omega), if_neg (by omega), if_neg (by omega), if_neg (by omega), if_neg (by omega), if_neg (by omega), if_neg (by omega), if_neg (by omega), if_neg (by omega), if_neg (by omega), if_neg (by omega), if_neg (by omega), if_neg (by omega)]
theorem opV_none {op : Nat} (c : ¬ (13 ≤ op ∧ op ≤ 28)) : opV op = 0 := by
  unfold opV
  rw [if_neg (by omega), if_neg (by omega), if_neg (by omega), if_neg (by omega), if_neg (by omega), if_neg (by omega), if_neg (by omega), if_neg (by omega), if_neg (by omega), if_neg (by omega), if_neg (by omega), if_neg (by omega), if_neg (by omega), if_neg (by omega), if_neg (by omega), if_neg (by omega)]
set_option maxRecDepth 100000 in
set_option maxHeartbeats 1000000 in
theorem tab_cmp (op a b U q p : Nat) (H : Bool) (w : World) (_f0 : (13 : Int) ≤ op) (_f1 : (op : Int) ≤ 28) (_f2 : ¬ (36 : Int) ≤ op)
    (d0 : ∀ w, Calls Try.prog 13 #[.int .u8 op, .int .u32 a] w fun e w' => e = .returned (.tuple #[.int .u32 U, .int .i64 61]) ∧ w' = w)
    (d1 : ∀ w, Calls Try.prog 16 #[.int .u8 op, .int .u32 a, .int .u32 (b : Nat)] w fun e w' => e = .returned (.tuple #[.int .u32 0, .int .i64 61]) ∧ Below w.heap.size w w')
    (d2 : ∀ w, Calls Try.prog 17 #[.int .u8 op, .int .u32 a, .int .u32 (b : Nat)] w fun e w' => e = .returned (.tuple #[.bool H, .int .i64 0]) ∧ w' = w)
    (d3 : ∀ w, Calls Try.prog 14 #[.int .u8 op] w fun e w' => e = .returned (.tuple #[.int .u8 q, .int .i64 0]) ∧ w' = w)
    (d4 : ∀ w, Calls Try.prog 15 #[.int .u8 op] w fun e w' => e = .returned (.tuple #[.int .u8 ((p : Nat) : Int), .int .i64 0]) ∧ w' = w) :
    Calls Try.prog 4 #[.int .u8 op, .int .u32 a, .int .u32 (b : Nat)] w fun e w' => e = .returned (.bool true) ∧ Below w.heap.size w w' := by
  have HB : Below w.heap.size w w := Below.refl _ _
  have g2 : (op : Int) < (36 : Int) := by omega
  go_enter Try.func4, Try.ntmps4
  go_wp2_with (first
    | (go_at_call 13; with_reducible refine (d0 _).mono ?_; rintro e wq ⟨rfl, hq⟩; subst wq)
    | (go_at_call 16; with_reducible refine (d1 _).mono ?_; rintro e wq ⟨rfl, hq⟩; replace HB : Below w.heap.size w wq := bt2 hq HB)
    | (go_at_call 17; with_reducible refine (d2 _).mono ?_; rintro e wq ⟨rfl, hq⟩; subst wq)
    | (go_at_call 14; with_reducible refine (d3 _).mono ?_; rintro e wq ⟨rfl, hq⟩; subst wq)
    | (go_at_call 15; with_reducible refine (d4 _).mono ?_; rintro e wq ⟨rfl, hq⟩; subst wq))
  go_ret
  exact ⟨rfl, HB⟩
set_option maxRecDepth 100000 in
set_option maxHeartbeats 1000000 in
theorem tab_cmf (op a b U q : Nat) (H : Bool) (w : World) (_f0 : (13 : Int) ≤ op) (_f1 : (op : Int) ≤ 28) (_f2 : ¬ (36 : Int) ≤ op)
    (d0 : ∀ w, Calls Try.prog 13 #[.int .u8 op, .int .u32 a] w fun e w' => e = .returned (.tuple #[.int .u32 U, .int .i64 61]) ∧ w' = w)
    (d1 : ∀ w, Calls Try.prog 16 #[.int .u8 op, .int .u32 a, .int .u32 (b : Nat)] w fun e w' => e = .returned (.tuple #[.int .u32 0, .int .i64 61]) ∧ Below w.heap.size w w')
    (d2 : ∀ w, Calls Try.prog 17 #[.int .u8 op, .int .u32 a, .int .u32 (b : Nat)] w fun e w' => e = .returned (.tuple #[.bool H, .int .i64 0]) ∧ w' = w)
    (d3 : ∀ w, Calls Try.prog 14 #[.int .u8 op] w fun e w' => e = .returned (.tuple #[.int .u8 q, .int .i64 0]) ∧ w' = w)
    (d4 : ∀ w, Calls Try.prog 15 #[.int .u8 op] w fun e w' => e = .returned (.tuple #[.int .u8 0, .int .i64 62]) ∧ w' = w) :
    Calls Try.prog 4 #[.int .u8 op, .int .u32 a, .int .u32 (b : Nat)] w fun e w' => e = .returned (.bool true) ∧ Below w.heap.size w w' := by
  have HB : Below w.heap.size w w := Below.refl _ _
  have g2 : (op : Int) < (36 : Int) := by omega
  go_enter Try.func4, Try.ntmps4
  go_wp2_with (first
    | (go_at_call 13; with_reducible refine (d0 _).mono ?_; rintro e wq ⟨rfl, hq⟩; subst wq)
    | (go_at_call 16; with_reducible refine (d1 _).mono ?_; rintro e wq ⟨rfl, hq⟩; replace HB : Below w.heap.size w wq := bt2 hq HB)
    | (go_at_call 17; with_reducible refine (d2 _).mono ?_; rintro e wq ⟨rfl, hq⟩; subst wq)
    | (go_at_call 14; with_reducible refine (d3 _).mono ?_; rintro e wq ⟨rfl, hq⟩; subst wq)
    | (go_at_call 15; with_reducible refine (d4 _).mono ?_; rintro e wq ⟨rfl, hq⟩; subst wq))
  go_ret
  exact ⟨rfl, HB⟩
set_option maxRecDepth 100000 in
set_option maxHeartbeats 1000000 in
theorem tab_una (op a b U q : Nat) (w : World) (_f0 : (13 : Int) ≤ op) (_f1 : ¬ (op : Int) ≤ 28) (_f2 : (36 : Int) ≤ op) (_f3 : (op : Int) ≤ 59)
    (d0 : ∀ w, Calls Try.prog 13 #[.int .u8 op, .int .u32 a] w fun e w' => e = .returned (.tuple #[.int .u32 U, .int .i64 0]) ∧ w' = w)
    (d1 : ∀ w, Calls Try.prog 16 #[.int .u8 op, .int .u32 a, .int .u32 (b : Nat)] w fun e w' => e = .returned (.tuple #[.int .u32 0, .int .i64 61]) ∧ Below w.heap.size w w')
    (d2 : ∀ w, Calls Try.prog 17 #[.int .u8 op, .int .u32 a, .int .u32 (b : Nat)] w fun e w' => e = .returned (.tuple #[.bool false, .int .i64 61]) ∧ w' = w)
    (d3 : ∀ w, Calls Try.prog 14 #[.int .u8 op] w fun e w' => e = .returned (.tuple #[.int .u8 q, .int .i64 61]) ∧ w' = w)
    (d4 : ∀ w, Calls Try.prog 15 #[.int .u8 op] w fun e w' => e = .returned (.tuple #[.int .u8 0, .int .i64 61]) ∧ w' = w) :
    Calls Try.prog 4 #[.int .u8 op, .int .u32 a, .int .u32 (b : Nat)] w fun e w' => e = .returned (.bool true) ∧ Below w.heap.size w w' := by
  have HB : Below w.heap.size w w := Below.refl _ _
  have g1 : 28 < (op : Int) := by omega
  go_enter Try.func4, Try.ntmps4
  go_wp2_with (first
    | (go_at_call 13; with_reducible refine (d0 _).mono ?_; rintro e wq ⟨rfl, hq⟩; subst wq)
    | (go_at_call 16; with_reducible refine (d1 _).mono ?_; rintro e wq ⟨rfl, hq⟩; replace HB : Below w.heap.size w wq := bt2 hq HB)
    | (go_at_call 17; with_reducible refine (d2 _).mono ?_; rintro e wq ⟨rfl, hq⟩; subst wq)
    | (go_at_call 14; with_reducible refine (d3 _).mono ?_; rintro e wq ⟨rfl, hq⟩; subst wq)
    | (go_at_call 15; with_reducible refine (d4 _).mono ?_; rintro e wq ⟨rfl, hq⟩; subst wq))
  go_ret
  exact ⟨rfl, HB⟩
set_option maxRecDepth 100000 in
set_option maxHeartbeats 1000000 in
theorem tab_bin (op a b U x q : Nat) (w : World) (_f0 : (13 : Int) ≤ op) (_f1 : ¬ (op : Int) ≤ 28) (_f2 : (36 : Int) ≤ op) (_f3 : (op : Int) ≤ 59)
    (d0 : ∀ w, Calls Try.prog 13 #[.int .u8 op, .int .u32 a] w fun e w' => e = .returned (.tuple #[.int .u32 U, .int .i64 61]) ∧ w' = w)
    (d1 : ∀ w, Calls Try.prog 16 #[.int .u8 op, .int .u32 a, .int .u32 (b : Nat)] w fun e w' => e = .returned (.tuple #[.int .u32 ((x : Nat) : Int), .int .i64 0]) ∧ Below w.heap.size w w')
    (d2 : ∀ w, Calls Try.prog 17 #[.int .u8 op, .int .u32 a, .int .u32 (b : Nat)] w fun e w' => e = .returned (.tuple #[.bool false, .int .i64 61]) ∧ w' = w)
    (d3 : ∀ w, Calls Try.prog 14 #[.int .u8 op] w fun e w' => e = .returned (.tuple #[.int .u8 q, .int .i64 61]) ∧ w' = w)
    (d4 : ∀ w, Calls Try.prog 15 #[.int .u8 op] w fun e w' => e = .returned (.tuple #[.int .u8 0, .int .i64 61]) ∧ w' = w) :
    Calls Try.prog 4 #[.int .u8 op, .int .u32 a, .int .u32 (b : Nat)] w fun e w' => e = .returned (.bool true) ∧ Below w.heap.size w w' := by
  have HB : Below w.heap.size w w := Below.refl _ _
  have g1 : 28 < (op : Int) := by omega
  go_enter Try.func4, Try.ntmps4
  go_wp2_with (first
    | (go_at_call 13; with_reducible refine (d0 _).mono ?_; rintro e wq ⟨rfl, hq⟩; subst wq)
    | (go_at_call 16; with_reducible refine (d1 _).mono ?_; rintro e wq ⟨rfl, hq⟩; replace HB : Below w.heap.size w wq := bt2 hq HB)
    | (go_at_call 17; with_reducible refine (d2 _).mono ?_; rintro e wq ⟨rfl, hq⟩; subst wq)
    | (go_at_call 14; with_reducible refine (d3 _).mono ?_; rintro e wq ⟨rfl, hq⟩; subst wq)
    | (go_at_call 15; with_reducible refine (d4 _).mono ?_; rintro e wq ⟨rfl, hq⟩; subst wq))
  go_ret
  exact ⟨rfl, HB⟩
set_option maxRecDepth 100000 in
set_option maxHeartbeats 1000000 in
theorem tab_div (op a U q : Nat) (w : World) (_f0 : (13 : Int) ≤ op) (_f1 : ¬ (op : Int) ≤ 28) (_f2 : (36 : Int) ≤ op) (_f3 : (op : Int) ≤ 59)
    (d0 : ∀ w, Calls Try.prog 13 #[.int .u8 op, .int .u32 a] w fun e w' => e = .returned (.tuple #[.int .u32 U, .int .i64 61]) ∧ w' = w)
    (d1 : ∀ w, Calls Try.prog 16 #[.int .u8 op, .int .u32 a, .int .u32 0] w fun e w' => e = .returned (.tuple #[.int .u32 0, .int .i64 60]) ∧ Below w.heap.size w w')
    (d2 : ∀ w, Calls Try.prog 17 #[.int .u8 op, .int .u32 a, .int .u32 0] w fun e w' => e = .returned (.tuple #[.bool false, .int .i64 61]) ∧ w' = w)
    (d3 : ∀ w, Calls Try.prog 14 #[.int .u8 op] w fun e w' => e = .returned (.tuple #[.int .u8 q, .int .i64 61]) ∧ w' = w)
    (d4 : ∀ w, Calls Try.prog 15 #[.int .u8 op] w fun e w' => e = .returned (.tuple #[.int .u8 0, .int .i64 61]) ∧ w' = w) :
    Calls Try.prog 4 #[.int .u8 op, .int .u32 a, .int .u32 0] w fun e w' => e = .returned (.bool true) ∧ Below w.heap.size w w' := by
  have HB : Below w.heap.size w w := Below.refl _ _
  have g1 : 28 < (op : Int) := by omega
  go_enter Try.func4, Try.ntmps4
  go_wp2_with (first
    | (go_at_call 13; with_reducible refine (d0 _).mono ?_; rintro e wq ⟨rfl, hq⟩; subst wq)
    | (go_at_call 16; with_reducible refine (d1 _).mono ?_; rintro e wq ⟨rfl, hq⟩; replace HB : Below w.heap.size w wq := bt2 hq HB)
    | (go_at_call 17; with_reducible refine (d2 _).mono ?_; rintro e wq ⟨rfl, hq⟩; subst wq)
    | (go_at_call 14; with_reducible refine (d3 _).mono ?_; rintro e wq ⟨rfl, hq⟩; subst wq)
    | (go_at_call 15; with_reducible refine (d4 _).mono ?_; rintro e wq ⟨rfl, hq⟩; subst wq))
  go_ret
  exact ⟨rfl, HB⟩
set_option maxRecDepth 100000 in
set_option maxHeartbeats 1000000 in
theorem tab_lo (op a b U q : Nat) (w : World) (_f0 : ¬ (13 : Int) ≤ op) (_f1 : (op : Int) ≤ 28) (_f2 : ¬ (36 : Int) ≤ op) (_f3 : (op : Int) ≤ 59)
    (d0 : ∀ w, Calls Try.prog 13 #[.int .u8 op, .int .u32 a] w fun e w' => e = .returned (.tuple #[.int .u32 U, .int .i64 61]) ∧ w' = w)
    (d1 : ∀ w, Calls Try.prog 16 #[.int .u8 op, .int .u32 a, .int .u32 (b : Nat)] w fun e w' => e = .returned (.tuple #[.int .u32 0, .int .i64 61]) ∧ Below w.heap.size w w')
    (d2 : ∀ w, Calls Try.prog 17 #[.int .u8 op, .int .u32 a, .int .u32 (b : Nat)] w fun e w' => e = .returned (.tuple #[.bool false, .int .i64 61]) ∧ w' = w)
    (d3 : ∀ w, Calls Try.prog 14 #[.int .u8 op] w fun e w' => e = .returned (.tuple #[.int .u8 q, .int .i64 61]) ∧ w' = w)
    (d4 : ∀ w, Calls Try.prog 15 #[.int .u8 op] w fun e w' => e = .returned (.tuple #[.int .u8 0, .int .i64 61]) ∧ w' = w) :
    Calls Try.prog 4 #[.int .u8 op, .int .u32 a, .int .u32 (b : Nat)] w fun e w' => e = .returned (.bool true) ∧ Below w.heap.size w w' := by
  have HB : Below w.heap.size w w := Below.refl _ _
  have g0 : (op : Int) < (13 : Int) := by omega
  have g2 : (op : Int) < (36 : Int) := by omega
  go_enter Try.func4, Try.ntmps4
  go_wp2_with (first
    | (go_at_call 13; with_reducible refine (d0 _).mono ?_; rintro e wq ⟨rfl, hq⟩; subst wq)
    | (go_at_call 16; with_reducible refine (d1 _).mono ?_; rintro e wq ⟨rfl, hq⟩; replace HB : Below w.heap.size w wq := bt2 hq HB)
    | (go_at_call 17; with_reducible refine (d2 _).mono ?_; rintro e wq ⟨rfl, hq⟩; subst wq)
    | (go_at_call 14; with_reducible refine (d3 _).mono ?_; rintro e wq ⟨rfl, hq⟩; subst wq)
    | (go_at_call 15; with_reducible refine (d4 _).mono ?_; rintro e wq ⟨rfl, hq⟩; subst wq))
  go_ret
  exact ⟨rfl, HB⟩
set_option maxRecDepth 100000 in
set_option maxHeartbeats 1000000 in
theorem tab_mid (op a b U q : Nat) (w : World) (_f0 : (13 : Int) ≤ op) (_f1 : ¬ (op : Int) ≤ 28) (_f2 : ¬ (36 : Int) ≤ op) (_f3 : (op : Int) ≤ 59)
    (d0 : ∀ w, Calls Try.prog 13 #[.int .u8 op, .int .u32 a] w fun e w' => e = .returned (.tuple #[.int .u32 U, .int .i64 61]) ∧ w' = w)
    (d1 : ∀ w, Calls Try.prog 16 #[.int .u8 op, .int .u32 a, .int .u32 (b : Nat)] w fun e w' => e = .returned (.tuple #[.int .u32 0, .int .i64 61]) ∧ Below w.heap.size w w')
    (d2 : ∀ w, Calls Try.prog 17 #[.int .u8 op, .int .u32 a, .int .u32 (b : Nat)] w fun e w' => e = .returned (.tuple #[.bool false, .int .i64 61]) ∧ w' = w)
    (d3 : ∀ w, Calls Try.prog 14 #[.int .u8 op] w fun e w' => e = .returned (.tuple #[.int .u8 q, .int .i64 61]) ∧ w' = w)
    (d4 : ∀ w, Calls Try.prog 15 #[.int .u8 op] w fun e w' => e = .returned (.tuple #[.int .u8 0, .int .i64 61]) ∧ w' = w) :
    Calls Try.prog 4 #[.int .u8 op, .int .u32 a, .int .u32 (b : Nat)] w fun e w' => e = .returned (.bool true) ∧ Below w.heap.size w w' := by
  have HB : Below w.heap.size w w := Below.refl _ _
  have g1 : 28 < (op : Int) := by omega
  have g2 : (op : Int) < (36 : Int) := by omega
  go_enter Try.func4, Try.ntmps4
  go_wp2_with (first
    | (go_at_call 13; with_reducible refine (d0 _).mono ?_; rintro e wq ⟨rfl, hq⟩; subst wq)
    | (go_at_call 16; with_reducible refine (d1 _).mono ?_; rintro e wq ⟨rfl, hq⟩; replace HB : Below w.heap.size w wq := bt2 hq HB)
    | (go_at_call 17; with_reducible refine (d2 _).mono ?_; rintro e wq ⟨rfl, hq⟩; subst wq)
    | (go_at_call 14; with_reducible refine (d3 _).mono ?_; rintro e wq ⟨rfl, hq⟩; subst wq)
    | (go_at_call 15; with_reducible refine (d4 _).mono ?_; rintro e wq ⟨rfl, hq⟩; subst wq))
  go_ret
  exact ⟨rfl, HB⟩
set_option maxRecDepth 100000 in
set_option maxHeartbeats 1000000 in
theorem tab_hi (op a b U q : Nat) (w : World) (_f0 : (13 : Int) ≤ op) (_f1 : ¬ (op : Int) ≤ 28) (_f2 : (36 : Int) ≤ op) (_f3 : ¬ (op : Int) ≤ 59)
    (d0 : ∀ w, Calls Try.prog 13 #[.int .u8 op, .int .u32 a] w fun e w' => e = .returned (.tuple #[.int .u32 U, .int .i64 61]) ∧ w' = w)
    (d1 : ∀ w, Calls Try.prog 16 #[.int .u8 op, .int .u32 a, .int .u32 (b : Nat)] w fun e w' => e = .returned (.tuple #[.int .u32 0, .int .i64 61]) ∧ Below w.heap.size w w')
    (d2 : ∀ w, Calls Try.prog 17 #[.int .u8 op, .int .u32 a, .int .u32 (b : Nat)] w fun e w' => e = .returned (.tuple #[.bool false, .int .i64 61]) ∧ w' = w)
    (d3 : ∀ w, Calls Try.prog 14 #[.int .u8 op] w fun e w' => e = .returned (.tuple #[.int .u8 q, .int .i64 61]) ∧ w' = w)
    (d4 : ∀ w, Calls Try.prog 15 #[.int .u8 op] w fun e w' => e = .returned (.tuple #[.int .u8 0, .int .i64 61]) ∧ w' = w) :
    Calls Try.prog 4 #[.int .u8 op, .int .u32 a, .int .u32 (b : Nat)] w fun e w' => e = .returned (.bool true) ∧ Below w.heap.size w w' := by
  have HB : Below w.heap.size w w := Below.refl _ _
  have g1 : 28 < (op : Int) := by omega
  have g3 : 59 < (op : Int) := by omega
  go_enter Try.func4, Try.ntmps4
  go_wp2_with (first
    | (go_at_call 13; with_reducible refine (d0 _).mono ?_; rintro e wq ⟨rfl, hq⟩; subst wq)
    | (go_at_call 16; with_reducible refine (d1 _).mono ?_; rintro e wq ⟨rfl, hq⟩; replace HB : Below w.heap.size w wq := bt2 hq HB)
    | (go_at_call 17; with_reducible refine (d2 _).mono ?_; rintro e wq ⟨rfl, hq⟩; subst wq)
    | (go_at_call 14; with_reducible refine (d3 _).mono ?_; rintro e wq ⟨rfl, hq⟩; subst wq)
    | (go_at_call 15; with_reducible refine (d4 _).mono ?_; rintro e wq ⟨rfl, hq⟩; subst wq))
  go_ret
  exact ⟨rfl, HB⟩
theorem alu_table (op a b : Nat) (w : World) (ha : a < 4294967296) (hb : b < 4294967296) :
    Calls Try.prog 4 #[.int .u8 op, .int .u32 a, .int .u32 b] w fun e w' => e = .returned (.bool true) ∧ Below w.heap.size w w' := by
  have d0 := fun w => un_any op a w ha
  have d1 := fun w => bin_any op a b w ha hb
  have d2 := fun w => ho_any op a b w ha hb
  have d3 := fun w => sw_any op w
  have d4 := fun w => op_any op w
  by_cases c1 : 13 ≤ op ∧ op ≤ 28
  · have eu : unE op = 61 := by unfold unE; rw [if_neg (by omega)]
    have ew : binE op b = 61 := by unfold binE; rw [if_neg (by omega), if_neg (by omega)]
    have ex : binV op a b = 0 := binV_none ew
    have ec : hoE op = 0 := by unfold hoE; rw [if_pos c1]
    have es : swE op = 0 := by unfold swE; rw [if_pos c1]
    rw [eu] at d0; rw [ew, ex] at d1; rw [ec] at d2; rw [es] at d3
    by_cases c2 : op ≤ 24
    · have et : opE op = 0 := by unfold opE; rw [if_pos (by omega)]
      rw [et] at d4
      exact tab_cmp op a b _ _ _ _ w (by omega) (by omega) (by omega) d0 d1 d2 d3 d4
    · have et : opE op = 62 := by unfold opE; rw [if_neg (by omega), if_pos (by omega)]
      have ep : opV op = 0 := by
        have : op = 25 ∨ op = 26 ∨ op = 27 ∨ op = 28 := by omega
        rcases this with rfl | rfl | rfl | rfl <;> rfl
      rw [et, ep] at d4
      exact tab_cmf op a b _ _ _ w (by omega) (by omega) (by omega) d0 d1 d2 d3 d4
  have ec : hoE op = 61 := by unfold hoE; rw [if_neg c1]
  have eh : hoV op a b = false := hoV_none ec
  have es : swE op = 61 := by unfold swE; rw [if_neg c1]
  have et : opE op = 61 := by unfold opE; rw [if_neg (by omega), if_neg (by omega)]
  have ep : opV op = 0 := opV_none c1
  rw [ec, eh] at d2; rw [es] at d3; rw [et, ep] at d4
  by_cases c2 : op = 36 ∨ op = 37 ∨ op = 38 ∨ op = 49 ∨ op = 53 ∨ op = 58 ∨ op = 59
  · have eu : unE op = 0 := by unfold unE; rw [if_pos c2]
    have ew : binE op b = 61 := by unfold binE; rw [if_neg (by omega), if_neg (by omega)]
    have ex : binV op a b = 0 := binV_none ew
    rw [eu] at d0; rw [ew, ex] at d1
    exact tab_una op a b _ _ w (by omega) (by omega) (by omega) (by omega) d0 d1 d2 d3 d4
  have eu : unE op = 61 := by unfold unE; rw [if_neg c2]
  rw [eu] at d0
  by_cases c3 : 36 ≤ op ∧ op ≤ 59
  · by_cases c4 : (op = 42 ∨ op = 43 ∨ op = 44 ∨ op = 45) ∧ b = 0
    · obtain ⟨c5, rfl⟩ := c4
      have ew : binE op 0 = 60 := by unfold binE; rw [if_pos c5, if_pos rfl]
      have ex : binV op a 0 = 0 := by rcases c5 with rfl | rfl | rfl | rfl <;> simp [binV_42, binV_43, binV_44, binV_45]
      rw [ew, ex] at d1
      exact tab_div op a _ _ w (by omega) (by omega) (by omega) (by omega) d0 d1 d2 d3 d4
    · have ew : binE op b = 0 := by
        unfold binE
        by_cases c5 : op = 42 ∨ op = 43 ∨ op = 44 ∨ op = 45
        · rw [if_pos c5, if_neg (by omega)]
        · rw [if_neg c5, if_pos (by omega)]
      rw [ew] at d1
      exact tab_bin op a b _ _ _ w (by omega) (by omega) (by omega) (by omega) d0 d1 d2 d3 d4
  have ew : binE op b = 61 := by unfold binE; rw [if_neg (by omega), if_neg (by omega)]
  have ex : binV op a b = 0 := binV_none ew
  rw [ew, ex] at d1
  by_cases c4 : op < 13
  · exact tab_lo op a b _ _ w (by omega) (by omega) (by omega) (by omega) d0 d1 d2 d3 d4
  by_cases c5 : op < 36
  · exact tab_mid op a b _ _ w (by omega) (by omega) (by omega) (by omega) d0 d1 d2 d3 d4
  · exact tab_hi op a b _ _ w (by omega) (by omega) (by omega) (by omega) d0 d1 d2 d3 d4
end Go.Proofs.Ytadjdccjhaejfaa
