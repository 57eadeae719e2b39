import Derived.Test.YtadjdccjhaejfabAHo
import Derived.Test.YtadjdccjhaejfabATur
namespace Go.Proofs.Ytadjdccjhaejfab
open Go.RowKit
theorem bt2 {a W w1 : World} (h : Below W.heap.size W w1) (h' : Below a.heap.size a W) : Below a.heap.size a w1 := h'.trans (h.mono h'.size)
theorem one6_any (op a : Nat) (w : World) (ha : a < 4294967296) :
    Calls Try.prog 14 #[.int .u8 op, .int .u32 a] w fun e w' => e = .returned (.int .u32 (unV op a)) ∧ w' = w := by
  go_enter Try.func14, Try.ntmps14
  go_wp2_with (go_at_call 22; refine (un_any op a _ ha).mono ?_; rintro e wq ⟨rfl, hq⟩; subst wq)
  go_ret
  exact ⟨rfl, rfl⟩
theorem two6_any (op a b : Nat) (w : World) (ha : a < 4294967296) (hb : b < 4294967296) :
    Calls Try.prog 13 #[.int .u8 op, .int .u32 a, .int .u32 b] w fun e w' => e = .returned (.int .u32 (binV op a b)) ∧ Below w.heap.size w w' := by
  go_enter Try.func13, Try.ntmps13
  go_wp2_with (go_at_call 12; refine (bin_any op a b _ ha hb).mono ?_; rintro e wq ⟨rfl, hq⟩)
  go_ret
  exact ⟨rfl, hq⟩
theorem is6_any (op a b : Nat) (w : World) (ha : a < 4294967296) (hb : b < 4294967296) :
    Calls Try.prog 8 #[.int .u8 op, .int .u32 a, .int .u32 b] w fun e w' => e = .returned (.bool (hoV op a b)) ∧ w' = w := by
  go_enter Try.func8, Try.ntmps8
  go_wp2_with (go_at_call 5; refine (ho_any op a b _ ha hb).mono ?_; rintro e wq ⟨rfl, hq⟩; subst wq)
  go_ret
  exact ⟨rfl, rfl⟩
abbrev One (k x z : Int) : Prop := ∀ w, Calls Try.prog 14 #[.int .u8 k, .int .u32 x] w fun e w' => e = .returned (.int .u32 z) ∧ w' = w
abbrev Two (k x y z : Int) : Prop := ∀ w, Calls Try.prog 13 #[.int .u8 k, .int .u32 x, .int .u32 y] w fun e w' => e = .returned (.int .u32 z) ∧ Below w.heap.size w w'
abbrev Is (k x y : Int) (z : Bool) : Prop := ∀ w, Calls Try.prog 8 #[.int .u8 k, .int .u32 x, .int .u32 y] w fun e w' => e = .returned (.bool z) ∧ w' = w
abbrev Bin (k x y z e0 : Int) : Prop := ∀ w, Calls Try.prog 12 #[.int .u8 k, .int .u32 x, .int .u32 y] w fun e w' => e = .returned (.tuple #[.int .u32 z, .int .i64 e0]) ∧ Below w.heap.size w w'
theorem one_is (op x z : Nat) (hx : x < 4294967296) (h : unV op x = z) : One op x z := fun w => h ▸ one6_any op x w hx
theorem two_is (op x y z : Nat) (hx : x < 4294967296) (hy : y < 4294967296) (h : binV op x y = z) : Two op x y z := fun w => h ▸ two6_any op x y w hx hy
theorem is_is (op x y : Nat) (z : Bool) (hx : x < 4294967296) (hy : y < 4294967296) (h : hoV op x y = z) : Is op x y z := fun w => h ▸ is6_any op x y w hx hy
theorem bin_is (op x y z : Nat) (e : Int) (hx : x < 4294967296) (hy : y < 4294967296) (h : binV op x y = z) (he : binE op y = e) : Bin op x y z e := fun w => h ▸ he ▸ bin_any op x y w hx hy
set_option maxRecDepth 100000 in
theorem awake6 (w : World) : Calls Try.prog 6 #[] w fun e w' => e = .returned (.bool true) ∧ Below w.heap.size w w' := by
  have HB : Below w.heap.size w w := Below.refl _ _
  have c0 : Bin 45 5 0 0 60 := bin_is 45 (5) (0) (0) (60) (by decide) (by decide) (by decide +kernel) (by decide +kernel)
  have c1 : Two 39 2 3 5 := two_is 39 (2) (3) (5) (by decide) (by decide) (by decide +kernel)
  have c2 : Two 41 6 7 42 := two_is 41 (6) (7) (42) (by decide) (by decide) (by decide +kernel)
  have c3 : Two 42 7 2 3 := two_is 42 (7) (2) (3) (by decide) (by decide) (by decide +kernel)
  have c4 : One 38 1 4294967295 := one_is 38 (1) (4294967295) (by decide) (by decide +kernel)
  have c5 : One 36 511 4294967295 := one_is 36 (511) (4294967295) (by decide) (by decide +kernel)
  have c6 : Two 50 1 33 2 := two_is 50 (1) (33) (2) (by decide) (by decide) (by decide +kernel)
  have c7 : Is 15 4294967295 0 (true) := is_is 15 (4294967295) (0) (true) (by decide) (by decide) (by decide +kernel)
  have c8 : Is 21 4294967295 0 (true) := is_is 21 (4294967295) (0) (true) (by decide) (by decide) (by decide +kernel)
  have c9 : Is 24 2143289344 2143289344 (true) := is_is 24 (2143289344) (2143289344) (true) (by decide) (by decide) (by decide +kernel)
  go_enter Try.func6, Try.ntmps6
  go_wp2_with (first
    | (go_at_call 12; with_reducible refine (c0 _).mono ?_; rintro e wq ⟨rfl, hq⟩; replace HB : Below w.heap.size w wq := bt2 hq HB)
    | (go_at_call 13; with_reducible refine (c1 _).mono ?_; rintro e wq ⟨rfl, hq⟩; replace HB : Below w.heap.size w wq := bt2 hq HB)
    | (go_at_call 13; with_reducible refine (c2 _).mono ?_; rintro e wq ⟨rfl, hq⟩; replace HB : Below w.heap.size w wq := bt2 hq HB)
    | (go_at_call 13; with_reducible refine (c3 _).mono ?_; rintro e wq ⟨rfl, hq⟩; replace HB : Below w.heap.size w wq := bt2 hq HB)
    | (go_at_call 14; with_reducible refine (c4 _).mono ?_; rintro e wq ⟨rfl, hq⟩; subst wq)
    | (go_at_call 14; with_reducible refine (c5 _).mono ?_; rintro e wq ⟨rfl, hq⟩; subst wq)
    | (go_at_call 13; with_reducible refine (c6 _).mono ?_; rintro e wq ⟨rfl, hq⟩; replace HB : Below w.heap.size w wq := bt2 hq HB)
    | (go_at_call 8; with_reducible refine (c7 _).mono ?_; rintro e wq ⟨rfl, hq⟩; subst wq)
    | (go_at_call 8; with_reducible refine (c8 _).mono ?_; rintro e wq ⟨rfl, hq⟩; subst wq)
    | (go_at_call 8; with_reducible refine (c9 _).mono ?_; rintro e wq ⟨rfl, hq⟩; subst wq))
  go_ret
  exact ⟨rfl, HB⟩
end Go.Proofs.Ytadjdccjhaejfab
