import Derived.Test.YtibjjlogdepgjaaATow
import Derived.Test.YtibjjlogdepgjaaABinA
namespace Go.Proofs.Ytibjjlogdepgjaa
open Go.RowKit
set_option maxRecDepth 100000
/-- the lowest bits with their sign, as a word -/
def sex8 (a : Nat) : Nat := if a % 256 < 128 then a % 256 else a % 256 + 4294967040
def sex16 (a : Nat) : Nat := if a % 65536 < 32768 then a % 65536 else a % 65536 + 4294901760
theorem u_w8 (a : Nat) : IntKind.i8.wrap (a : Int) % 4294967296 = (sex8 a : Int) := by
  have e : IntKind.i8.wrap (a : Int) = ((a : Int) + 128) % 256 - 128 := by rw [IntKind.wrap]; simp [IntKind.signed, IntKind.bits]; split <;> omega
  rw [e]; unfold sex8; split <;> omega
theorem u_w16 (a : Nat) : IntKind.i16.wrap (a : Int) % 4294967296 = (sex16 a : Int) := by
  have e : IntKind.i16.wrap (a : Int) = ((a : Int) + 32768) % 65536 - 32768 := by rw [IntKind.wrap]; simp [IntKind.signed, IntKind.bits]; split <;> omega
  rw [e]; unfold sex16; split <;> omega
theorem xor_ones {a : Nat} (ha : a < 4294967296) : a ^^^ 4294967295 = 4294967295 - a := by
  have h : (BitVec.ofNat 32 a ^^^ BitVec.allOnes 32).toNat = (~~~ BitVec.ofNat 32 a).toNat := by rw [BitVec.xor_allOnes]
  rw [BitVec.toNat_xor, BitVec.toNat_not, BitVec.toNat_allOnes, BitVec.toNat_ofNat, Nat.mod_eq_of_lt ha] at h
  exact h
theorem u_not {a : Nat} (ha : a < 4294967296) : bits .xor .u32 IntKind.u32.max (a : Int) = ((4294967295 - a : Nat) : Int) := by
  have h1 : IntKind.u32.max = ((4294967295 : Nat) : Int) := rfl
  rw [h1, u32_xor_nat 4294967295 a (by decide) ha]
  congr 1
  have := Nat.xor_comm 4294967295 a
  rw [this]
  exact xor_ones ha
theorem u_sex8_any (a : Nat) (w : World) :
    Calls Try.prog 38 #[.int .u8 36, .int .u32 a] w fun e w' => e = .returned (.tuple #[.int .u32 ((sex8 a : Nat) : Int), .int .i64 0]) ∧ w' = w := by
  have e := u_w8 a
  rw [← e]
  clear e
  go_enter Try.func38, Try.ntmps38
  go_wp2
  simp [bodyPost, results, Try.results38]
theorem u_sex16_any (a : Nat) (w : World) :
    Calls Try.prog 38 #[.int .u8 37, .int .u32 a] w fun e w' => e = .returned (.tuple #[.int .u32 ((sex16 a : Nat) : Int), .int .i64 0]) ∧ w' = w := by
  have e := u_w16 a
  rw [← e]
  clear e
  go_enter Try.func38, Try.ntmps38
  go_wp2
  simp [bodyPost, results, Try.results38]
theorem u_neg_any (a : Nat) (w : World) (ha : a < 4294967296) :
    Calls Try.prog 38 #[.int .u8 38, .int .u32 a] w fun e w' => e = .returned (.tuple #[.int .u32 (((4294967296 - a) % 4294967296 : Nat) : Int), .int .i64 0]) ∧ w' = w := by
  have e : (-(a : Int)) % 4294967296 = (((4294967296 - a) % 4294967296 : Nat) : Int) := by omega
  rw [← e]
  clear e
  go_enter Try.func38, Try.ntmps38
  go_wp2
  simp [bodyPost, results, Try.results38]
theorem u_not_any (a : Nat) (w : World) (ha : a < 4294967296) :
    Calls Try.prog 38 #[.int .u8 49, .int .u32 a] w fun e w' => e = .returned (.tuple #[.int .u32 ((4294967295 - a : Nat) : Int), .int .i64 0]) ∧ w' = w := by
  have e := u_not ha
  have hs : ¬ IntKind.u32.signed = true := by decide
  rw [← e]
  clear e
  go_enter Try.func38, Try.ntmps38
  go_wp2
  simp [bodyPost, results, Try.results38]
theorem u_negf_any (a : Nat) (w : World) (ha : a < 4294967296) :
    Calls Try.prog 38 #[.int .u8 53, .int .u32 a] w fun e w' => e = .returned (.tuple #[.int .u32 ((tn a : Nat) : Int), .int .i64 0]) ∧ w' = w := by
  go_enter Try.func38, Try.ntmps38
  go_wp2_with (go_at_call 42; refine (turned_any _ _ ha).mono ?_; rintro e wq ⟨rfl, hq⟩; subst wq)
  simp [bodyPost, results, Try.results38]
theorem u_cvif_any (a : Nat) (w : World) (ha : a < 4294967296) :
    Calls Try.prog 38 #[.int .u8 58, .int .u32 a] w fun e w' => e = .returned (.tuple #[.int .u32 ((fof (sx a) : Nat) : Int), .int .i64 0]) ∧ w' = w := by
  have e := wrap32_sx ha
  rw [← e]
  clear e
  go_enter Try.func38, Try.ntmps38
  go_wp2_with (go_at_call 43; refine (of_any _ _).mono ?_; rintro e wq ⟨rfl, hq⟩; subst wq)
  simp [bodyPost, results, Try.results38]
theorem u_cvfi_any (a : Nat) (w : World) (ha : a < 4294967296) :
    Calls Try.prog 38 #[.int .u8 59, .int .u32 a] w fun e w' => e = .returned (.tuple #[.int .u32 (((twV a % 4294967296).toNat : Nat) : Int), .int .i64 0]) ∧ w' = w := by
  have e := anat_of (z := twV a)
  rw [e]
  clear e
  go_enter Try.func38, Try.ntmps38
  go_wp2_with (go_at_call 44; refine (ptoward_any _ _ ha).mono ?_; rintro e wq ⟨rfl, hq⟩; subst wq)
  simp [bodyPost, results, Try.results38]
theorem u_none_any (op a : Nat) (w : World) (h36 : ¬ (op : Int) = 36) (h37 : ¬ (op : Int) = 37) (h38 : ¬ (op : Int) = 38) (h49 : ¬ (op : Int) = 49) (h53 : ¬ (op : Int) = 53) (h58 : ¬ (op : Int) = 58) (h59 : ¬ (op : Int) = 59) :
    Calls Try.prog 38 #[.int .u8 op, .int .u32 a] w fun e w' => e = .returned (.tuple #[.int .u32 0, .int .i64 61]) ∧ w' = w := by
  go_enter Try.func38, Try.ntmps38
  go_wp2
  simp [bodyPost, results, Try.results38]
/-- what a unary operation makes of a word -/
def unV (op a : Nat) : Nat := if op = 36 then (sex8 a) else if op = 37 then (sex16 a) else if op = 38 then ((4294967296 - a) % 4294967296) else if op = 49 then (4294967295 - a) else if op = 53 then (tn a) else if op = 58 then (fof (sx a)) else if op = 59 then ((twV a % 4294967296).toNat) else 0
def unE (op : Nat) : Int := if op = 36 ∨ op = 37 ∨ op = 38 ∨ op = 49 ∨ op = 53 ∨ op = 58 ∨ op = 59 then 0 else 61
theorem unV_36 (a : Nat) : unV 36 a = (sex8 a) := by
  unfold unV
  repeat (first | rw [if_pos rfl] | rw [if_neg (by decide)])
theorem unV_37 (a : Nat) : unV 37 a = (sex16 a) := by
  unfold unV
  repeat (first | rw [if_pos rfl] | rw [if_neg (by decide)])
theorem unV_38 (a : Nat) : unV 38 a = ((4294967296 - a) % 4294967296) := by
  unfold unV
  repeat (first | rw [if_pos rfl] | rw [if_neg (by decide)])
theorem unV_49 (a : Nat) : unV 49 a = (4294967295 - a) := by
  unfold unV
  repeat (first | rw [if_pos rfl] | rw [if_neg (by decide)])
theorem unV_53 (a : Nat) : unV 53 a = (tn a) := by
  unfold unV
  repeat (first | rw [if_pos rfl] | rw [if_neg (by decide)])
theorem unV_58 (a : Nat) : unV 58 a = (fof (sx a)) := by
  unfold unV
  repeat (first | rw [if_pos rfl] | rw [if_neg (by decide)])
theorem unV_59 (a : Nat) : unV 59 a = ((twV a % 4294967296).toNat) := by
  unfold unV
  repeat (first | rw [if_pos rfl] | rw [if_neg (by decide)])
theorem un_any (op a : Nat) (w : World) (ha : a < 4294967296) :
    Calls Try.prog 38 #[.int .u8 op, .int .u32 a] w fun e w' => e = .returned (.tuple #[.int .u32 (unV op a), .int .i64 (unE op)]) ∧ w' = w := by
  by_cases h36 : op = 36
  · subst h36
    rw [unV_36, show unE 36 = 0 from rfl]
    exact u_sex8_any a w
  by_cases h37 : op = 37
  · subst h37
    rw [unV_37, show unE 37 = 0 from rfl]
    exact u_sex16_any a w
  by_cases h38 : op = 38
  · subst h38
    rw [unV_38, show unE 38 = 0 from rfl]
    exact u_neg_any a w ha
  by_cases h49 : op = 49
  · subst h49
    rw [unV_49, show unE 49 = 0 from rfl]
    exact u_not_any a w ha
  by_cases h53 : op = 53
  · subst h53
    rw [unV_53, show unE 53 = 0 from rfl]
    exact u_negf_any a w ha
  by_cases h58 : op = 58
  · subst h58
    rw [unV_58, show unE 58 = 0 from rfl]
    exact u_cvif_any a w ha
  by_cases h59 : op = 59
  · subst h59
    rw [unV_59, show unE 59 = 0 from rfl]
    exact u_cvfi_any a w ha
  have h0 : unV op a = 0 := by unfold unV; simp only [if_neg h36, if_neg h37, if_neg h38, if_neg h49, if_neg h53, if_neg h58, if_neg h59]
  have h1 : unE op = 61 := by unfold unE; rw [if_neg (by omega)]
  rw [h0, h1]
  exact u_none_any op a w (by omega) (by omega) (by omega) (by omega) (by omega) (by omega) (by omega)
end Go.Proofs.Ytibjjlogdepgjaa
