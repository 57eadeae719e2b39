import Derived.Test.YtiohmcfabjmcoaaSStepC
namespace Go.Proofs.Ytiohmcfabjmcoaa
open Go.RowKit

@[go_sem] theorem bP1 (s : Int) (w : World) : (Instr.build 25 #[(0, .int .u8 s)]).run Try.prog w = .ok (.agg #[.int .u8 s, .bool false, .int .u32 0, .int .i64 0]) w := run_build w 25 _ _ (by kernel_rfl)
@[go_sem] theorem bP2 (s : Int) (m : Bool) (w : World) : (Instr.build 25 #[(0, .int .u8 s), (1, .bool m)]).run Try.prog w = .ok (.agg #[.int .u8 s, .bool m, .int .u32 0, .int .i64 0]) w := run_build w 25 _ _ (by kernel_rfl)
@[go_sem] theorem bP4 (s : Int) (m : Bool) (n p : Int) (w : World) : (Instr.build 25 #[(0, .int .u8 s), (1, .bool m), (2, .int .u32 n), (3, .int .i64 p)]).run Try.prog w = .ok (.agg #[.int .u8 s, .bool m, .int .u32 n, .int .i64 p]) w := run_build w 25 _ _ (by kernel_rfl)
/-- are two parts the same? -/
def eqb (a : Int) (b : Bool) (c d a' : Int) (b' : Bool) (c' d' : Int) : Bool := a == a' && b == b' && c == c' && d == d'
@[go_sem] theorem eqP (a : Int) (b : Bool) (c d a' : Int) (b' : Bool) (c' d' : Int) (w : World) : (Op.equalIn 10000 25 (.agg #[.int .u8 a, .bool b, .int .u32 c, .int .i64 d]) (.agg #[.int .u8 a', .bool b', .int .u32 c', .int .i64 d'])).run Try.prog w = .ok (eqb a b c d a' b' c' d') w := by
  unfold eqb
  have hS : Try.prog.underlying 25 = some (.struct (Try.prog.fieldsOf 25)) := by kernel_rfl
  have hp : Try.prog.stoodInHeld 25 = false := by kernel_rfl
  rw [show (10000 : Nat) = 9999 + 1 from rfl, run_equalIn_agg w 9999 25 _ _ hS hp]
  simp only [Program.fieldsOf, Try.underlying25]
  go_simp
  by_cases h1 : a = a' <;> by_cases h2 : b = b' <;> by_cases h3 : c = c' <;> by_cases h4 : d = d' <;> simp [h1, h2, h3, h4]

/-- the parts of a word -/
def prt (a : Nat) : Int × Bool × Nat × Int := if ok a = false then (1, false, 0, 0) else if a % 2147483648 = 2139095040 then (2, sg a, 0, 0) else (3, sg a, rdm a, -149 + (rdk a : Int))
def pv (p : Int × Bool × Nat × Int) : Value := .agg #[.int .u8 p.1, .bool p.2.1, .int .u32 (p.2.2.1 : Nat), .int .i64 p.2.2.2]
theorem b_frac (a : Nat) (h : a < 4294967296) : bits .and .u32 (a : Int) 8388607 = ((a % 8388608 : Nat) : Int) := by
  have := u32_and_nat a 8388607 h (by omega)
  rw [show a &&& 8388607 = a % 8388608 from Nat.and_two_pow_sub_one_eq_mod a 23] at this
  exact this
set_option maxRecDepth 100000 in
set_option maxHeartbeats 1000000 in
theorem split_any (a : Nat) (w : World) (h : a < 4294967296) :
    Calls Try.prog 7 #[.int .u32 a] w fun e w' => e = .returned (pv (prt a)) ∧ Below w.heap.size w w' := by
  have hb := b_sign a h
  have hb2 := b_andNot a h
  have hb3 := b_frac a h
  have hs : ((a : Int) / 2147483648 * 2147483648 != 0) = sg a := by
    unfold sg
    by_cases h' : 2147483648 ≤ a
    · rw [decide_eq_true h', show (a : Int) / 2147483648 = 1 by omega]; rfl
    · rw [decide_eq_false h', show (a : Int) / 2147483648 = 0 by omega]; rfl
  unfold prt
  cases oa : ok a
  · rw [if_pos rfl]
    go_enter Try.func7, Try.ntmps7
    go_wp2_with (go_at_call 21; refine (none_any _ _ h).mono ?_; rw [oa]; rintro e wq ⟨rfl, hq⟩; subst wq)
    refine bodyPost_ret (v := pv (1, false, 0, 0)) (by simp [results, Try.f7, go_sem, pv]) rfl ?_
    exact ⟨rfl, bel (Below.refl _ _)⟩
  have hm : a % 2147483648 ≤ 2139095040 := by simpa [ok] using oa
  rw [if_neg (by decide)]
  by_cases hi : a % 2147483648 = 2139095040
  · rw [if_pos hi]
    rw [hi] at hb2
    generalize sg a = s at hs
    go_enter Try.func7, Try.ntmps7
    go_wp2_with (go_at_call 21; refine (none_any _ _ h).mono ?_; rw [oa]; rintro e wq ⟨rfl, hq⟩; subst wq)
    refine bodyPost_ret (v := pv (2, s, 0, 0)) (by simp [results, Try.f7, go_sem, pv]) rfl ?_
    exact ⟨rfl, bel (Below.refl _ _)⟩
  rw [if_neg hi]
  unfold rdm rdk
  by_cases hz : a % 2147483648 < 8388608
  · rw [if_pos hz, if_pos hz]
    obtain ⟨r, hr⟩ : ∃ r, a % 2147483648 = r := ⟨_, rfl⟩
    rw [show a % 8388608 = a % 2147483648 by omega, hr] at hb3
    rw [hr] at hb2 hz ⊢
    have he : (r : Int) / 8388608 = 0 := by omega
    generalize sg a = s at hs
    clear hm hi hr
    go_enter Try.func7, Try.ntmps7
    go_wp2_with (go_at_call 21; refine (none_any _ _ h).mono ?_; rw [oa]; rintro e wq ⟨rfl, hq⟩; subst wq)
    refine bodyPost_ret (v := pv (3, s, r, -149 + ((0 : Nat) : Int))) (by simp [results, Try.f7, go_sem, pv]) rfl ?_
    exact ⟨rfl, bel (Below.refl _ _)⟩
  · rw [if_neg hz, if_neg hz]
    obtain ⟨r, hr⟩ : ∃ r, a % 2147483648 = r := ⟨_, rfl⟩
    obtain ⟨E, hE⟩ : ∃ E, r / 8388608 = E + 1 := ⟨r / 8388608 - 1, by omega⟩
    rw [hr] at hb2 ⊢
    rw [hE, Nat.add_sub_cancel]
    have he : (r : Int) / 8388608 = (E : Int) + 1 := by omega
    have hE2 : E < 254 := by omega
    have hF : a % 8388608 < 8388608 := by omega
    have g1 : ((E : Int) + 1 == 255) = false := by simp; omega
    have g2 : ((E : Int) + 1 == 0) = false := by simp; omega
    have hrr : r < 2147483648 := by omega
    generalize a % 8388608 = G at hb3 hF ⊢
    generalize sg a = s at hs
    clear hm hi hr hz hE
    go_enter Try.func7, Try.ntmps7
    go_wp2_with (go_at_call 21; refine (none_any _ _ h).mono ?_; rw [oa]; rintro e wq ⟨rfl, hq⟩; subst wq)
    refine bodyPost_ret (v := pv (3, s, 8388608 + G, -149 + (E : Int))) (by simp [results, Try.f7, go_sem, pv]; omega) rfl ?_
    exact ⟨rfl, bel (Below.refl _ _)⟩
end Go.Proofs.Ytiohmcfabjmcoaa
