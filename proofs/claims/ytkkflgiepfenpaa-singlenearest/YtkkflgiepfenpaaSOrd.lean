import Derived.Test.YtkkflgiepfenpaaSOps
namespace Go.Proofs.Ytkkflgiepfenpaa
open Go.RowKit

def fstand (a b : Nat) : Nat := match Ieee.single.order a b with
  | some .lt => 2
  | some .eq => 3
  | some .gt => 4
  | none => 1
theorem stand_any (a b : Nat) (w : World) :
    Calls Try.prog 16 #[.int .u32 a, .int .u32 b] w fun e w' => e = .returned (.int .u8 (fstand a b)) ∧ w' = w := by
  have e0 : FloatKind.f32.format.order a b = Ieee.single.order a b := rfl
  unfold fstand
  cases h : Ieee.single.order a b with
  | none =>
    have h1 : (FloatKind.f32.format.order a b == some .lt) = false := by rw [e0, h]; rfl
    have h2 : (FloatKind.f32.format.order a b == some .eq) = false := by rw [e0, h]; rfl
    have h3 : (FloatKind.f32.format.order a b == some .gt) = false := by rw [e0, h]; rfl
    clear e0 h
    go_enter Try.func16, Try.ntmps16
    go_wp2_with (go_at_call 22; refine (number_any _ _).mono ?_; rintro e wq ⟨rfl, hq⟩; subst wq)
    go_ret
    exact ⟨rfl, rfl⟩
  | some o =>
    cases o with
    | lt =>
      have h1 : (FloatKind.f32.format.order a b == some .lt) = true := by rw [e0, h]; rfl
      clear e0 h
      go_enter Try.func16, Try.ntmps16
      go_wp2_with (go_at_call 22; refine (number_any _ _).mono ?_; rintro e wq ⟨rfl, hq⟩; subst wq)
      go_ret
      exact ⟨rfl, rfl⟩
    | eq =>
      have h1 : (FloatKind.f32.format.order a b == some .lt) = false := by rw [e0, h]; rfl
      have h2 : (FloatKind.f32.format.order a b == some .eq) = true := by rw [e0, h]; rfl
      clear e0 h
      go_enter Try.func16, Try.ntmps16
      go_wp2_with (go_at_call 22; refine (number_any _ _).mono ?_; rintro e wq ⟨rfl, hq⟩; subst wq)
      go_ret
      exact ⟨rfl, rfl⟩
    | gt =>
      have h1 : (FloatKind.f32.format.order a b == some .lt) = false := by rw [e0, h]; rfl
      have h2 : (FloatKind.f32.format.order a b == some .eq) = false := by rw [e0, h]; rfl
      have h3 : (FloatKind.f32.format.order a b == some .gt) = true := by rw [e0, h]; rfl
      clear e0 h
      go_enter Try.func16, Try.ntmps16
      go_wp2_with (go_at_call 22; refine (number_any _ _).mono ?_; rintro e wq ⟨rfl, hq⟩; subst wq)
      go_ret
      exact ⟨rfl, rfl⟩

/-- the next above -/
def fab (a : Nat) : Nat := if ok a = false then 2143289344 else if a % 2147483648 = 0 then 1 else if a = 2139095040 then 2139095040 else if 2147483648 ≤ a then a - 1 else a + 1
theorem fab_lt {a : Nat} (h : a < 4294967296) : fab a < 4294967296 := by
  unfold fab; split
  · omega
  · split
    · omega
    · split
      · omega
      · split <;> omega
theorem above_any (a : Nat) (w : World) (h : a < 4294967296) :
    Calls Try.prog 17 #[.int .u32 a] w fun e w' => e = .returned (.int .u32 (fab a)) ∧ w' = w := by
  have hb := b_sign a h
  unfold fab
  by_cases ho : ok a = false
  · rw [if_pos ho]
    go_enter Try.func17, Try.ntmps17
    go_wp2_with (go_at_call 25; refine (none_any _ _ h).mono ?_; rw [ho]; rintro e wq ⟨rfl, hq⟩; subst wq)
    go_ret
    exact ⟨rfl, rfl⟩
  have ho' : ok a = true := by simpa using ho
  have hm : a % 2147483648 ≤ 2139095040 := by simpa [ok] using ho'
  rw [if_neg ho]
  by_cases hz : a % 2147483648 = 0
  · rw [if_pos hz]
    have : a = 0 ∨ a = 2147483648 := by omega
    rcases this with rfl | rfl
    · go_enter Try.func17, Try.ntmps17
      go_wp2_with (go_at_call 25; refine (none_any 0 _ h).mono ?_; rw [ho']; rintro e wq ⟨rfl, hq⟩; subst wq)
      go_ret
      exact ⟨rfl, rfl⟩
    · go_enter Try.func17, Try.ntmps17
      go_wp2_with (go_at_call 25; refine (none_any 2147483648 _ h).mono ?_; rw [ho']; rintro e wq ⟨rfl, hq⟩; subst wq)
      go_ret
      exact ⟨rfl, rfl⟩
  rw [if_neg hz]
  have g1 : ((a : Int) == 0) = false := by simp; omega
  have g2 : ((a : Int) == 2147483648) = false := by simp; omega
  by_cases hi : a = 2139095040
  · subst hi
    rw [if_pos rfl]
    go_enter Try.func17, Try.ntmps17
    go_wp2_with (go_at_call 25; refine (none_any 2139095040 _ h).mono ?_; rw [ho']; rintro e wq ⟨rfl, hq⟩; subst wq)
    go_ret
    exact ⟨rfl, rfl⟩
  rw [if_neg hi]
  have g3 : ((a : Int) == 2139095040) = false := by simp; omega
  by_cases hs : 2147483648 ≤ a
  · rw [if_pos hs]
    have g4 : (((a / 2147483648 * 2147483648 : Nat) : Int) != 0) = true := by simp; omega
    have g5 : ((a - 1 : Nat) : Int) = (a : Int) - 1 := by omega
    rw [g5]
    clear g5
    go_enter Try.func17, Try.ntmps17
    go_wp2_with (go_at_call 25; refine (none_any _ _ h).mono ?_; rw [ho']; rintro e wq ⟨rfl, hq⟩; subst wq)
    go_ret
    exact ⟨by first | rfl | go_num, rfl⟩
  · rw [if_neg hs]
    have g4 : (((a / 2147483648 * 2147483648 : Nat) : Int) != 0) = false := by simp; omega
    have g5 : ((a + 1 : Nat) : Int) = (a : Int) + 1 := by omega
    rw [g5]
    clear g5
    go_enter Try.func17, Try.ntmps17
    go_wp2_with (go_at_call 25; refine (none_any _ _ h).mono ?_; rw [ho']; rintro e wq ⟨rfl, hq⟩; subst wq)
    go_ret
    exact ⟨by first | rfl | go_num, rfl⟩

def fbe (a : Nat) : Nat := if ok a = false then 2143289344 else tn (fab (tn a))
end Go.Proofs.Ytkkflgiepfenpaa
