import Derived.Test.YtiohmcfabjmcoaaSPart
namespace Go.Proofs.Ytiohmcfabjmcoaa
open Go.RowKit

/-- what is laid together, whatever it is -/
def fx (n : Nat) (q : Int) : Nat := ((wrap64 (q + 149) % 4294967296 * 8388608 % 4294967296 + (n : Int)) % 4294967296).toNat
theorem fx_lt (n : Nat) (q : Int) : fx n q < 4294967296 := by unfold fx; omega
theorem fx_fin (n k : Nat) (hn : n < 16777216) (hk : k < 254) : fx n (-149 + (k : Int)) = k * 8388608 + n := by
  have e : wrap64 (-149 + (k : Int) + 149) = (k : Int) := by
    rw [show -149 + (k : Int) + 149 = (k : Int) by omega]; unfold wrap64; omega
  unfold fx
  rw [e]; omega
theorem finite_gen (n : Nat) (q : Int) (w : World) :
    Calls Try.prog 44 #[.int .u32 n, .int .i64 q] w fun e w' => e = .returned (.int .u32 (fx n q)) ∧ w' = w := by
  have h2 : ((fx n q : Nat) : Int) = (wrap64 (q + 149) % 4294967296 * 8388608 % 4294967296 + (n : Int)) % 4294967296 := by unfold fx; omega
  rw [h2]
  clear h2
  go_enter Try.func44, Try.ntmps44
  go_wp2
  go_ret
  exact ⟨rfl, rfl⟩
theorem signed_any (m : Bool) (r : Nat) (w : World) (h : r < 2147483648) :
    Calls Try.prog 43 #[.bool m, .int .u32 r] w fun e w' => e = .returned (.int .u32 (wrd m r : Nat)) ∧ w' = w := by
  cases m
  · rw [show wrd false r = r by unfold wrd; simp]
    go_enter Try.func43, Try.ntmps43
    go_wp2
    go_ret
    exact ⟨rfl, rfl⟩
  · rw [show wrd true r = r + 2147483648 by unfold wrd; simp; omega]
    have hb := b_or r h
    generalize r + 2147483648 = X at *
    go_enter Try.func43, Try.ntmps43
    go_wp2
    go_ret
    exact ⟨rfl, rfl⟩
def sx (m : Bool) (r : Nat) : Nat := if m then r ||| 2147483648 else r
theorem sx_lt (m : Bool) (r : Nat) (h : r < 4294967296) : sx m r < 4294967296 := by
  unfold sx; split
  · exact Nat.or_lt_two_pow (n := 32) (by omega) (by omega)
  · exact h
theorem sx_wrd (m : Bool) (r : Nat) (h : r < 2147483648) : sx m r = wrd m r := by
  unfold sx wrd
  cases m
  · simp
  · simp only [if_true]
    rw [Nat.or_comm, nat_join 31 2147483648 r (by decide) (by omega)]
theorem signed_gen (m : Bool) (r : Nat) (w : World) (h : r < 4294967296) :
    Calls Try.prog 43 #[.bool m, .int .u32 r] w fun e w' => e = .returned (.int .u32 (sx m r)) ∧ w' = w := by
  unfold sx
  cases m
  · rw [if_neg (by decide)]
    clear h
    go_enter Try.func43, Try.ntmps43
    go_wp2
    go_ret
    exact ⟨rfl, rfl⟩
  · rw [if_pos rfl]
    have hb2 : bits .or .u32 (r : Int) 2147483648 = ((r ||| 2147483648 : Nat) : Int) := u32_or_nat r 2147483648 h (by decide)
    clear h
    generalize r ||| 2147483648 = X at *
    go_enter Try.func43, Try.ntmps43
    go_wp2
    go_ret
    exact ⟨rfl, rfl⟩

/-! parts that a word has -/
def vld (p : Int × Bool × Nat × Int) : Prop := (p.1 = 1 ∧ p.2.1 = false ∧ p.2.2.1 = 0 ∧ p.2.2.2 = 0) ∨ (p.1 = 2 ∧ p.2.2.1 = 0 ∧ p.2.2.2 = 0) ∨ (p.1 = 3 ∧ p.2.2.1 < 16777216 ∧ ∃ k : Nat, k < 254 ∧ p.2.2.2 = -149 + (k : Int) ∧ (k = 0 ∨ 8388608 ≤ p.2.2.1))
theorem prt_vld (a : Nat) : vld (prt a) := by
  unfold prt
  by_cases ho : ok a = false
  · rw [if_pos ho]; exact Or.inl ⟨rfl, rfl, rfl, rfl⟩
  rw [if_neg ho]
  have hm : a % 2147483648 ≤ 2139095040 := by simpa [ok] using ho
  by_cases hi : a % 2147483648 = 2139095040
  · rw [if_pos hi]; exact Or.inr (Or.inl ⟨rfl, rfl, rfl⟩)
  · rw [if_neg hi]
    obtain ⟨r1, r2, r3⟩ := rd_rung a
    exact Or.inr (Or.inr ⟨rfl, r2, rdk a, by omega, rfl, r3⟩)
theorem wrd_facts (m : Bool) (r : Nat) (h : r < 2147483648) : wrd m r < 4294967296 ∧ wrd m r % 2147483648 = r ∧ sg (wrd m r) = m := by
  unfold wrd sg
  cases m
  · simp only [Bool.false_eq_true, if_false]
    exact ⟨by omega, by omega, decide_eq_false (by omega)⟩
  · simp only [if_true]
    exact ⟨by omega, by omega, decide_eq_true (by omega)⟩
/-- the word of a finite one, taken apart -/
theorem prt_fin (m : Bool) (n k : Nat) (hn : n < 16777216) (hk : k < 254) (hkn : k = 0 ∨ 8388608 ≤ n) : prt (wrd m (k * 8388608 + n)) = (3, m, n, -149 + (k : Int)) := by
  obtain ⟨f1, f2, f3⟩ := wrd_facts m (k * 8388608 + n) (by omega)
  generalize wrd m (k * 8388608 + n) = a at *
  unfold prt
  rw [if_neg (by simp [ok, f2]; omega), if_neg (by omega), f3]
  obtain ⟨r1, r2, r3⟩ := rd_rung a
  have e1 : rdk a = k ∧ rdm a = n := by omega
  rw [e1.1, e1.2]
theorem prt_endless (m : Bool) : prt (wrd m 2139095040) = (2, m, 0, 0) := by cases m <;> decide +kernel
theorem prt_none : prt 2143289344 = (1, false, 0, 0) := by decide +kernel

theorem joined1 (m : Bool) (n : Nat) (q : Int) (w : World) :
    Calls Try.prog 23 #[pv (1, m, n, q)] w fun e w' => e = .returned (.int .u32 (2143289344 : Nat)) ∧ ∃ o k, w' = (w.alloc o).drewN k := by
  show Calls _ _ #[.agg #[.int .u8 1, .bool m, .int .u32 (n : Int), .int .i64 q]] _ _
  go_enter Try.func23, Try.ntmps23
  go_wp2
  go_ret
  exact ⟨rfl, _, 0, rfl⟩
theorem joined2 (m : Bool) (n : Nat) (q : Int) (w : World) :
    Calls Try.prog 23 #[pv (2, m, n, q)] w fun e w' => e = .returned (.int .u32 (wrd m 2139095040 : Nat)) ∧ ∃ o k, w' = (w.alloc o).drewN k := by
  show Calls _ _ #[.agg #[.int .u8 2, .bool m, .int .u32 (n : Int), .int .i64 q]] _ _
  have c : ∀ w, Calls Try.prog 43 #[.bool m, .int .u32 2139095040] w fun e w' => e = .returned (.int .u32 (wrd m 2139095040 : Nat)) ∧ w' = w := fun w => signed_any m 2139095040 w (by decide)
  generalize wrd m 2139095040 = X at *
  go_enter Try.func23, Try.ntmps23
  go_wp2_with (go_at_call 43; refine (c _).mono ?_; rintro e wq ⟨rfl, hq⟩; subst wq)
  go_ret
  exact ⟨rfl, _, 0, rfl⟩
set_option maxRecDepth 100000 in
theorem joinedg (s : Int) (m : Bool) (n : Nat) (q : Int) (w : World) (h1 : (s == 1) = false) (h2 : (s == 2) = false) :
    Calls Try.prog 23 #[pv (s, m, n, q)] w fun e w' => e = .returned (.int .u32 (sx m (fx n q))) ∧ ∃ o k, w' = (w.alloc o).drewN k := by
  show Calls _ _ #[.agg #[.int .u8 s, .bool m, .int .u32 (n : Int), .int .i64 q]] _ _
  have f := fun w => finite_gen n q w
  have c := fun w => signed_gen m (fx n q) w (fx_lt _ _)
  generalize sx m (fx n q) = X at *
  generalize fx n q = Y at *
  go_enter Try.func23, Try.ntmps23
  go_wp2
  go_quiet (first
    | (go_at_call 43; exact Calls.quiet_of_same (c _))
    | (go_at_call 44; exact Calls.quiet_of_same (f _)))
  go_wp2
  go_ret
  exact ⟨rfl, _, _, rfl⟩
end Go.Proofs.Ytiohmcfabjmcoaa
