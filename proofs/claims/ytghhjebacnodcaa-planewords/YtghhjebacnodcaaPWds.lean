import Derived.Test.YtghhjebacnodcaaSRootM
namespace Go.Proofs.Ytghhjebacnodcaa
open Go.RowKit

theorem pword_any (x : Nat) (w : World) :
    Calls Try.prog 60 #[.float .f32 x] w fun e w' => e = .returned (.int .u32 (wd x)) ∧ w' = w := by
  have ho := order_self x
  by_cases h : ok x = true
  · rw [if_pos h] at ho
    have hb : (FloatKind.f32.format.order x x != some .eq) = false := by show (Ieee.single.order x x != some .eq) = false; rw [ho]; rfl
    have hw : wd x = x := by simp [wd, h]
    rw [hw]
    clear hw ho
    go_enter Try.func60, Try.ntmps60
    go_wp2
    go_ret
    exact ⟨rfl, rfl⟩
  · rw [if_neg h] at ho
    have hb : (FloatKind.f32.format.order x x != some .eq) = true := by show (Ieee.single.order x x != some .eq) = true; rw [ho]; rfl
    have hw : wd x = 2143289344 := by simp [wd, h]
    rw [hw]
    clear hw ho
    go_enter Try.func60, Try.ntmps60
    go_wp2
    go_ret
    exact ⟨rfl, rfl⟩
theorem pof_any (a b : Nat) (w : World) :
    Calls Try.prog 26 #[.int .u32 a, .int .u32 b] w fun e w' => e = .returned (.complex .f32 a b) ∧ w' = w := by
  go_enter Try.func26, Try.ntmps26
  go_wp2
  go_ret
  exact ⟨rfl, rfl⟩
theorem pbits_any (a b : Nat) (w : World) :
    Calls Try.prog 27 #[.complex .f32 a b] w fun e w' => e = .returned (.tuple #[.int .u32 (wd a), .int .u32 (wd b)]) ∧ w' = w := by
  go_enter Try.func27, Try.ntmps27
  go_wp2_with (first
    | (go_at_call 60; refine (pword_any _ _).mono ?_; rintro e wq ⟨rfl, hq⟩; subst wq))
  go_ret2
  exact ⟨rfl, rfl⟩
theorem pcanon_any (a : Nat) (w : World) (h : a < 4294967296) :
    Calls Try.prog 30 #[.int .u32 a] w fun e w' => e = .returned (.int .u32 (wd a)) ∧ w' = w := by
  by_cases ho : ok a = true
  · have hd : ¬ ((2139095040 : Int) < (a : Int) % 2147483648) := by
      have := ok_mod ho; omega
    rw [show wd a = a by simp [wd, ho]]
    go_enter Try.func30, Try.ntmps30
    go_wp2
    go_ret
    exact ⟨rfl, rfl⟩
  · have hd : ((2139095040 : Int) < (a : Int) % 2147483648) := by
      have : ¬ a % 2147483648 ≤ 2139095040 := fun h => ho (mod_ok h)
      omega
    rw [show wd a = 2143289344 by simp [wd, ho]]
    go_enter Try.func30, Try.ntmps30
    go_wp2
    go_ret
    exact ⟨rfl, rfl⟩
/-! brought to the other kind, whatever it is -/
def wv (a : Nat) (w : World) : Nat := if ok a = true then wide a else nanTo .f64 a w
def wc (a : Nat) : Nat := if ok a = true then 0 else 1
theorem run_wide (a : Nat) (w : World) : (convert 89 26 (.float .f32 a)).run Try.prog w = .ok (.float .f64 (wv a w)) (w.drewN (wc a)) := by
  unfold wv wc
  by_cases ho : ok a = true
  · rw [if_pos ho, if_pos ho]
    exact run_convert_float_float (P := Try.prog) w 89 26 .f32 .f64 a (wide a) (by kernel_rfl) (by kernel_rfl) (wide_bits a ho (wfine_all a))
  · rw [if_neg ho, if_neg ho]
    have hn : (FloatKind.f32.decode a).isNaN = true := read_nan (by simpa using ho)
    exact run_conv_nan (P := Try.prog) 89 26 .f32 .f64 a w (by kernel_rfl) (by kernel_rfl) (by decide) hn
theorem pfar_any (a b : Nat) (w : World) :
    Calls Try.prog 29 #[.complex .f32 a b] w fun e w' => e = .returned (.complex .f64 (wv a w) (wv b (w.drewN (wc a)))) ∧ ∃ m, w' = w.drewN m := by
  have hl := run_wide a
  have hl2 := run_wide b
  go_enter Try.func29, Try.ntmps29
  go_wp2
  go_ret
  exact ⟨rfl, _, rfl⟩
def nv (x : Nat) (w : World) : Nat := if (Ieee.double.read x).isNaN = true then nanTo .f32 x w else narrow x
def nc (x : Nat) : Nat := if (Ieee.double.read x).isNaN = true then 1 else 0
theorem run_narrow (x : Nat) (hf : nfine x = true) (w : World) : (convert 26 89 (.float .f64 x)).run Try.prog w = .ok (.float .f32 (nv x w)) (w.drewN (nc x)) := by
  unfold nv nc
  by_cases ho : (Ieee.double.read x).isNaN = true
  · rw [if_pos ho, if_pos ho]
    exact run_conv_nan (P := Try.prog) 26 89 .f64 .f32 x w (by kernel_rfl) (by kernel_rfl) (by decide) ho
  · rw [if_neg ho, if_neg ho]
    exact run_convert_float_float (P := Try.prog) w 26 89 .f64 .f32 x (narrow x) (by kernel_rfl) (by kernel_rfl) (narrow_bits x (by simpa using ho) hf)
theorem pnear_any (x y : Nat) (w : World) (hx : nfine x = true) (hy : nfine y = true) :
    Calls Try.prog 28 #[.complex .f64 x y] w fun e w' => e = .returned (.complex .f32 (nv x w) (nv y (w.drewN (nc x)))) ∧ ∃ m, w' = w.drewN m := by
  have hl := run_narrow x hx
  have hl2 := run_narrow y hy
  go_enter Try.func28, Try.ntmps28
  go_wp2
  go_ret
  exact ⟨rfl, _, rfl⟩
theorem nfine_nan {x : Nat} (h : (Ieee.double.read x).isNaN = true) : nfine x = true := by
  unfold nfine
  cases e : Ieee.double.read x with
  | number s m p => rw [e] at h; simp [Ieee.Datum.isNaN] at h
  | infinity s => rfl
  | nan s f => rfl
theorem nfine_wv (a : Nat) (w : World) (h : a < 4294967296) : nfine (wv a w) = true := by
  unfold wv
  by_cases ho : ok a = true
  · rw [if_pos ho]; exact (narrow_wide a h ho).2.2
  · rw [if_neg ho]; exact nfine_nan (nanTo64 _ _)
theorem wd_nv (a : Nat) (w W : World) (h : a < 4294967296) : wd (nv (wv a w) W) = wd a := by
  by_cases ho : ok a = true
  · rw [show wv a w = wide a by simp [wv, ho]]
    obtain ⟨h1, h2, -⟩ := narrow_wide a h ho
    rw [show nv (wide a) W = a by unfold nv; rw [h2, if_neg (by decide), h1]]
  · rw [show wv a w = nanTo .f64 a w by simp [wv, ho]]
    have h2 : (Ieee.double.read (nanTo .f64 a w)).isNaN = true := nanTo64 _ _
    rw [show nv (nanTo .f64 a w) W = nanTo .f32 (nanTo .f64 a w) W by unfold nv; rw [if_pos h2], nanTo32]
    simp [wd, ho]
theorem plane_words (a b : Nat) (w : World) (ha : a < 4294967296) (hb : b < 4294967296) :
    Calls Try.prog 6 #[.int .u32 a, .int .u32 b] w fun e w' => e = .returned (.bool true) ∧ ∃ m, w' = w.drewN m := by
  have e1 := fun w W => wd_nv a w W ha
  have e2 := fun w W => wd_nv b w W hb
  have f1 := fun w => nfine_wv a w ha
  have f2 := fun w => nfine_wv b w hb
  go_enter Try.func6, Try.ntmps6
  go_wp2_with (first
    | (go_at_call 26; refine (pof_any _ _ _).mono ?_; rintro e wq ⟨rfl, hq⟩; subst wq)
    | (go_at_call 27; refine (pbits_any _ _ _).mono ?_; rintro e wq ⟨rfl, hq⟩; subst wq)
    | (go_at_call 29; refine (pfar_any _ _ _).mono ?_; rintro e wq ⟨rfl, m1, hq⟩; subst wq)
    | (go_at_call 28; refine (pnear_any _ _ _ (f1 _) (f2 _)).mono ?_; rintro e wq ⟨rfl, m2, hq⟩; subst wq)
    | (go_at_call 30; (first | with_reducible refine (pcanon_any a _ ha).mono ?_ | with_reducible refine (pcanon_any b _ hb).mono ?_); rintro e wq ⟨rfl, hq⟩; subst wq))
  go_ret
  exact ⟨rfl, _, rfl⟩
end Go.Proofs.Ytghhjebacnodcaa
