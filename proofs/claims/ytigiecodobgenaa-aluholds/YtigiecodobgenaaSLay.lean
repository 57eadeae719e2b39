import Derived.Test.YtigiecodobgenaaSVal
import Derived.Deep.RegionWith
namespace Go.Proofs.Ytigiecodobgenaa
open Go.RowKit

set_option maxRecDepth 100000 in
set_option maxHeartbeats 1000000 in
theorem shut_none (o1 : bits .or .u64 2139095040 4194304 = 2143289344) (w : World) :
    Calls Try.prog 42 #[.agg #[.int .i64 24, .int .i64 (-149), .int .i64 104], .agg #[.int .u8 1, .bool false, .int .u64 0, .int .i64 0]] w fun e w' => e = .returned (.int .u64 2143289344) ∧ Below w.heap.size w w' := by
  go_enter Try.func42, Try.ntmps42
  go_wp2_with (first
    | (go_at_call 57; refine (most_any _).mono ?_; rintro e wq ⟨rfl, hq⟩; subst wq)
    | (go_at_call 56; refine (bitsof_any _).mono ?_; rintro e wq ⟨rfl, hq⟩; subst wq))
  go_ret
  exact ⟨rfl, by repeat (first | exact Below.refl _ _ | refine bel ?_)⟩
set_option maxRecDepth 100000 in
set_option maxHeartbeats 1000000 in
theorem shut_endless0 (X : Int) (o1 : bits .or .u64 0 2139095040 = X) (w : World) :
    Calls Try.prog 42 #[.agg #[.int .i64 24, .int .i64 (-149), .int .i64 104], .agg #[.int .u8 2, .bool false, .int .u64 0, .int .i64 0]] w fun e w' => e = .returned (.int .u64 X) ∧ Below w.heap.size w w' := by
  go_enter Try.func42, Try.ntmps42
  go_wp2_with (first
    | (go_at_call 57; refine (most_any _).mono ?_; rintro e wq ⟨rfl, hq⟩; subst wq)
    | (go_at_call 56; refine (bitsof_any _).mono ?_; rintro e wq ⟨rfl, hq⟩; subst wq))
  go_ret
  exact ⟨rfl, by repeat (first | exact Below.refl _ _ | refine bel ?_)⟩
set_option maxRecDepth 100000 in
set_option maxHeartbeats 1000000 in
theorem shut_small0 (n : Nat) (p : Int) (h : (n : Int) < 8388608) (X : Int) (o1 : bits .or .u64 0 (n : Int) = X) (w : World) :
    Calls Try.prog 42 #[.agg #[.int .i64 24, .int .i64 (-149), .int .i64 104], .agg #[.int .u8 3, .bool false, .int .u64 n, .int .i64 p]] w fun e w' => e = .returned (.int .u64 X) ∧ Below w.heap.size w w' := by
  go_enter Try.func42, Try.ntmps42
  go_wp2_with (first
    | (go_at_call 57; refine (most_any _).mono ?_; rintro e wq ⟨rfl, hq⟩; subst wq)
    | (go_at_call 56; refine (bitsof_any _).mono ?_; rintro e wq ⟨rfl, hq⟩; subst wq))
  go_ret
  exact ⟨rfl, by repeat (first | exact Below.refl _ _ | refine bel ?_)⟩
set_option maxRecDepth 100000 in
set_option maxHeartbeats 1000000 in
theorem shut_norm0 (g k : Nat) (h : g < 8388608) (hk : k < 254) (g1 : decide ((g : Int) + 8388608 < 8388608) = false) (X Y : Int) (o1 : bits .or .u64 0 ((-149 + (k : Int) + 149 + 1) * 8388608) = Y) (o2 : bits .or .u64 Y (g : Int) = X) (w : World) :
    Calls Try.prog 42 #[.agg #[.int .i64 24, .int .i64 (-149), .int .i64 104], .agg #[.int .u8 3, .bool false, .int .u64 ((g : Int) + 8388608), .int .i64 (-149 + (k : Int))]] w fun e w' => e = .returned (.int .u64 X) ∧ Below w.heap.size w w' := by
  go_enter Try.func42, Try.ntmps42
  go_wp2_with (first
    | (go_at_call 57; refine (most_any _).mono ?_; rintro e wq ⟨rfl, hq⟩; subst wq)
    | (go_at_call 56; refine (bitsof_any _).mono ?_; rintro e wq ⟨rfl, hq⟩; subst wq))
  go_ret
  exact ⟨rfl, by repeat (first | exact Below.refl _ _ | refine bel ?_)⟩
set_option maxRecDepth 100000 in
set_option maxHeartbeats 1000000 in
theorem shut_endless1 (X : Int) (o1 : bits .or .u64 2147483648 2139095040 = X) (w : World) :
    Calls Try.prog 42 #[.agg #[.int .i64 24, .int .i64 (-149), .int .i64 104], .agg #[.int .u8 2, .bool true, .int .u64 0, .int .i64 0]] w fun e w' => e = .returned (.int .u64 X) ∧ Below w.heap.size w w' := by
  go_enter Try.func42, Try.ntmps42
  go_wp2_with (first
    | (go_at_call 57; refine (most_any _).mono ?_; rintro e wq ⟨rfl, hq⟩; subst wq)
    | (go_at_call 56; refine (bitsof_any _).mono ?_; rintro e wq ⟨rfl, hq⟩; subst wq))
  go_ret
  exact ⟨rfl, by repeat (first | exact Below.refl _ _ | refine bel ?_)⟩
set_option maxRecDepth 100000 in
set_option maxHeartbeats 1000000 in
theorem shut_small1 (n : Nat) (p : Int) (h : (n : Int) < 8388608) (X : Int) (o1 : bits .or .u64 2147483648 (n : Int) = X) (w : World) :
    Calls Try.prog 42 #[.agg #[.int .i64 24, .int .i64 (-149), .int .i64 104], .agg #[.int .u8 3, .bool true, .int .u64 n, .int .i64 p]] w fun e w' => e = .returned (.int .u64 X) ∧ Below w.heap.size w w' := by
  go_enter Try.func42, Try.ntmps42
  go_wp2_with (first
    | (go_at_call 57; refine (most_any _).mono ?_; rintro e wq ⟨rfl, hq⟩; subst wq)
    | (go_at_call 56; refine (bitsof_any _).mono ?_; rintro e wq ⟨rfl, hq⟩; subst wq))
  go_ret
  exact ⟨rfl, by repeat (first | exact Below.refl _ _ | refine bel ?_)⟩
set_option maxRecDepth 100000 in
set_option maxHeartbeats 1000000 in
theorem shut_norm1 (g k : Nat) (h : g < 8388608) (hk : k < 254) (g1 : decide ((g : Int) + 8388608 < 8388608) = false) (X Y : Int) (o1 : bits .or .u64 2147483648 ((-149 + (k : Int) + 149 + 1) * 8388608) = Y) (o2 : bits .or .u64 Y (g : Int) = X) (w : World) :
    Calls Try.prog 42 #[.agg #[.int .i64 24, .int .i64 (-149), .int .i64 104], .agg #[.int .u8 3, .bool true, .int .u64 ((g : Int) + 8388608), .int .i64 (-149 + (k : Int))]] w fun e w' => e = .returned (.int .u64 X) ∧ Below w.heap.size w w' := by
  go_enter Try.func42, Try.ntmps42
  go_wp2_with (first
    | (go_at_call 57; refine (most_any _).mono ?_; rintro e wq ⟨rfl, hq⟩; subst wq)
    | (go_at_call 56; refine (bitsof_any _).mono ?_; rintro e wq ⟨rfl, hq⟩; subst wq))
  go_ret
  exact ⟨rfl, by repeat (first | exact Below.refl _ _ | refine bel ?_)⟩
theorem lay_of (v : Value) (r : Nat) (w : World) (hr : r < 4294967296) (hs : ∀ w, Calls Try.prog 42 #[.agg #[.int .i64 24, .int .i64 (-149), .int .i64 104], v] w fun e w' => e = .returned (.int .u64 (r : Int)) ∧ Below w.heap.size w w') (hv : ∃ s m n p, v = .agg #[.int .u8 s, .bool m, .int .u64 n, .int .i64 p]) :
    Calls Try.prog 30 #[v] w fun e w' => e = .returned (.int .u32 (r : Int)) ∧ Below w.heap.size w w' := by
  obtain ⟨s, m, n, p, rfl⟩ := hv
  have hw : IntKind.u32.wrap (r : Int) = (r : Int) := by rw [IntKind.wrap_u32']; omega
  go_enter Try.func30, Try.ntmps30
  go_wp2
  go_region_with (first
    | (go_at_call 32; refine (form_any _).mono ?_; rintro e wq ⟨rfl, hq⟩; subst wq)
    | (go_at_call 42; refine (hs _).mono ?_; rintro e wq ⟨rfl, hq⟩))
  all_goals go_wp2
  all_goals go_ret
  all_goals exact ⟨by first | rfl | (rw [← hw]; rfl), Below.trans (by repeat (first | exact Below.refl _ _ | refine bel ?_ | refine Below.drew ?_)) (hq.mono (by simp; omega))⟩
theorem wrd_lt (m : Bool) (r : Nat) (h : r < 2147483648) : wrd m r < 4294967296 := by
  unfold wrd; split <;> omega
theorem kg_lt {k g : Nat} (hk : k < 254) (hg : g < 8388608) : k * 8388608 + (g + 8388608) < 2147483648 := by omega
theorem kg1 {k g : Nat} (hk : k < 254) (hg : g < 8388608) : (k + 1) * 8388608 % 2 ^ 23 = 0 ∧ g < 2 ^ 23 ∧ (k + 1) * 8388608 + g < 18446744073709551616 ∧ (2147483648 + (k + 1) * 8388608) % 2 ^ 23 = 0 ∧ 2147483648 + (k + 1) * 8388608 + g < 18446744073709551616 := by omega
theorem kg2 {k : Nat} (hk : k < 254) : (k + 1) * 8388608 < 2 ^ 31 ∧ 0 + (k + 1) * 8388608 < 18446744073709551616 ∧ 2147483648 + (k + 1) * 8388608 < 18446744073709551616 := by omega
theorem kg3 (k g : Nat) : (k + 1) * 8388608 + g = wrd false (k * 8388608 + (g + 8388608)) := by
  show _ = 0 + (k * 8388608 + (g + 8388608)); omega
theorem kg4 (k g : Nat) : 2147483648 + (k + 1) * 8388608 + g = wrd true (k * 8388608 + (g + 8388608)) := by
  show _ = 2147483648 + (k * 8388608 + (g + 8388608)); omega
theorem lay_none (w : World) :
    Calls Try.prog 30 #[.agg #[.int .u8 1, .bool false, .int .u64 0, .int .i64 0]] w fun e w' => e = .returned (.int .u32 2143289344) ∧ Below w.heap.size w w' :=
  lay_of _ 2143289344 w (by decide) (fun w => shut_none (b64_or 23 2139095040 4194304 (by decide) (by decide) (by decide)) w) ⟨_, _, _, _, rfl⟩
theorem lay_endless (m : Bool) (w : World) :
    Calls Try.prog 30 #[.agg #[.int .u8 2, .bool m, .int .u64 0, .int .i64 0]] w fun e w' => e = .returned (.int .u32 (wrd m 2139095040 : Nat)) ∧ Below w.heap.size w w' := by
  cases m
  · exact lay_of _ 2139095040 w (by decide) (fun w => shut_endless0 _ (b64_or 31 0 2139095040 (by decide) (by decide) (by decide)) w) ⟨_, _, _, _, rfl⟩
  · exact lay_of _ 4286578688 w (by decide) (fun w => shut_endless1 _ (b64_or 31 2147483648 2139095040 (by decide) (by decide) (by decide)) w) ⟨_, _, _, _, rfl⟩
/-- a finite one: its rung -/
theorem lay_fin (m : Bool) (n k : Nat) (w : World) (hn : n < 16777216) (hk : k < 254) (hnk : k = 0 ∨ 8388608 ≤ n) :
    Calls Try.prog 30 #[.agg #[.int .u8 3, .bool m, .int .u64 n, .int .i64 (-149 + (k : Int))]] w fun e w' => e = .returned (.int .u32 (wrd m (k * 8388608 + n) : Nat)) ∧ Below w.heap.size w w' := by
  by_cases hs : n < 8388608
  · have hk0 : k = 0 := by omega
    subst hk0
    rw [Nat.zero_mul, Nat.zero_add]
    cases m
    · refine lay_of _ (wrd false n) w (wrd_lt _ _ (by omega)) (fun w => shut_small0 n _ (by omega) _ ?_ w) ⟨_, _, _, _, rfl⟩
      exact b64_or 31 0 n (by decide) (by omega) (by omega)
    · refine lay_of _ (wrd true n) w (wrd_lt _ _ (by omega)) (fun w => shut_small1 n _ (by omega) _ ?_ w) ⟨_, _, _, _, rfl⟩
      exact b64_or 31 2147483648 n (by decide) (by omega) (by omega)
  · obtain ⟨g, rfl⟩ : ∃ g, n = g + 8388608 := ⟨n - 8388608, by omega⟩
    have hg : g < 8388608 := by omega
    have e : (-149 + (k : Int) + 149 + 1) * 8388608 = (((k + 1) * 8388608 : Nat) : Int) := by omega
    have e2 : ((g + 8388608 : Nat) : Int) = (g : Int) + 8388608 := by omega
    rw [e2]
    cases m
    · refine lay_of _ (wrd false (k * 8388608 + (g + 8388608))) w (wrd_lt _ _ (kg_lt hk hg)) (fun w => shut_norm0 g k hg hk (decide_eq_false (by omega)) _ (((k + 1) * 8388608 : Nat) : Int) ?_ ?_ w) ⟨_, _, _, _, rfl⟩
      · rw [e]
        have := b64_or 31 0 ((k + 1) * 8388608) (by decide) (kg2 hk).1 (kg2 hk).2.1
        rwa [Nat.zero_add] at this
      · have := b64_or 23 ((k + 1) * 8388608) g (kg1 hk hg).1 (kg1 hk hg).2.1 (kg1 hk hg).2.2.1
        rw [this]; exact congrArg Nat.cast (kg3 k g)
    · refine lay_of _ (wrd true (k * 8388608 + (g + 8388608))) w (wrd_lt _ _ (kg_lt hk hg)) (fun w => shut_norm1 g k hg hk (decide_eq_false (by omega)) _ ((2147483648 + (k + 1) * 8388608 : Nat) : Int) ?_ ?_ w) ⟨_, _, _, _, rfl⟩
      · rw [e]
        exact b64_or 31 2147483648 ((k + 1) * 8388608) (by decide) (kg2 hk).1 (kg2 hk).2.2
      · have := b64_or 23 (2147483648 + (k + 1) * 8388608) g (kg1 hk hg).2.2.2.1 (kg1 hk hg).2.1 (kg1 hk hg).2.2.2.2
        rw [this]; exact congrArg Nat.cast (kg4 k g)
end Go.Proofs.Ytigiecodobgenaa
