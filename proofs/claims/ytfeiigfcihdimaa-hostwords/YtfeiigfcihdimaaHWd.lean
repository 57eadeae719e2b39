import Derived.Test.YtfeiigfcihdimaaHLc
namespace Go.Proofs.Ytfeiigfcihdimaa
open Go.RowKit
set_option maxRecDepth 100000
theorem hbel {a w : World} {o : Obj} (h : Below a.heap.size a w) : Below a.heap.size a (w.alloc o) := h.alloc h.size o
def hbF (s : ByteArray) : Nat → Nat → Nat
  | _, 0 => 0
  | k, n + 1 => if hwd k = s then k else hbF s (k + 1) n
/-- the number of a word, or 0 -/
def hby (s : ByteArray) : Nat := hbF s 16 24
theorem hbF_hit (s : ByteArray) (k n : Nat) (h : hwd k = s) : hbF s k (n + 1) = k := by rw [hbF, if_pos h]
theorem hbF_miss (s : ByteArray) (k n : Nat) (h : ¬ hwd k = s) : hbF s k (n + 1) = hbF s (k + 1) n := by rw [hbF, if_neg h]
theorem hlne {a b : ByteArray} (h : ¬ a = b) : (a.toList == b.toList) = false := by
  rw [beq_eq_false_iff_ne]
  intro e
  rw [ByteArray.toList_eq, ByteArray.toList_eq] at e
  exact h (ByteArray.ext (Array.toList_inj.mp e))
theorem index_lib (w : World) (n : Nat) : 16 ≤ n → n ≤ 39 → (Instr.index 34 (.agg libV) (.int .u32 (n : Int))).run Try.prog w = .ok (.agg #[.string (hwd n), .int .i64 (hct n)]) w := fun h1 h2 => by
  have : n = 16 ∨ n = 17 ∨ n = 18 ∨ n = 19 ∨ n = 20 ∨ n = 21 ∨ n = 22 ∨ n = 23 ∨ n = 24 ∨ n = 25 ∨ n = 26 ∨ n = 27 ∨ n = 28 ∨ n = 29 ∨ n = 30 ∨ n = 31 ∨ n = 32 ∨ n = 33 ∨ n = 34 ∨ n = 35 ∨ n = 36 ∨ n = 37 ∨ n = 38 ∨ n = 39 := by omega
  rcases this with rfl | rfl | rfl | rfl | rfl | rfl | rfl | rfl | rfl | rfl | rfl | rfl | rfl | rfl | rfl | rfl | rfl | rfl | rfl | rfl | rfl | rfl | rfl | rfl
  all_goals (show _ = _; kernel_rfl)
theorem iscall_any (n : Nat) (w : World) (h : n < 4294967296) : Calls Try.prog 14 #[.int .u32 n] w fun e w' => e = .returned (.bool (decide (16 ≤ n) && decide (n ≤ 39))) ∧ w' = w := by
  by_cases h1 : 16 ≤ n
  · by_cases h2 : n ≤ 39
    · have e1 : (16 : Int) ≤ n := by omega
      have e2 : (n : Int) ≤ 39 := by omega
      simp only [h1, h2, decide_true, Bool.and_self]
      go_enter Try.func14, Try.ntmps14
      go_wp2
      go_ret
      exact ⟨rfl, rfl⟩
    · have e1 : (16 : Int) ≤ n := by omega
      have e2 : ¬ (n : Int) ≤ 39 := by omega
      simp only [h1, h2, decide_true, decide_false, Bool.and_false]
      go_enter Try.func14, Try.ntmps14
      go_wp2
      go_ret
      exact ⟨rfl, rfl⟩
  · have e1 : ¬ (16 : Int) ≤ n := by omega
    simp only [h1, decide_false, Bool.false_and]
    go_enter Try.func14, Try.ntmps14
    go_wp2
    go_ret
    exact ⟨rfl, rfl⟩
set_option maxHeartbeats 1000000 in
theorem hword_any (n : Nat) (w : World) (h : n < 4294967296) : Calls Try.prog 8 #[.int .u32 n] w fun e w' => e = .returned (.string (hwd n)) ∧ Below w.heap.size w w' := by
  have hc := iscall_any n w h
  have hL := library_any
  have hVs := libV_size
  have hI := fun w => index_lib w n
  generalize libV = V at *
  by_cases h1 : 16 ≤ n ∧ n ≤ 39
  · have hI := fun w => hI w h1.1 h1.2
    rw [decide_eq_true h1.1, decide_eq_true h1.2] at hc
    have hn : n < 40 := by omega
    have e2 : (n : Int) < 40 := by omega
    generalize hwd n = s at *
    generalize hct n = c at *
    have hF : ∀ w : World, (Instr.field 33 (.agg #[.string s, .int .i64 c]) 0).run Try.prog w = .ok (.string s) w := fun w => by kernel_rfl
    go_enter Try.func8, Try.ntmps8
    go_wp2_with (first | (go_at_call 14; refine hc.mono ?_; rintro e wq ⟨rfl, hq⟩; subst wq) | (go_at_call 12; refine (hL _).mono ?_; rintro e wq ⟨rfl, hq⟩; subst wq))
    go_ret
    exact ⟨rfl, hbel (Below.refl _ _)⟩
  · have hb : (decide (16 ≤ n) && decide (n ≤ 39)) = false := by
      rw [Bool.and_eq_false_iff]
      by_cases h2 : 16 ≤ n
      · right; exact decide_eq_false (fun h3 => h1 ⟨h2, h3⟩)
      · left; exact decide_eq_false h2
    rw [hb] at hc
    rw [hwd_out n (by omega)]
    clear hL hI hVs h1
    go_enter Try.func8, Try.ntmps8
    go_wp2_with (go_at_call 14; refine hc.mono ?_; rintro e wq ⟨rfl, hq⟩; subst wq)
    go_ret
    exact ⟨rfl, Below.refl _ _⟩
set_option maxHeartbeats 1000000 in
theorem hbyword_any (s : ByteArray) (w : World) :
    Calls Try.prog 6 #[.string s] w fun e w' => e = .returned (.tuple #[.int .u32 (hby s), .bool (!(hby s == 0))]) ∧ Below w.heap.size w w' := by
  obtain ⟨hz, hs⟩ := zero_of_info infoLi
  have hst : (storeCells ⟨w.heap.size + 1, 0, none⟩ libV.toList).run Try.prog ((w.alloc (.cells libV 34)).alloc (.cells libZ 34)) = .ok () ((w.alloc (.cells libV 34)).alloc (.cells libV 34)) := by
    have := run_storeCells_new (P := Try.prog) (w.alloc (.cells libV 34)) 34 libZ libV (by rw [hs, libV_size]) (by rw [libZ_size, libV_size]) libV_all
    simpa using this
  have hVs := libV_size
  have hO := library_any
  have HV : Hid (∀ k : Nat, 16 ≤ k → k ≤ 39 → libV[k * 2]? = some (.string (hwd k)) ∧ libV[k * 2 + 1]? = some (.int .i64 (hct k))) := libV_get
  generalize libV = V at *
  generalize libZ = Z at *
  clear hs
  go_enter Try.func6, Try.ntmps6
  go_wp2_with (go_at_call 12; refine (hO _).mono ?_; rintro e wq ⟨rfl, hq⟩; subst wq)
  have hcells : ∀ k : Nat, 16 ≤ k → k ≤ 39 → ((w.alloc (.cells V 34)).alloc (.cells V 34)).cell? ⟨w.heap.size + 1, k * 2, none⟩ = some (.string (hwd k)) := fun k hk hk2 => by
    have := World.cell?_alloc_new (w.alloc (.cells V 34)) V 34 (k * 2)
    rw [show (w.alloc (.cells V 34)).heap.size = w.heap.size + 1 by simp] at this
    rw [this]; exact (HV.out k hk hk2).1
  clear hst hz hO HV hVs
  go_loopw [5] (fun i wr => ∃ k : Nat, 16 ≤ k ∧ k ≤ 40 ∧ i = .int .u32 k ∧ wr = ((w.alloc (.cells V 34)).alloc (.cells V 34)) ∧ hbF s k (40 - k) = hby s)
      (fun i _ => 40 - (intOf i).toNat)
  case atStart => exact ⟨16, Nat.le_refl _, by omega, rfl, rfl, rfl⟩
  case round =>
    obtain ⟨k, h1, h60, rfl, hw2, hby'⟩ := hrel
    by_cases hlt : k < 40
    · have hck := hcells k h1 (by omega)
      rw [← hw2] at hck
      have HW2 : Hid (wr = ((w.alloc (.cells V 34)).alloc (.cells V 34))) := hw2
      have hle : (k : Int) ≤ 39 := by omega
      rw [show 40 - k = (39 - k) + 1 by omega] at hby'
      clear hw2 hcells
      by_cases he : hwd k = s
      · rw [hbF_hit s k _ he] at hby'
        rw [he] at hck
        clear he
        have HB : Hid (k = hby s) := hby'
        clear hby'
        go_wp2
        go_ret2
        exact ⟨by rw [← HB.out]; congr; simp; omega, by rw [HW2.out]; exact hbel (hbel (Below.refl _ _))⟩
      · rw [hbF_miss s k _ he] at hby'
        have HB : Hid (hbF s (k + 1) (39 - k) = hby s) := hby'
        clear hby'
        generalize hwd k = W at *
        have hbe := hlne he
        clear he
        go_wp2
        go_roundw
        case rel => exact ⟨k + 1, by omega, by omega, by go_num, HW2.out, by rw [show 40 - (k + 1) = 39 - k by omega]; exact HB.out⟩
        case measure => simp [intOf]; omega
    · have : k = 40 := by omega
      subst this
      have HB : Hid (0 = hby s) := hby'
      have HW2 : Hid (wr = ((w.alloc (.cells V 34)).alloc (.cells V 34))) := hw2
      clear hby' hw2 hcells
      go_wp2
      go_ret2
      exact ⟨by rw [← HB.out]; rfl, by rw [HW2.out]; exact hbel (hbel (Below.refl _ _))⟩
end Go.Proofs.Ytfeiigfcihdimaa
