import Derived.Test.YtahghghobibgdaaDoorFRp
import Derived.Laws.MakeOwn
namespace Go.Proofs.YtahghghobibgdaaDoor
open Go.RowKit Go.WideShapes Go.Shelf
set_option maxRecDepth 100000

theorem mask_small (a : Nat) (ha : a < 4294967296) : bits .and .u64 (a : Int) 4294967295 = (a : Int) := by
  have h := bits_and_u64_nat a 4294967295 (by omega) (by omega)
  have e : a &&& 4294967295 = a % 4294967296 := Nat.and_two_pow_sub_one_eq_mod a 32
  rw [e, Nat.mod_eq_of_lt ha] at h
  exact h
theorem mul64_one (n : Nat) (w : World) (hn : n ≤ 16384) : Calls Tryd.prog 84 #[.int .u64 1, .int .u64 n] w fun e w' => e = .returned (.tuple #[.int .u64 0, .int .u64 n]) ∧ w' = w := by
  have m1 : bits .and .u64 1 4294967295 = 1 := mask_small 1 (by omega)
  have m2 := mask_small n (by omega)
  have m3 : bits .and .u64 0 4294967295 = 0 := mask_small 0 (by omega)
  have d1 : (n : Int) / 4294967296 = 0 := by omega
  go_enter Tryd.func84, Tryd.ntmps84
  go_wp2
  go_ret2
  exact ⟨rfl, rfl⟩
theorem mul_one' (n : Nat) (w : World) (hn : n ≤ 16384) : Calls Tryd.prog 61 #[.int .u64 1, .int .u64 n] w fun e w' => e = .returned (.tuple #[.int .u64 0, .int .u64 n]) ∧ w' = w := by
  have HM := mul64_one n w hn
  go_enter Tryd.func61, Tryd.ntmps61
  go_wp2_with (go_at_call 84; with_reducible refine HM.mono ?_; rintro e w2 ⟨rfl, hw2⟩; subst hw2)
  go_ret2
  exact ⟨rfl, rfl⟩
theorem Tryd.infoN : (Tryd.prog.info? 3).map (fun i => (i.zero, i.size, i.bytes)) = some (some (.int .i64 0), 1, 8) := by kernel_rfl
theorem made_ints (n : Nat) : madeCells (Value.int .i64 0).cells (n * 1) = (rpL n 0).toArray := by
  rw [Nat.mul_one]
  apply Array.ext
  · simp [madeCells, rpL]
  · intro i h1 h2
    simp only [madeCells, rpL, Array.getElem_map, Array.getElem_range]
    have : ((Value.int .i64 0).cells) = #[.int .i64 0] := rfl
    rw [this]
    simp [Nat.mod_one]
set_option maxHeartbeats 2000000 in
theorem repeat_any (q n : Nat) (w : World) (h0 : 0 < n) (hn : n ≤ 16384) (ho : w.heap[q]? = some (.cells #[.int .i64 (-1)] 3 (0, 0))) :
    Calls Tryd.prog 39 #[.slice (some ⟨q, 0, none⟩) 1 1, .int .i64 n] w fun e w' => e = .returned (.slice (some ⟨w.heap.size, 0, none⟩) n n) ∧ w'.heap[w.heap.size]? = some (.cells (rpL n n).toArray 3 (0, 0)) ∧ Below w.heap.size w w' := by
  have HM := mul_one' n w hn
  have hnI : ¬ (n : Int) < 0 := by omega
  have hn2 : ¬ (9223372036854775807 : Int) < (n : Int) := by omega
  obtain ⟨i0, hi, hz0, hz1, hz2⟩ := info_parts Tryd.infoN
  have hmk : (Instr.makeSlice 27 (.int .i64 (n : Int)) (.int .i64 (n : Int))).run Tryd.prog w = .ok (.slice (some ⟨w.heap.size, 0, none⟩) n n) (w.alloc (.cells (rpL n 0).toArray 3)) := by
    have := run_make (P := Tryd.prog) w 27 3 i0 (.int .i64 0) Tryd.underlying27 hi hz0 .i64 .i64 (n : Int) (n : Int) (by omega) (Int.le_refl _) (by rw [hz2]; omega) (by omega)
    rw [hz1, Int.toNat_natCast, made_ints] at this
    exact this
  have hcp : (Builtin.copy_ #[27, 27] 3 #[.slice (some ⟨w.heap.size, 0, none⟩) n n, .slice (some ⟨q, 0, none⟩) 1 1]).run Tryd.prog (w.alloc (.cells (rpL n 0).toArray 3)) = .ok (.int .i64 1) (w.alloc (.cells (rpL n 1).toArray 3)) := by
    have hq : q < w.heap.size := (Array.getElem?_eq_some_iff.1 ho).1
    have hr := run_copy_row (P := Tryd.prog) (w.alloc (.cells (rpL n 0).toArray 3)) 27 27 3 3 w.heap.size 0 n n ⟨q, 0, none⟩ 1 1 (rpL n 0).toArray 3 [.int .i64 (-1)] Tryd.underlying27 Tryd.infoI (heap_alloc_new w _) (by show 1 = min 1 n; omega) ?src (by have h5 := rpL_len (n := n) (m := 0) (by omega); simp only [List.size_toArray, h5]; simp; omega) (by intro v hv; simp at hv; subst hv; rfl)
    case src =>
      intro j v hj
      match j, hj with
      | 0, hj =>
        simp at hj
        subst hj
        rw [add_plain]
        exact (obj_cell ((Below.heap_alloc w _ q hq).trans ho) 0).trans rfl
      | j + 1, hj => simp at hj
    rw [World.setRow_alloc_new] at hr
    have e1 := rpL_copy (n := n) (m := 0) (c := 1) (by omega)
    simp only [List.replicate_one, Nat.zero_add] at e1
    simp only [List.length_singleton, Nat.zero_add] at hr
    rw [e1] at hr
    exact hr
  have HO : Hid ((w.alloc (.cells (rpL n 1).toArray 3)).heap[w.heap.size]? = some (.cells (rpL n 1).toArray 3 (0, 0))) := hidS (heap_alloc_new w _)
  go_enter Tryd.func39, Tryd.ntmps39
  go_wp2_with (go_at_call 61; with_reducible refine HM.mono ?_; rintro e w2 ⟨rfl, hw2⟩; have hw2 := hw2.symm; subst hw2)
  clear hmk hcp
  go_loopw [8] (fun u wr => ∃ m : Nat, u = .int .i64 m ∧ 1 ≤ m ∧ m ≤ n ∧ wr.heap[w.heap.size]? = some (.cells (rpL n m).toArray 3 (0, 0)) ∧ Below w.heap.size w wr)
    (fun u _ => n - (intOf u).toNat)
  case atStart => exact ⟨1, rfl, Nat.le_refl _, h0, HO.out, belP (Below.refl _ _)⟩
  case round =>
    obtain ⟨m, rfl, hm1, hm2, hrow, hb⟩ := hrel
    by_cases hlt : m < n
    · have hlI : (m : Int) < (n : Int) := by omega
      have HR := hidS (And.intro hrow hb)
      clear hrow hb
      go_wp2
      obtain ⟨c, hc⟩ : ∃ c, min m (n - m) = c := ⟨_, rfl⟩
      refine (wpIn_wide (n := 0)).1 ?_
      refine rp_lay w.heap.size n m c hn (by omega) hlt hc.symm HR.out.1 ?_ ?_
      · rintro c a (_ | d) v w h <;> exact h
      · have hcc : 0 < c ∧ m + c ≤ n := by omega
        clear hc
        go_wp2
        go_roundw
        case rel => exact ⟨m + c, by go_num, by omega, by omega, setRow_heap _ _ _ _ _ _ HR.out.1, below_setRow (below_drewN HR.out.2 1) (Nat.le_refl _) _⟩
        case measure => simp [intOf]; omega
    · have hlI : ¬ (m : Int) < (n : Int) := by omega
      have hmn : m = n := by omega
      have HR : Hid (wr.heap[w.heap.size]? = some (.cells (rpL n n).toArray 3 (0, 0)) ∧ Below w.heap.size w wr) := hidS ⟨by rw [hmn] at hrow; exact hrow, hb⟩
      clear hrow hb hmn
      go_wp2
      go_ret
      exact ⟨rfl, HR.out.1, HR.out.2⟩
end Go.Proofs.YtahghghobibgdaaDoor
