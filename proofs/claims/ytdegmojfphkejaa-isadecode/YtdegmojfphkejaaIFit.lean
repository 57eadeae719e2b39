import Derived.Test.YtdegmojfphkejaaIEnc
namespace Go.Proofs.Ytdegmojfphkejaa
open Go.RowKit
set_option maxRecDepth 100000

theorem opWd_ne : ∀ k, k < 60 → 1 ≤ k → ¬ (opWd k).toList = [] := by decide +kernel
theorem Try.infoC : (Try.prog.info? 32).map (fun i => (i.zero, i.size, i.bytes)) = some (some (.agg #[.int .u8 0, .int .u32 0]), 2, 8) := by kernel_rfl
def fit1 (p : Nat × Nat) : Nat × Nat := (1 + p.1 % 59, if opMo (1 + p.1 % 59) < 4294967295 then p.2 % (opMo (1 + p.1 % 59) + 1) else p.2)
def fitL (L : List (Nat × Nat)) : List (Nat × Nat) := (L.take 16384).map fit1
theorem fit_take (L : List (Nat × Nat)) (k : Nat) (h : k < L.length) : (L.take (k + 1)).map fit1 = (L.take k).map fit1 ++ [fit1 (L.getD k (0, 0))] := by
  rw [ptake (0, 0) L k h, List.map_append]; rfl
theorem fit_ok (p : Nat × Nat) (h : p.2 < 4294967296) : okI (fit1 p) = true := by
  have hI : isOp (1 + p.1 % 59) = true := decide_eq_true (by omega)
  have hM := opMo_lt (1 + p.1 % 59)
  unfold okI fit1 erV
  simp only [hI]
  rw [if_neg (by simp), if_neg]
  · rfl
  · split
    · have := Nat.mod_lt p.2 (show opMo (1 + p.1 % 59) + 1 > 0 by omega); omega
    · omega
theorem fitL_ok (L : List (Nat × Nat)) (h : Wfc L) : allOk (fitL L) = true := by
  rw [allOk, List.all_eq_true]
  intro p hp
  obtain ⟨q, hq, rfl⟩ := List.mem_map.1 hp
  exact fit_ok q (h q (List.mem_of_mem_take hq)).2
theorem fitL_len (L : List (Nat × Nat)) : (fitL L).length ≤ 16384 := by simp [fitL]; omega
theorem fit_wf (p : Nat × Nat) (h : p.2 < 4294967296) : (fit1 p).1 < 256 ∧ (fit1 p).2 < 4294967296 := by
  refine ⟨by simp only [fit1]; omega, ?_⟩
  simp only [fit1]
  split
  · exact Nat.lt_of_le_of_lt (Nat.mod_le _ _) h
  · exact h
theorem fitL_wf (L : List (Nat × Nat)) (h : Wfc L) : Wfc (fitL L) := by
  intro p hp
  obtain ⟨q, hq, rfl⟩ := List.mem_map.1 hp
  exact fit_wf q (h q (List.mem_of_mem_take hq)).2
theorem own_snocC {w1 : World} {B : Nat} {v' : Value} {L M : List (Nat × Nat)} {n : Nat} {p : Nat × Nat} (hM : M = L ++ [p]) (hn : n = L.length)
    (h : w1.ownsRow B 32 2 v' (n + 1) (cv L ++ [.int .u8 p.1, .int .u32 p.2])) : w1.ownsRow B 32 2 v' M.length (cv M) := by
  subst hM hn
  rw [cv_append, List.length_append]
  exact h
theorem cellE {w W : World} {b i : Nat} {v : Value} (h : Below w.heap.size w W) (hb : b < w.heap.size) (hc : w.cell? ⟨b, i, none⟩ = some v) (o : Obj) : (W.alloc o).cell? ⟨b, i, none⟩ = some v := by
  have := h.size
  rw [World.cell?_alloc_old _ _ _ (by show b ≠ W.heap.size; omega)]
  exact (h.cell (p := ⟨b, i, none⟩) hb).trans hc
set_option maxRecDepth 100000 in
set_option maxHeartbeats 2000000 in
theorem fit_any (ao : Option Addr) (cap : Nat) (L : List (Nat × Nat)) (w : World) (hn : L.length ≤ 140737488355328) (hwf : Wfc L) (hr : CRd w ao L w.heap.size) :
    Calls Try.prog 25 #[.slice ao L.length cap] w fun e w' => ∃ v, e = .returned (.tuple #[v, .bool true]) ∧ w'.ownsRow w.heap.size 32 2 v (fitL L).length (cv (fitL L)) ∧ Below w.heap.size w w' := by
  obtain ⟨i0, hi, hz0, hz1, hz2⟩ := info_parts Try.infoC
  go_enter Try.func25, Try.ntmps25
  go_wp2
  go_loopw [4, 5] (fun v i wr => ∃ k : Nat, k ≤ L.length ∧ k ≤ 16384 ∧ i = .int .i64 k ∧ wr.ownsRow w.heap.size 32 2 v ((L.take k).map fit1).length (cv ((L.take k).map fit1)) ∧ Below w.heap.size w wr)
    (fun _ i _ => 16384 - (intOf i).toNat)
  case atStart => exact ⟨0, Nat.zero_le _, by omega, rfl, World.ownsRow_nil _ _ _ _, Below.refl _ _⟩
  case round =>
    obtain ⟨k, hk, hk2, rfl, hown, hb⟩ := hrel
    by_cases hlt : k < L.length
    · by_cases hlt2 : k < 16384
      · obtain ⟨b, off, rfl, hbl, hc⟩ := (hr.below hb) (by omega)
        obtain ⟨hc0, hc1⟩ := hc k hlt
        clear hc
        have hwk := hwf.at hlt
        have HT := hid_of (fit_take L k hlt)
        have hI := fun w => info_any (1 + (L.getD k (0, 0)).1 % 59) w (by omega)
        have hne : ((opWd (1 + (L.getD k (0, 0)).1 % 59)).toList == []) = false := by rw [beq_eq_false_iff_ne]; exact opWd_ne _ (by omega) (by omega)
        have hMo := opMo_lt (1 + (L.getD k (0, 0)).1 % 59)
        rw [show isOp (1 + (L.getD k (0, 0)).1 % 59) = true from decide_eq_true (by omega)] at hI
        rw [show fit1 (L.getD k (0, 0)) = (1 + (L.getD k (0, 0)).1 % 59, if opMo (1 + (L.getD k (0, 0)).1 % 59) < 4294967295 then (L.getD k (0, 0)).2 % (opMo (1 + (L.getD k (0, 0)).1 % 59) + 1) else (L.getD k (0, 0)).2) from rfl] at HT
        have hEl : ((L.take k).map fit1).length = k := by simp; omega
        generalize (L.getD k (0, 0)).1 = op at *
        generalize (L.getD k (0, 0)).2 = arg at *
        obtain ⟨o1, ho1⟩ : ∃ o1, o1 = 1 + op % 59 := ⟨_, rfl⟩
        rw [← ho1] at hI hne hMo HT
        have hoI : (1 + (op : Int) % 4294967296 % 59) = o1 := by omega
        clear ho1
        generalize opWd o1 = a0 at *
        generalize opWi o1 = a1 at *
        generalize opMo o1 = a2 at *
        generalize opTa o1 = a3 at *
        generalize opGi o1 = a4 at *
        generalize opKi o1 = a5 at *
        generalize (L.take k).map fit1 = E at *
        have hlI : (k : Int) < (L.length : Int) := by omega
        have hlI2 : (k : Int) < 16384 := by omega
        have hB0 := hb.size
        have HWK := hid_of hwk
        clear hwk
        by_cases hm : a2 < 4294967295
        · have hm' : (a2 : Int) < 4294967295 := by omega
          rw [if_pos hm] at HT
          obtain ⟨m, hmm⟩ : ∃ m : Nat, m = a2 + 1 := ⟨_, rfl⟩
          have hw1 : ((a2 : Int) + 1) % 4294967296 = (m : Int) := by omega
          have hw2 : ((a2 : Int) + 1) = (m : Int) := by omega
          have hw0 : ¬ (m : Int) = 0 := by omega
          have hmd : decide ((a2 : Int) < 4294967295) = true := decide_eq_true hm'
          rw [← hmm] at HT
          clear hm hMo hmm
          go_wp2_with (first
            | (go_at_call 41; with_reducible refine (hI _).mono ?_; rintro e w1 ⟨rfl, hq1⟩; have c1 := cellE hq1 (Nat.lt_of_lt_of_le hbl hB0) hc1)
            | (at_builtin; refine wpList_append_own _ rfl _ _ 22 rfl w.heap.size 32 i0 (.agg #[.int .u8 0, .int .u32 0]) 2 8 Try.underlying22 hi hz0 hz1 hz2 rfl (by decide) _ _ _ rfl (((own_below hown hq1).alloc _).alloc _) ⟨_, 0, none⟩ 1 1 [.int .u8 o1, .int .u32 ((arg : Int) % (m : Int))] rfl rfl ?d1 ?d2 ?d3 ?d4 ?d5 ?_))
          case d1 =>
            intro j u hj
            match j, hj with
            | 0, hj => simp at hj; subst hj; simp [Addr.add]
            | 1, hj => simp at hj; subst hj; simp [Addr.add]
          case d2 => intro u hu; simp at hu; rcases hu with rfl | rfl <;> rfl
          case d3 => unfold maxLen; omega
          case d4 => omega
          case d5 => have := hq1.size; simp; omega
          intro v' w2 own2 hg2 _
          have R2 : Below w.heap.size w w2 := grown_below (bel (bt hb hq1)) (bel (bt hb hq1)).size ((own_below hown hq1).alloc _) hg2
          have own3 := own_snocC (p := (o1, arg % m)) HT.out hEl.symm (by simpa using own2)
          clear own2 hg2 hown hb hq1 hI c1 hc0 hc1
          go_wp2
          go_roundw
          case rel => exact ⟨k + 1, by omega, by omega, by go_num, own3, R2⟩
          case measure => simp [intOf]; omega
        · have hm' : ¬ (a2 : Int) < 4294967295 := by omega
          have hmd : decide ((a2 : Int) < 4294967295) = false := decide_eq_false hm'
          rw [if_neg hm] at HT
          clear hm hMo
          go_wp2_with (first
            | (go_at_call 41; with_reducible refine (hI _).mono ?_; rintro e w1 ⟨rfl, hq1⟩; have c1 := cellE hq1 (Nat.lt_of_lt_of_le hbl hB0) hc1)
            | (at_builtin; refine wpList_append_own _ rfl _ _ 22 rfl w.heap.size 32 i0 (.agg #[.int .u8 0, .int .u32 0]) 2 8 Try.underlying22 hi hz0 hz1 hz2 rfl (by decide) _ _ _ rfl (((own_below hown hq1).alloc _).alloc _) ⟨_, 0, none⟩ 1 1 [.int .u8 o1, .int .u32 (arg : Int)] rfl rfl ?d1 ?d2 ?d3 ?d4 ?d5 ?_))
          case d1 =>
            intro j u hj
            match j, hj with
            | 0, hj => simp at hj; subst hj; simp [Addr.add]
            | 1, hj => simp at hj; subst hj; simp [Addr.add]
          case d2 => intro u hu; simp at hu; rcases hu with rfl | rfl <;> rfl
          case d3 => unfold maxLen; omega
          case d4 => omega
          case d5 => have := hq1.size; simp; omega
          intro v' w2 own2 hg2 _
          have R2 : Below w.heap.size w w2 := grown_below (bel (bt hb hq1)) (bel (bt hb hq1)).size ((own_below hown hq1).alloc _) hg2
          have own3 := own_snocC (p := (o1, arg)) HT.out hEl.symm (by simpa using own2)
          clear own2 hg2 hown hb hq1 hI c1 hc0 hc1
          go_wp2
          go_roundw
          case rel => exact ⟨k + 1, by omega, by omega, by go_num, own3, R2⟩
          case measure => simp [intOf]; omega
      · obtain rfl : k = 16384 := by omega
        have hlI : (16384 : Int) < (L.length : Int) := by omega
        go_wp2
        go_ret2
        exact ⟨_, rfl, hown, hb⟩
    · obtain rfl : k = L.length := by omega
      rw [List.take_length] at hown
      have HF : Hid (fitL L = L.map fit1) := by rw [Hid, fitL, List.take_of_length_le (by omega)]
      go_wp2
      go_ret2
      exact ⟨_, rfl, by rw [HF.out]; exact hown, hb⟩
end Go.Proofs.Ytdegmojfphkejaa
