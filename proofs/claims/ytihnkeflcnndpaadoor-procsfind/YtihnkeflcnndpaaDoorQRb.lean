import Derived.Test.YtihnkeflcnndpaaDoorCQRa
namespace Go.Proofs.YtihnkeflcnndpaaDoor
open Go.RowKit Go.WideShapes Go.Shelf
set_option maxRecDepth 100000
set_option linter.unusedSimpArgs false

theorem kind_ops (op : Nat) (h : op < 256) : (opKi op = 6 ↔ op = 3) ∧ (opKi op = 7 ↔ op = 4) := by
  have := List.all_eq_true.1 (show ((List.range 256).all fun k => ((opKi k == 6) == (k == 3)) && ((opKi k == 7) == (k == 4))) = true by kernel_rfl) op (List.mem_range.2 h)
  simp only [Bool.and_eq_true, beq_iff_eq] at this
  constructor
  · rw [← beq_iff_eq, this.1, beq_iff_eq]
  · rw [← beq_iff_eq, this.2, beq_iff_eq]
set_option maxHeartbeats 8000000 in
theorem rinstr_any (ao : Option Addr) (cap : Nat) (L : List (Nat × Nat)) (i q : Nat) (w : World) (hn : L.length ≤ 16384) (hwf : Wfc L) (hq : q < (bgs L).length) (h1 : bAt L q ≤ i) (h2 : i < bAt L (q + 1)) (hr : CRd w ao L w.heap.size) :
    Calls Tryd.prog 49 #[.slice ao L.length cap, .int .i64 i] w fun e w' => e = .returned (.int .i64 (errP L (bAt L q, bAt L (q + 1), argL L (bAt L q)) i : Nat)) ∧ Below w.heap.size w w' := by
  have hbe : bAt L (q + 1) ≤ L.length := bgs_end _
  have hiL : i < L.length := by omega
  have HBe : Hid (∀ W, Below w.heap.size w W → Calls Tryd.prog 66 #[.slice ao L.length cap, .int .i64 (i : Int)] W fun e w' => e = .returned (.int .i64 (bAt L q : Nat)) ∧ w' = W) := hid_of (fun W hW => rbegin_any ao cap L i q W (by omega) hq h1 h2 ((hr.below hW).mono hW.size))
  have HEn : Hid (∀ W, Below w.heap.size w W → Calls Tryd.prog 51 #[.slice ao L.length cap, .int .i64 (bAt L q : Nat)] W fun e w' => e = .returned (.int .i64 (bAt L (q + 1) : Nat)) ∧ w' = W) := hid_of (fun W hW => rend_any ao cap L q W (by omega) hq ((hr.below hW).mono hW.size))
  obtain ⟨b, off, rfl, hb, hc⟩ := hr (by omega)
  have v0 := (hc i hiL).1
  have v1 := (hc i hiL).2
  have HV2 : Hid (∀ W, Below w.heap.size w W → W.cell? ⟨b, off + bAt L q * 2 + 1, none⟩ = some (.int .u32 (argL L (bAt L q) : Nat))) := hid_of (fun W hW => (hW.cell (p := ⟨b, off + bAt L q * 2 + 1, none⟩) hb).trans (hc (bAt L q) (by omega)).2)
  have hop8 := (hwf.at hiL).1
  have harg := (hwf.at hiL).2
  unfold errP
  rw [show argL L i = (L.getD i (0, 0)).2 from rfl]
  have hK := kind_ops _ hop8
  have HI := hid_of (fun W => rinfo_any (L.getD i (0, 0)).1 W hop8)
  generalize (L.getD i (0, 0)).2 = arg at v1 harg ⊢
  generalize (L.getD i (0, 0)).1 = op at v0 hop8 hK HI ⊢
  generalize argL L (bAt L q) = fr at HV2 ⊢
  generalize bAt L q = bq at h1 HBe HEn HV2 ⊢
  generalize bAt L (q + 1) = eq at h2 hbe HEn ⊢
  generalize opKi op = kd at hK HI ⊢
  generalize opWd op = a0 at HI
  generalize opWi op = a1 at HI
  generalize opMo op = a2 at HI
  generalize opTa op = a3 at HI
  generalize opGi op = a4 at HI
  generalize isOp op = a5 at HI
  have hiI : (i : Int) < (L.length : Int) := by omega
  have hbI : (bq : Int) < (L.length : Int) := by omega
  obtain ⟨e1, he1⟩ : ∃ e1, eq = e1 + 1 := ⟨eq - 1, by omega⟩
  subst he1
  have hsub : ((e1 + 1 : Nat) : Int) - 1 = (e1 : Int) := by omega
  clear hc hr hq hwf
  by_cases ho3 : op = 3
  · have hk6 : kd = 6 := hK.1.2 ho3
    subst ho3 hk6
    clear hK
    have HI : Hid (∀ W, Calls Tryd.prog 65 #[.int .u8 3] W fun e w' => e = .returned (.tuple #[.agg #[.string a0, .int .i64 (a1 : Int), .int .u32 (a2 : Int), .int .i64 (a3 : Int), .int .i64 (a4 : Int), .int .u8 6], .bool a5]) ∧ Below W.heap.size W w') := hid_of (fun W => HI.out W)
    have v0 : w.cell? ⟨b, off + i * 2, none⟩ = some (.int .u8 3) := v0
    by_cases ha0 : arg = 0
    · subst ha0
      have v1 : w.cell? ⟨b, off + i * 2 + 1, none⟩ = some (.int .u32 0) := v1
      have hval : ckE 6 0 i bq (e1 + 1) fr = 131 := by simp [ckE, endK, mayFr]
      rw [hval]
      clear hval 
      go_enter Tryd.func49, Tryd.ntmps49
      go_wp2_with (first
        | (go_at_call 65; with_reducible refine (HI.out _).mono ?_; rintro e2 w2 ⟨rfl, hb2⟩; have hbA := belP (o := (Obj.cells #[.string a0, .int .i64 (a1 : Int), .int .u32 (a2 : Int), .int .i64 (a3 : Int), .int .i64 (a4 : Int), .int .u8 6] 54)) (btP (belP (o := Obj.cells #[.int .u8 3, .int .u32 0] 48) (Below.refl _ w)) hb2); have hbB := belP (o := (Obj.cells #[.string a0, .int .i64 (a1 : Int), .int .u32 (a2 : Int), .int .i64 (a3 : Int), .int .i64 (a4 : Int), .int .u8 6] 54)) hb2; have oI := (hbB.block w.heap.size (by simp)).trans (heap_alloc_new w (Obj.cells #[.int .u8 3, .int .u32 0] 48)); have oR := heap_alloc_new w2 (Obj.cells #[.string a0, .int .i64 (a1 : Int), .int .u32 (a2 : Int), .int .i64 (a3 : Int), .int .i64 (a4 : Int), .int .u8 6] 54); have c0 := (obj_cell oI 0).trans rfl; have c1 := (obj_cell oI 1).trans rfl; have c5 := (obj_cell oR 5).trans rfl; have cF := HV2.out _ hbA)
        | (go_at_call 66; with_reducible refine (HBe.out _ hbA).mono ?_; rintro e3 w3 ⟨rfl, hw3⟩; have hw3 := hw3.symm; subst hw3)
        | (go_at_call 51; with_reducible refine (HEn.out _ hbA).mono ?_; rintro e4 w4 ⟨rfl, hw4⟩; have hw4 := hw4.symm; subst hw4))
      go_ret
      exact ⟨rfl, hbA⟩
    have ha0B : ((arg : Int) == 0) = false := beq_eq_false_iff_ne.2 (by omega)
    by_cases ha4 : arg % 4 = 0
    · have ha4I : (arg : Int) % 4 = 0 := by omega
      by_cases hbig : 4096 < arg
      · have hbigI : (4096 : Int) < (arg : Int) := by omega
        have hval : ckE 6 arg i bq (e1 + 1) fr = 131 := by simp [ckE, endK, mayFr, ha4, show ¬ arg ≤ 4096 from by omega]
        rw [hval]
        clear hval 
        go_enter Tryd.func49, Tryd.ntmps49
        go_wp2_with (first
          | (go_at_call 65; with_reducible refine (HI.out _).mono ?_; rintro e2 w2 ⟨rfl, hb2⟩; have hbA := belP (o := (Obj.cells #[.string a0, .int .i64 (a1 : Int), .int .u32 (a2 : Int), .int .i64 (a3 : Int), .int .i64 (a4 : Int), .int .u8 6] 54)) (btP (belP (o := Obj.cells #[.int .u8 3, .int .u32 (arg : Int)] 48) (Below.refl _ w)) hb2); have hbB := belP (o := (Obj.cells #[.string a0, .int .i64 (a1 : Int), .int .u32 (a2 : Int), .int .i64 (a3 : Int), .int .i64 (a4 : Int), .int .u8 6] 54)) hb2; have oI := (hbB.block w.heap.size (by simp)).trans (heap_alloc_new w (Obj.cells #[.int .u8 3, .int .u32 (arg : Int)] 48)); have oR := heap_alloc_new w2 (Obj.cells #[.string a0, .int .i64 (a1 : Int), .int .u32 (a2 : Int), .int .i64 (a3 : Int), .int .i64 (a4 : Int), .int .u8 6] 54); have c0 := (obj_cell oI 0).trans rfl; have c1 := (obj_cell oI 1).trans rfl; have c5 := (obj_cell oR 5).trans rfl; have cF := HV2.out _ hbA)
          | (go_at_call 66; with_reducible refine (HBe.out _ hbA).mono ?_; rintro e3 w3 ⟨rfl, hw3⟩; have hw3 := hw3.symm; subst hw3)
          | (go_at_call 51; with_reducible refine (HEn.out _ hbA).mono ?_; rintro e4 w4 ⟨rfl, hw4⟩; have hw4 := hw4.symm; subst hw4))
        go_ret
        exact ⟨rfl, hbA⟩
      · have hbigI : ¬ (4096 : Int) < (arg : Int) := by omega
        by_cases hie : i = e1
        · have hieB : ((i : Int) == (e1 : Int)) = true := by rw [hie]; simp
          have hval : ckE 6 arg i bq (e1 + 1) fr = 133 := by simp [ckE, endK, mayFr, ha4, show arg ≤ 4096 from by omega, show 0 < arg from by omega, hie]
          rw [hval]
          clear hval hie
          go_enter Tryd.func49, Tryd.ntmps49
          go_wp2_with (first
            | (go_at_call 65; with_reducible refine (HI.out _).mono ?_; rintro e2 w2 ⟨rfl, hb2⟩; have hbA := belP (o := (Obj.cells #[.string a0, .int .i64 (a1 : Int), .int .u32 (a2 : Int), .int .i64 (a3 : Int), .int .i64 (a4 : Int), .int .u8 6] 54)) (btP (belP (o := Obj.cells #[.int .u8 3, .int .u32 (arg : Int)] 48) (Below.refl _ w)) hb2); have hbB := belP (o := (Obj.cells #[.string a0, .int .i64 (a1 : Int), .int .u32 (a2 : Int), .int .i64 (a3 : Int), .int .i64 (a4 : Int), .int .u8 6] 54)) hb2; have oI := (hbB.block w.heap.size (by simp)).trans (heap_alloc_new w (Obj.cells #[.int .u8 3, .int .u32 (arg : Int)] 48)); have oR := heap_alloc_new w2 (Obj.cells #[.string a0, .int .i64 (a1 : Int), .int .u32 (a2 : Int), .int .i64 (a3 : Int), .int .i64 (a4 : Int), .int .u8 6] 54); have c0 := (obj_cell oI 0).trans rfl; have c1 := (obj_cell oI 1).trans rfl; have c5 := (obj_cell oR 5).trans rfl; have cF := HV2.out _ hbA)
            | (go_at_call 66; with_reducible refine (HBe.out _ hbA).mono ?_; rintro e3 w3 ⟨rfl, hw3⟩; have hw3 := hw3.symm; subst hw3)
            | (go_at_call 51; with_reducible refine (HEn.out _ hbA).mono ?_; rintro e4 w4 ⟨rfl, hw4⟩; have hw4 := hw4.symm; subst hw4))
          go_quiet (fail)
          have c0' : (((w2.alloc (Obj.cells #[.string a0, .int .i64 (a1 : Int), .int .u32 (a2 : Int), .int .i64 (a3 : Int), .int .i64 (a4 : Int), .int .u8 6] 54))).drewN nq).cell? ⟨w.heap.size, 0, none⟩ = some (.int .u8 3) := c0
          have c1' : (((w2.alloc (Obj.cells #[.string a0, .int .i64 (a1 : Int), .int .u32 (a2 : Int), .int .i64 (a3 : Int), .int .i64 (a4 : Int), .int .u8 6] 54))).drewN nq).cell? ⟨w.heap.size, 1, none⟩ = some (.int .u32 (arg : Int)) := c1
          have c5' : (((w2.alloc (Obj.cells #[.string a0, .int .i64 (a1 : Int), .int .u32 (a2 : Int), .int .i64 (a3 : Int), .int .i64 (a4 : Int), .int .u8 6] 54))).drewN nq).cell? ⟨w2.heap.size, 5, none⟩ = some (.int .u8 6) := c5
          have hbQ := below_drewN hbA nq
          generalize (w2.alloc (Obj.cells #[.string a0, .int .i64 (a1 : Int), .int .u32 (a2 : Int), .int .i64 (a3 : Int), .int .i64 (a4 : Int), .int .u8 6] 54)).drewN nq = V at c0' c1' c5' hbQ ⊢
          clear c0 c1 c5 cF oI oR hbB
          go_wp2
          go_ret
          exact ⟨rfl, hbQ⟩
        · have hieB : ((i : Int) == (e1 : Int)) = false := beq_eq_false_iff_ne.2 (by omega)
          have hval : ckE 6 arg i bq (e1 + 1) fr = 0 := by simp [ckE, endK, mayFr, ha4, show arg ≤ 4096 from by omega, show 0 < arg from by omega, hie]
          rw [hval]
          clear hval hie
          go_enter Tryd.func49, Tryd.ntmps49
          go_wp2_with (first
            | (go_at_call 65; with_reducible refine (HI.out _).mono ?_; rintro e2 w2 ⟨rfl, hb2⟩; have hbA := belP (o := (Obj.cells #[.string a0, .int .i64 (a1 : Int), .int .u32 (a2 : Int), .int .i64 (a3 : Int), .int .i64 (a4 : Int), .int .u8 6] 54)) (btP (belP (o := Obj.cells #[.int .u8 3, .int .u32 (arg : Int)] 48) (Below.refl _ w)) hb2); have hbB := belP (o := (Obj.cells #[.string a0, .int .i64 (a1 : Int), .int .u32 (a2 : Int), .int .i64 (a3 : Int), .int .i64 (a4 : Int), .int .u8 6] 54)) hb2; have oI := (hbB.block w.heap.size (by simp)).trans (heap_alloc_new w (Obj.cells #[.int .u8 3, .int .u32 (arg : Int)] 48)); have oR := heap_alloc_new w2 (Obj.cells #[.string a0, .int .i64 (a1 : Int), .int .u32 (a2 : Int), .int .i64 (a3 : Int), .int .i64 (a4 : Int), .int .u8 6] 54); have c0 := (obj_cell oI 0).trans rfl; have c1 := (obj_cell oI 1).trans rfl; have c5 := (obj_cell oR 5).trans rfl; have cF := HV2.out _ hbA)
            | (go_at_call 66; with_reducible refine (HBe.out _ hbA).mono ?_; rintro e3 w3 ⟨rfl, hw3⟩; have hw3 := hw3.symm; subst hw3)
            | (go_at_call 51; with_reducible refine (HEn.out _ hbA).mono ?_; rintro e4 w4 ⟨rfl, hw4⟩; have hw4 := hw4.symm; subst hw4))
          go_quiet (fail)
          have c0' : (((w2.alloc (Obj.cells #[.string a0, .int .i64 (a1 : Int), .int .u32 (a2 : Int), .int .i64 (a3 : Int), .int .i64 (a4 : Int), .int .u8 6] 54))).drewN nq).cell? ⟨w.heap.size, 0, none⟩ = some (.int .u8 3) := c0
          have c1' : (((w2.alloc (Obj.cells #[.string a0, .int .i64 (a1 : Int), .int .u32 (a2 : Int), .int .i64 (a3 : Int), .int .i64 (a4 : Int), .int .u8 6] 54))).drewN nq).cell? ⟨w.heap.size, 1, none⟩ = some (.int .u32 (arg : Int)) := c1
          have c5' : (((w2.alloc (Obj.cells #[.string a0, .int .i64 (a1 : Int), .int .u32 (a2 : Int), .int .i64 (a3 : Int), .int .i64 (a4 : Int), .int .u8 6] 54))).drewN nq).cell? ⟨w2.heap.size, 5, none⟩ = some (.int .u8 6) := c5
          have hbQ := below_drewN hbA nq
          generalize (w2.alloc (Obj.cells #[.string a0, .int .i64 (a1 : Int), .int .u32 (a2 : Int), .int .i64 (a3 : Int), .int .i64 (a4 : Int), .int .u8 6] 54)).drewN nq = V at c0' c1' c5' hbQ ⊢
          clear c0 c1 c5 cF oI oR hbB
          go_wp2
          go_ret
          exact ⟨rfl, hbQ⟩
    · have ha4I : ¬ (arg : Int) % 4 = 0 := by omega
      have hval : ckE 6 arg i bq (e1 + 1) fr = 131 := by simp [ckE, endK, mayFr, ha4]
      rw [hval]
      clear hval 
      go_enter Tryd.func49, Tryd.ntmps49
      go_wp2_with (first
        | (go_at_call 65; with_reducible refine (HI.out _).mono ?_; rintro e2 w2 ⟨rfl, hb2⟩; have hbA := belP (o := (Obj.cells #[.string a0, .int .i64 (a1 : Int), .int .u32 (a2 : Int), .int .i64 (a3 : Int), .int .i64 (a4 : Int), .int .u8 6] 54)) (btP (belP (o := Obj.cells #[.int .u8 3, .int .u32 (arg : Int)] 48) (Below.refl _ w)) hb2); have hbB := belP (o := (Obj.cells #[.string a0, .int .i64 (a1 : Int), .int .u32 (a2 : Int), .int .i64 (a3 : Int), .int .i64 (a4 : Int), .int .u8 6] 54)) hb2; have oI := (hbB.block w.heap.size (by simp)).trans (heap_alloc_new w (Obj.cells #[.int .u8 3, .int .u32 (arg : Int)] 48)); have oR := heap_alloc_new w2 (Obj.cells #[.string a0, .int .i64 (a1 : Int), .int .u32 (a2 : Int), .int .i64 (a3 : Int), .int .i64 (a4 : Int), .int .u8 6] 54); have c0 := (obj_cell oI 0).trans rfl; have c1 := (obj_cell oI 1).trans rfl; have c5 := (obj_cell oR 5).trans rfl; have cF := HV2.out _ hbA)
        | (go_at_call 66; with_reducible refine (HBe.out _ hbA).mono ?_; rintro e3 w3 ⟨rfl, hw3⟩; have hw3 := hw3.symm; subst hw3)
        | (go_at_call 51; with_reducible refine (HEn.out _ hbA).mono ?_; rintro e4 w4 ⟨rfl, hw4⟩; have hw4 := hw4.symm; subst hw4))
      go_ret
      exact ⟨rfl, hbA⟩
  have hk6 : ¬ kd = 6 := fun h => ho3 (hK.1.1 h)
  have ho3B : ((op : Int) == 3) = false := beq_eq_false_iff_ne.2 (by omega)
  by_cases ho4 : op = 4
  · have hk7 : kd = 7 := hK.2.2 ho4
    subst ho4 hk7
    clear hK ho3 hk6 ho3B
    have HI : Hid (∀ W, Calls Tryd.prog 65 #[.int .u8 4] W fun e w' => e = .returned (.tuple #[.agg #[.string a0, .int .i64 (a1 : Int), .int .u32 (a2 : Int), .int .i64 (a3 : Int), .int .i64 (a4 : Int), .int .u8 7], .bool a5]) ∧ Below W.heap.size W w') := hid_of (fun W => HI.out W)
    have v0 : w.cell? ⟨b, off + i * 2, none⟩ = some (.int .u8 4) := v0
    by_cases haf : arg = fr
    · subst haf
      have hafB : ((arg : Int) != (arg : Int)) = false := by simp
      by_cases hie : i = e1
      · have hieB : ((i : Int) == (e1 : Int)) = true := by rw [hie]; simp
        have hval : ckE 7 arg i bq (e1 + 1) arg = 0 := by simp [ckE, endK, mayFr, hie]
        rw [hval]
        clear hval hie
        go_enter Tryd.func49, Tryd.ntmps49
        go_wp2_with (first
          | (go_at_call 65; with_reducible refine (HI.out _).mono ?_; rintro e2 w2 ⟨rfl, hb2⟩; have hbA := belP (o := (Obj.cells #[.string a0, .int .i64 (a1 : Int), .int .u32 (a2 : Int), .int .i64 (a3 : Int), .int .i64 (a4 : Int), .int .u8 7] 54)) (btP (belP (o := Obj.cells #[.int .u8 4, .int .u32 (arg : Int)] 48) (Below.refl _ w)) hb2); have hbB := belP (o := (Obj.cells #[.string a0, .int .i64 (a1 : Int), .int .u32 (a2 : Int), .int .i64 (a3 : Int), .int .i64 (a4 : Int), .int .u8 7] 54)) hb2; have oI := (hbB.block w.heap.size (by simp)).trans (heap_alloc_new w (Obj.cells #[.int .u8 4, .int .u32 (arg : Int)] 48)); have oR := heap_alloc_new w2 (Obj.cells #[.string a0, .int .i64 (a1 : Int), .int .u32 (a2 : Int), .int .i64 (a3 : Int), .int .i64 (a4 : Int), .int .u8 7] 54); have c0 := (obj_cell oI 0).trans rfl; have c1 := (obj_cell oI 1).trans rfl; have c5 := (obj_cell oR 5).trans rfl; have cF := HV2.out _ hbA)
          | (go_at_call 66; with_reducible refine (HBe.out _ hbA).mono ?_; rintro e3 w3 ⟨rfl, hw3⟩; have hw3 := hw3.symm; subst hw3)
          | (go_at_call 51; with_reducible refine (HEn.out _ hbA).mono ?_; rintro e4 w4 ⟨rfl, hw4⟩; have hw4 := hw4.symm; subst hw4))
        go_quiet (fail)
        have c0' : (((w2.alloc (Obj.cells #[.string a0, .int .i64 (a1 : Int), .int .u32 (a2 : Int), .int .i64 (a3 : Int), .int .i64 (a4 : Int), .int .u8 7] 54))).drewN nq).cell? ⟨w.heap.size, 0, none⟩ = some (.int .u8 4) := c0
        have c1' : (((w2.alloc (Obj.cells #[.string a0, .int .i64 (a1 : Int), .int .u32 (a2 : Int), .int .i64 (a3 : Int), .int .i64 (a4 : Int), .int .u8 7] 54))).drewN nq).cell? ⟨w.heap.size, 1, none⟩ = some (.int .u32 (arg : Int)) := c1
        have c5' : (((w2.alloc (Obj.cells #[.string a0, .int .i64 (a1 : Int), .int .u32 (a2 : Int), .int .i64 (a3 : Int), .int .i64 (a4 : Int), .int .u8 7] 54))).drewN nq).cell? ⟨w2.heap.size, 5, none⟩ = some (.int .u8 7) := c5
        have hbQ := below_drewN hbA nq
        generalize (w2.alloc (Obj.cells #[.string a0, .int .i64 (a1 : Int), .int .u32 (a2 : Int), .int .i64 (a3 : Int), .int .i64 (a4 : Int), .int .u8 7] 54)).drewN nq = V at c0' c1' c5' hbQ ⊢
        clear c0 c1 c5 cF oI oR hbB
        go_wp2
        go_ret
        exact ⟨rfl, hbQ⟩
      · have hieB : ((i : Int) == (e1 : Int)) = false := beq_eq_false_iff_ne.2 (by omega)
        have hval : ckE 7 arg i bq (e1 + 1) arg = 0 := by simp [ckE, endK, mayFr, hie]
        rw [hval]
        clear hval hie
        go_enter Tryd.func49, Tryd.ntmps49
        go_wp2_with (first
          | (go_at_call 65; with_reducible refine (HI.out _).mono ?_; rintro e2 w2 ⟨rfl, hb2⟩; have hbA := belP (o := (Obj.cells #[.string a0, .int .i64 (a1 : Int), .int .u32 (a2 : Int), .int .i64 (a3 : Int), .int .i64 (a4 : Int), .int .u8 7] 54)) (btP (belP (o := Obj.cells #[.int .u8 4, .int .u32 (arg : Int)] 48) (Below.refl _ w)) hb2); have hbB := belP (o := (Obj.cells #[.string a0, .int .i64 (a1 : Int), .int .u32 (a2 : Int), .int .i64 (a3 : Int), .int .i64 (a4 : Int), .int .u8 7] 54)) hb2; have oI := (hbB.block w.heap.size (by simp)).trans (heap_alloc_new w (Obj.cells #[.int .u8 4, .int .u32 (arg : Int)] 48)); have oR := heap_alloc_new w2 (Obj.cells #[.string a0, .int .i64 (a1 : Int), .int .u32 (a2 : Int), .int .i64 (a3 : Int), .int .i64 (a4 : Int), .int .u8 7] 54); have c0 := (obj_cell oI 0).trans rfl; have c1 := (obj_cell oI 1).trans rfl; have c5 := (obj_cell oR 5).trans rfl; have cF := HV2.out _ hbA)
          | (go_at_call 66; with_reducible refine (HBe.out _ hbA).mono ?_; rintro e3 w3 ⟨rfl, hw3⟩; have hw3 := hw3.symm; subst hw3)
          | (go_at_call 51; with_reducible refine (HEn.out _ hbA).mono ?_; rintro e4 w4 ⟨rfl, hw4⟩; have hw4 := hw4.symm; subst hw4))
        go_quiet (fail)
        have c0' : (((w2.alloc (Obj.cells #[.string a0, .int .i64 (a1 : Int), .int .u32 (a2 : Int), .int .i64 (a3 : Int), .int .i64 (a4 : Int), .int .u8 7] 54))).drewN nq).cell? ⟨w.heap.size, 0, none⟩ = some (.int .u8 4) := c0
        have c1' : (((w2.alloc (Obj.cells #[.string a0, .int .i64 (a1 : Int), .int .u32 (a2 : Int), .int .i64 (a3 : Int), .int .i64 (a4 : Int), .int .u8 7] 54))).drewN nq).cell? ⟨w.heap.size, 1, none⟩ = some (.int .u32 (arg : Int)) := c1
        have c5' : (((w2.alloc (Obj.cells #[.string a0, .int .i64 (a1 : Int), .int .u32 (a2 : Int), .int .i64 (a3 : Int), .int .i64 (a4 : Int), .int .u8 7] 54))).drewN nq).cell? ⟨w2.heap.size, 5, none⟩ = some (.int .u8 7) := c5
        have hbQ := below_drewN hbA nq
        generalize (w2.alloc (Obj.cells #[.string a0, .int .i64 (a1 : Int), .int .u32 (a2 : Int), .int .i64 (a3 : Int), .int .i64 (a4 : Int), .int .u8 7] 54)).drewN nq = V at c0' c1' c5' hbQ ⊢
        clear c0 c1 c5 cF oI oR hbB
        go_wp2
        go_ret
        exact ⟨rfl, hbQ⟩
    · have hafB : ((arg : Int) != (fr : Int)) = true := bne_iff_ne.2 (by omega)
      have hval : ckE 7 arg i bq (e1 + 1) fr = 131 := by simp [ckE, endK, mayFr, haf]
      rw [hval]
      clear hval 
      go_enter Tryd.func49, Tryd.ntmps49
      go_wp2_with (first
        | (go_at_call 65; with_reducible refine (HI.out _).mono ?_; rintro e2 w2 ⟨rfl, hb2⟩; have hbA := belP (o := (Obj.cells #[.string a0, .int .i64 (a1 : Int), .int .u32 (a2 : Int), .int .i64 (a3 : Int), .int .i64 (a4 : Int), .int .u8 7] 54)) (btP (belP (o := Obj.cells #[.int .u8 4, .int .u32 (arg : Int)] 48) (Below.refl _ w)) hb2); have hbB := belP (o := (Obj.cells #[.string a0, .int .i64 (a1 : Int), .int .u32 (a2 : Int), .int .i64 (a3 : Int), .int .i64 (a4 : Int), .int .u8 7] 54)) hb2; have oI := (hbB.block w.heap.size (by simp)).trans (heap_alloc_new w (Obj.cells #[.int .u8 4, .int .u32 (arg : Int)] 48)); have oR := heap_alloc_new w2 (Obj.cells #[.string a0, .int .i64 (a1 : Int), .int .u32 (a2 : Int), .int .i64 (a3 : Int), .int .i64 (a4 : Int), .int .u8 7] 54); have c0 := (obj_cell oI 0).trans rfl; have c1 := (obj_cell oI 1).trans rfl; have c5 := (obj_cell oR 5).trans rfl; have cF := HV2.out _ hbA)
        | (go_at_call 66; with_reducible refine (HBe.out _ hbA).mono ?_; rintro e3 w3 ⟨rfl, hw3⟩; have hw3 := hw3.symm; subst hw3)
        | (go_at_call 51; with_reducible refine (HEn.out _ hbA).mono ?_; rintro e4 w4 ⟨rfl, hw4⟩; have hw4 := hw4.symm; subst hw4))
      go_quiet (fail)
      have c0' : (((w2.alloc (Obj.cells #[.string a0, .int .i64 (a1 : Int), .int .u32 (a2 : Int), .int .i64 (a3 : Int), .int .i64 (a4 : Int), .int .u8 7] 54))).drewN nq).cell? ⟨w.heap.size, 0, none⟩ = some (.int .u8 4) := c0
      have c1' : (((w2.alloc (Obj.cells #[.string a0, .int .i64 (a1 : Int), .int .u32 (a2 : Int), .int .i64 (a3 : Int), .int .i64 (a4 : Int), .int .u8 7] 54))).drewN nq).cell? ⟨w.heap.size, 1, none⟩ = some (.int .u32 (arg : Int)) := c1
      have c5' : (((w2.alloc (Obj.cells #[.string a0, .int .i64 (a1 : Int), .int .u32 (a2 : Int), .int .i64 (a3 : Int), .int .i64 (a4 : Int), .int .u8 7] 54))).drewN nq).cell? ⟨w2.heap.size, 5, none⟩ = some (.int .u8 7) := c5
      have hbQ := below_drewN hbA nq
      generalize (w2.alloc (Obj.cells #[.string a0, .int .i64 (a1 : Int), .int .u32 (a2 : Int), .int .i64 (a3 : Int), .int .i64 (a4 : Int), .int .u8 7] 54)).drewN nq = V at c0' c1' c5' hbQ ⊢
      clear c0 c1 c5 cF oI oR hbB
      go_wp2
      go_ret
      exact ⟨rfl, hbQ⟩
  have hk7 : ¬ kd = 7 := fun h => ho4 (hK.2.1 h)
  have ho4B : ((op : Int) == 4) = false := beq_eq_false_iff_ne.2 (by omega)
  clear hK ho3 ho4
  by_cases hk3 : kd = 3
  · subst hk3
    clear hk6 hk7
    by_cases hle : arg ≤ bq
    · have hleI : (arg : Int) ≤ (bq : Int) := by omega
      have hval : ckE 3 arg i bq (e1 + 1) fr = 132 := by simp [ckE, endK, mayFr, show ¬ bq < arg from by omega]
      rw [hval]
      clear hval 
      go_enter Tryd.func49, Tryd.ntmps49
      go_wp2_with (first
        | (go_at_call 65; with_reducible refine (HI.out _).mono ?_; rintro e2 w2 ⟨rfl, hb2⟩; have hbA := belP (o := (Obj.cells #[.string a0, .int .i64 (a1 : Int), .int .u32 (a2 : Int), .int .i64 (a3 : Int), .int .i64 (a4 : Int), .int .u8 3] 54)) (btP (belP (o := Obj.cells #[.int .u8 (op : Int), .int .u32 (arg : Int)] 48) (Below.refl _ w)) hb2); have hbB := belP (o := (Obj.cells #[.string a0, .int .i64 (a1 : Int), .int .u32 (a2 : Int), .int .i64 (a3 : Int), .int .i64 (a4 : Int), .int .u8 3] 54)) hb2; have oI := (hbB.block w.heap.size (by simp)).trans (heap_alloc_new w (Obj.cells #[.int .u8 (op : Int), .int .u32 (arg : Int)] 48)); have oR := heap_alloc_new w2 (Obj.cells #[.string a0, .int .i64 (a1 : Int), .int .u32 (a2 : Int), .int .i64 (a3 : Int), .int .i64 (a4 : Int), .int .u8 3] 54); have c0 := (obj_cell oI 0).trans rfl; have c1 := (obj_cell oI 1).trans rfl; have c5 := (obj_cell oR 5).trans rfl; have cF := HV2.out _ hbA)
        | (go_at_call 66; with_reducible refine (HBe.out _ hbA).mono ?_; rintro e3 w3 ⟨rfl, hw3⟩; have hw3 := hw3.symm; subst hw3)
        | (go_at_call 51; with_reducible refine (HEn.out _ hbA).mono ?_; rintro e4 w4 ⟨rfl, hw4⟩; have hw4 := hw4.symm; subst hw4))
      go_quiet (fail)
      have c0' : (((w2.alloc (Obj.cells #[.string a0, .int .i64 (a1 : Int), .int .u32 (a2 : Int), .int .i64 (a3 : Int), .int .i64 (a4 : Int), .int .u8 3] 54))).drewN nq).cell? ⟨w.heap.size, 0, none⟩ = some (.int .u8 (op : Int)) := c0
      have c1' : (((w2.alloc (Obj.cells #[.string a0, .int .i64 (a1 : Int), .int .u32 (a2 : Int), .int .i64 (a3 : Int), .int .i64 (a4 : Int), .int .u8 3] 54))).drewN nq).cell? ⟨w.heap.size, 1, none⟩ = some (.int .u32 (arg : Int)) := c1
      have c5' : (((w2.alloc (Obj.cells #[.string a0, .int .i64 (a1 : Int), .int .u32 (a2 : Int), .int .i64 (a3 : Int), .int .i64 (a4 : Int), .int .u8 3] 54))).drewN nq).cell? ⟨w2.heap.size, 5, none⟩ = some (.int .u8 3) := c5
      have hbQ := below_drewN hbA nq
      generalize (w2.alloc (Obj.cells #[.string a0, .int .i64 (a1 : Int), .int .u32 (a2 : Int), .int .i64 (a3 : Int), .int .i64 (a4 : Int), .int .u8 3] 54)).drewN nq = V at c0' c1' c5' hbQ ⊢
      clear c0 c1 c5 cF oI oR hbB
      go_wp2
      go_ret
      exact ⟨rfl, hbQ⟩
    · have hleI : ¬ (arg : Int) ≤ (bq : Int) := by omega
      by_cases hge : e1 + 1 ≤ arg
      · have hgeI : ((e1 + 1 : Nat) : Int) ≤ (arg : Int) := by omega
        have hval : ckE 3 arg i bq (e1 + 1) fr = 132 := by simp [ckE, endK, mayFr, show ¬ arg < e1 + 1 from by omega]
        rw [hval]
        clear hval 
        go_enter Tryd.func49, Tryd.ntmps49
        go_wp2_with (first
          | (go_at_call 65; with_reducible refine (HI.out _).mono ?_; rintro e2 w2 ⟨rfl, hb2⟩; have hbA := belP (o := (Obj.cells #[.string a0, .int .i64 (a1 : Int), .int .u32 (a2 : Int), .int .i64 (a3 : Int), .int .i64 (a4 : Int), .int .u8 3] 54)) (btP (belP (o := Obj.cells #[.int .u8 (op : Int), .int .u32 (arg : Int)] 48) (Below.refl _ w)) hb2); have hbB := belP (o := (Obj.cells #[.string a0, .int .i64 (a1 : Int), .int .u32 (a2 : Int), .int .i64 (a3 : Int), .int .i64 (a4 : Int), .int .u8 3] 54)) hb2; have oI := (hbB.block w.heap.size (by simp)).trans (heap_alloc_new w (Obj.cells #[.int .u8 (op : Int), .int .u32 (arg : Int)] 48)); have oR := heap_alloc_new w2 (Obj.cells #[.string a0, .int .i64 (a1 : Int), .int .u32 (a2 : Int), .int .i64 (a3 : Int), .int .i64 (a4 : Int), .int .u8 3] 54); have c0 := (obj_cell oI 0).trans rfl; have c1 := (obj_cell oI 1).trans rfl; have c5 := (obj_cell oR 5).trans rfl; have cF := HV2.out _ hbA)
          | (go_at_call 66; with_reducible refine (HBe.out _ hbA).mono ?_; rintro e3 w3 ⟨rfl, hw3⟩; have hw3 := hw3.symm; subst hw3)
          | (go_at_call 51; with_reducible refine (HEn.out _ hbA).mono ?_; rintro e4 w4 ⟨rfl, hw4⟩; have hw4 := hw4.symm; subst hw4))
        go_quiet (fail)
        have c0' : (((w2.alloc (Obj.cells #[.string a0, .int .i64 (a1 : Int), .int .u32 (a2 : Int), .int .i64 (a3 : Int), .int .i64 (a4 : Int), .int .u8 3] 54))).drewN nq).cell? ⟨w.heap.size, 0, none⟩ = some (.int .u8 (op : Int)) := c0
        have c1' : (((w2.alloc (Obj.cells #[.string a0, .int .i64 (a1 : Int), .int .u32 (a2 : Int), .int .i64 (a3 : Int), .int .i64 (a4 : Int), .int .u8 3] 54))).drewN nq).cell? ⟨w.heap.size, 1, none⟩ = some (.int .u32 (arg : Int)) := c1
        have c5' : (((w2.alloc (Obj.cells #[.string a0, .int .i64 (a1 : Int), .int .u32 (a2 : Int), .int .i64 (a3 : Int), .int .i64 (a4 : Int), .int .u8 3] 54))).drewN nq).cell? ⟨w2.heap.size, 5, none⟩ = some (.int .u8 3) := c5
        have hbQ := below_drewN hbA nq
        generalize (w2.alloc (Obj.cells #[.string a0, .int .i64 (a1 : Int), .int .u32 (a2 : Int), .int .i64 (a3 : Int), .int .i64 (a4 : Int), .int .u8 3] 54)).drewN nq = V at c0' c1' c5' hbQ ⊢
        clear c0 c1 c5 cF oI oR hbB
        go_wp2
        go_ret
        exact ⟨rfl, hbQ⟩
      · have hgeI : ¬ ((e1 + 1 : Nat) : Int) ≤ (arg : Int) := by omega
        by_cases hie : i = e1
        · have hieB : ((i : Int) == (e1 : Int)) = true := by rw [hie]; simp
          have hval : ckE 3 arg i bq (e1 + 1) fr = 0 := by simp [ckE, endK, mayFr, show bq < arg from by omega, show arg < e1 + 1 from by omega, hie]
          rw [hval]
          clear hval hie
          go_enter Tryd.func49, Tryd.ntmps49
          go_wp2_with (first
            | (go_at_call 65; with_reducible refine (HI.out _).mono ?_; rintro e2 w2 ⟨rfl, hb2⟩; have hbA := belP (o := (Obj.cells #[.string a0, .int .i64 (a1 : Int), .int .u32 (a2 : Int), .int .i64 (a3 : Int), .int .i64 (a4 : Int), .int .u8 3] 54)) (btP (belP (o := Obj.cells #[.int .u8 (op : Int), .int .u32 (arg : Int)] 48) (Below.refl _ w)) hb2); have hbB := belP (o := (Obj.cells #[.string a0, .int .i64 (a1 : Int), .int .u32 (a2 : Int), .int .i64 (a3 : Int), .int .i64 (a4 : Int), .int .u8 3] 54)) hb2; have oI := (hbB.block w.heap.size (by simp)).trans (heap_alloc_new w (Obj.cells #[.int .u8 (op : Int), .int .u32 (arg : Int)] 48)); have oR := heap_alloc_new w2 (Obj.cells #[.string a0, .int .i64 (a1 : Int), .int .u32 (a2 : Int), .int .i64 (a3 : Int), .int .i64 (a4 : Int), .int .u8 3] 54); have c0 := (obj_cell oI 0).trans rfl; have c1 := (obj_cell oI 1).trans rfl; have c5 := (obj_cell oR 5).trans rfl; have cF := HV2.out _ hbA)
            | (go_at_call 66; with_reducible refine (HBe.out _ hbA).mono ?_; rintro e3 w3 ⟨rfl, hw3⟩; have hw3 := hw3.symm; subst hw3)
            | (go_at_call 51; with_reducible refine (HEn.out _ hbA).mono ?_; rintro e4 w4 ⟨rfl, hw4⟩; have hw4 := hw4.symm; subst hw4))
          go_quiet (fail)
          have c0' : (((w2.alloc (Obj.cells #[.string a0, .int .i64 (a1 : Int), .int .u32 (a2 : Int), .int .i64 (a3 : Int), .int .i64 (a4 : Int), .int .u8 3] 54))).drewN nq).cell? ⟨w.heap.size, 0, none⟩ = some (.int .u8 (op : Int)) := c0
          have c1' : (((w2.alloc (Obj.cells #[.string a0, .int .i64 (a1 : Int), .int .u32 (a2 : Int), .int .i64 (a3 : Int), .int .i64 (a4 : Int), .int .u8 3] 54))).drewN nq).cell? ⟨w.heap.size, 1, none⟩ = some (.int .u32 (arg : Int)) := c1
          have c5' : (((w2.alloc (Obj.cells #[.string a0, .int .i64 (a1 : Int), .int .u32 (a2 : Int), .int .i64 (a3 : Int), .int .i64 (a4 : Int), .int .u8 3] 54))).drewN nq).cell? ⟨w2.heap.size, 5, none⟩ = some (.int .u8 3) := c5
          have hbQ := below_drewN hbA nq
          generalize (w2.alloc (Obj.cells #[.string a0, .int .i64 (a1 : Int), .int .u32 (a2 : Int), .int .i64 (a3 : Int), .int .i64 (a4 : Int), .int .u8 3] 54)).drewN nq = V at c0' c1' c5' hbQ ⊢
          clear c0 c1 c5 cF oI oR hbB
          go_wp2
          go_ret
          exact ⟨rfl, hbQ⟩
        · have hieB : ((i : Int) == (e1 : Int)) = false := beq_eq_false_iff_ne.2 (by omega)
          have hval : ckE 3 arg i bq (e1 + 1) fr = 0 := by simp [ckE, endK, mayFr, show bq < arg from by omega, show arg < e1 + 1 from by omega, hie]
          rw [hval]
          clear hval hie
          go_enter Tryd.func49, Tryd.ntmps49
          go_wp2_with (first
            | (go_at_call 65; with_reducible refine (HI.out _).mono ?_; rintro e2 w2 ⟨rfl, hb2⟩; have hbA := belP (o := (Obj.cells #[.string a0, .int .i64 (a1 : Int), .int .u32 (a2 : Int), .int .i64 (a3 : Int), .int .i64 (a4 : Int), .int .u8 3] 54)) (btP (belP (o := Obj.cells #[.int .u8 (op : Int), .int .u32 (arg : Int)] 48) (Below.refl _ w)) hb2); have hbB := belP (o := (Obj.cells #[.string a0, .int .i64 (a1 : Int), .int .u32 (a2 : Int), .int .i64 (a3 : Int), .int .i64 (a4 : Int), .int .u8 3] 54)) hb2; have oI := (hbB.block w.heap.size (by simp)).trans (heap_alloc_new w (Obj.cells #[.int .u8 (op : Int), .int .u32 (arg : Int)] 48)); have oR := heap_alloc_new w2 (Obj.cells #[.string a0, .int .i64 (a1 : Int), .int .u32 (a2 : Int), .int .i64 (a3 : Int), .int .i64 (a4 : Int), .int .u8 3] 54); have c0 := (obj_cell oI 0).trans rfl; have c1 := (obj_cell oI 1).trans rfl; have c5 := (obj_cell oR 5).trans rfl; have cF := HV2.out _ hbA)
            | (go_at_call 66; with_reducible refine (HBe.out _ hbA).mono ?_; rintro e3 w3 ⟨rfl, hw3⟩; have hw3 := hw3.symm; subst hw3)
            | (go_at_call 51; with_reducible refine (HEn.out _ hbA).mono ?_; rintro e4 w4 ⟨rfl, hw4⟩; have hw4 := hw4.symm; subst hw4))
          go_quiet (fail)
          have c0' : (((w2.alloc (Obj.cells #[.string a0, .int .i64 (a1 : Int), .int .u32 (a2 : Int), .int .i64 (a3 : Int), .int .i64 (a4 : Int), .int .u8 3] 54))).drewN nq).cell? ⟨w.heap.size, 0, none⟩ = some (.int .u8 (op : Int)) := c0
          have c1' : (((w2.alloc (Obj.cells #[.string a0, .int .i64 (a1 : Int), .int .u32 (a2 : Int), .int .i64 (a3 : Int), .int .i64 (a4 : Int), .int .u8 3] 54))).drewN nq).cell? ⟨w.heap.size, 1, none⟩ = some (.int .u32 (arg : Int)) := c1
          have c5' : (((w2.alloc (Obj.cells #[.string a0, .int .i64 (a1 : Int), .int .u32 (a2 : Int), .int .i64 (a3 : Int), .int .i64 (a4 : Int), .int .u8 3] 54))).drewN nq).cell? ⟨w2.heap.size, 5, none⟩ = some (.int .u8 3) := c5
          have hbQ := below_drewN hbA nq
          generalize (w2.alloc (Obj.cells #[.string a0, .int .i64 (a1 : Int), .int .u32 (a2 : Int), .int .i64 (a3 : Int), .int .i64 (a4 : Int), .int .u8 3] 54)).drewN nq = V at c0' c1' c5' hbQ ⊢
          clear c0 c1 c5 cF oI oR hbB
          go_wp2
          go_ret
          exact ⟨rfl, hbQ⟩
  by_cases hk2 : kd = 2
  · subst hk2
    clear hk6 hk7
    by_cases hle : arg ≤ bq
    · have hleI : (arg : Int) ≤ (bq : Int) := by omega
      have hval : ckE 2 arg i bq (e1 + 1) fr = 132 := by simp [ckE, endK, mayFr, show ¬ bq < arg from by omega]
      rw [hval]
      clear hval 
      go_enter Tryd.func49, Tryd.ntmps49
      go_wp2_with (first
        | (go_at_call 65; with_reducible refine (HI.out _).mono ?_; rintro e2 w2 ⟨rfl, hb2⟩; have hbA := belP (o := (Obj.cells #[.string a0, .int .i64 (a1 : Int), .int .u32 (a2 : Int), .int .i64 (a3 : Int), .int .i64 (a4 : Int), .int .u8 2] 54)) (btP (belP (o := Obj.cells #[.int .u8 (op : Int), .int .u32 (arg : Int)] 48) (Below.refl _ w)) hb2); have hbB := belP (o := (Obj.cells #[.string a0, .int .i64 (a1 : Int), .int .u32 (a2 : Int), .int .i64 (a3 : Int), .int .i64 (a4 : Int), .int .u8 2] 54)) hb2; have oI := (hbB.block w.heap.size (by simp)).trans (heap_alloc_new w (Obj.cells #[.int .u8 (op : Int), .int .u32 (arg : Int)] 48)); have oR := heap_alloc_new w2 (Obj.cells #[.string a0, .int .i64 (a1 : Int), .int .u32 (a2 : Int), .int .i64 (a3 : Int), .int .i64 (a4 : Int), .int .u8 2] 54); have c0 := (obj_cell oI 0).trans rfl; have c1 := (obj_cell oI 1).trans rfl; have c5 := (obj_cell oR 5).trans rfl; have cF := HV2.out _ hbA)
        | (go_at_call 66; with_reducible refine (HBe.out _ hbA).mono ?_; rintro e3 w3 ⟨rfl, hw3⟩; have hw3 := hw3.symm; subst hw3)
        | (go_at_call 51; with_reducible refine (HEn.out _ hbA).mono ?_; rintro e4 w4 ⟨rfl, hw4⟩; have hw4 := hw4.symm; subst hw4))
      go_quiet (fail)
      have c0' : (((w2.alloc (Obj.cells #[.string a0, .int .i64 (a1 : Int), .int .u32 (a2 : Int), .int .i64 (a3 : Int), .int .i64 (a4 : Int), .int .u8 2] 54))).drewN nq).cell? ⟨w.heap.size, 0, none⟩ = some (.int .u8 (op : Int)) := c0
      have c1' : (((w2.alloc (Obj.cells #[.string a0, .int .i64 (a1 : Int), .int .u32 (a2 : Int), .int .i64 (a3 : Int), .int .i64 (a4 : Int), .int .u8 2] 54))).drewN nq).cell? ⟨w.heap.size, 1, none⟩ = some (.int .u32 (arg : Int)) := c1
      have c5' : (((w2.alloc (Obj.cells #[.string a0, .int .i64 (a1 : Int), .int .u32 (a2 : Int), .int .i64 (a3 : Int), .int .i64 (a4 : Int), .int .u8 2] 54))).drewN nq).cell? ⟨w2.heap.size, 5, none⟩ = some (.int .u8 2) := c5
      have hbQ := below_drewN hbA nq
      generalize (w2.alloc (Obj.cells #[.string a0, .int .i64 (a1 : Int), .int .u32 (a2 : Int), .int .i64 (a3 : Int), .int .i64 (a4 : Int), .int .u8 2] 54)).drewN nq = V at c0' c1' c5' hbQ ⊢
      clear c0 c1 c5 cF oI oR hbB
      go_wp2
      go_ret
      exact ⟨rfl, hbQ⟩
    · have hleI : ¬ (arg : Int) ≤ (bq : Int) := by omega
      by_cases hge : e1 + 1 ≤ arg
      · have hgeI : ((e1 + 1 : Nat) : Int) ≤ (arg : Int) := by omega
        have hval : ckE 2 arg i bq (e1 + 1) fr = 132 := by simp [ckE, endK, mayFr, show ¬ arg < e1 + 1 from by omega]
        rw [hval]
        clear hval 
        go_enter Tryd.func49, Tryd.ntmps49
        go_wp2_with (first
          | (go_at_call 65; with_reducible refine (HI.out _).mono ?_; rintro e2 w2 ⟨rfl, hb2⟩; have hbA := belP (o := (Obj.cells #[.string a0, .int .i64 (a1 : Int), .int .u32 (a2 : Int), .int .i64 (a3 : Int), .int .i64 (a4 : Int), .int .u8 2] 54)) (btP (belP (o := Obj.cells #[.int .u8 (op : Int), .int .u32 (arg : Int)] 48) (Below.refl _ w)) hb2); have hbB := belP (o := (Obj.cells #[.string a0, .int .i64 (a1 : Int), .int .u32 (a2 : Int), .int .i64 (a3 : Int), .int .i64 (a4 : Int), .int .u8 2] 54)) hb2; have oI := (hbB.block w.heap.size (by simp)).trans (heap_alloc_new w (Obj.cells #[.int .u8 (op : Int), .int .u32 (arg : Int)] 48)); have oR := heap_alloc_new w2 (Obj.cells #[.string a0, .int .i64 (a1 : Int), .int .u32 (a2 : Int), .int .i64 (a3 : Int), .int .i64 (a4 : Int), .int .u8 2] 54); have c0 := (obj_cell oI 0).trans rfl; have c1 := (obj_cell oI 1).trans rfl; have c5 := (obj_cell oR 5).trans rfl; have cF := HV2.out _ hbA)
          | (go_at_call 66; with_reducible refine (HBe.out _ hbA).mono ?_; rintro e3 w3 ⟨rfl, hw3⟩; have hw3 := hw3.symm; subst hw3)
          | (go_at_call 51; with_reducible refine (HEn.out _ hbA).mono ?_; rintro e4 w4 ⟨rfl, hw4⟩; have hw4 := hw4.symm; subst hw4))
        go_quiet (fail)
        have c0' : (((w2.alloc (Obj.cells #[.string a0, .int .i64 (a1 : Int), .int .u32 (a2 : Int), .int .i64 (a3 : Int), .int .i64 (a4 : Int), .int .u8 2] 54))).drewN nq).cell? ⟨w.heap.size, 0, none⟩ = some (.int .u8 (op : Int)) := c0
        have c1' : (((w2.alloc (Obj.cells #[.string a0, .int .i64 (a1 : Int), .int .u32 (a2 : Int), .int .i64 (a3 : Int), .int .i64 (a4 : Int), .int .u8 2] 54))).drewN nq).cell? ⟨w.heap.size, 1, none⟩ = some (.int .u32 (arg : Int)) := c1
        have c5' : (((w2.alloc (Obj.cells #[.string a0, .int .i64 (a1 : Int), .int .u32 (a2 : Int), .int .i64 (a3 : Int), .int .i64 (a4 : Int), .int .u8 2] 54))).drewN nq).cell? ⟨w2.heap.size, 5, none⟩ = some (.int .u8 2) := c5
        have hbQ := below_drewN hbA nq
        generalize (w2.alloc (Obj.cells #[.string a0, .int .i64 (a1 : Int), .int .u32 (a2 : Int), .int .i64 (a3 : Int), .int .i64 (a4 : Int), .int .u8 2] 54)).drewN nq = V at c0' c1' c5' hbQ ⊢
        clear c0 c1 c5 cF oI oR hbB
        go_wp2
        go_ret
        exact ⟨rfl, hbQ⟩
      · have hgeI : ¬ ((e1 + 1 : Nat) : Int) ≤ (arg : Int) := by omega
        by_cases hie : i = e1
        · have hieB : ((i : Int) == (e1 : Int)) = true := by rw [hie]; simp
          have hval : ckE 2 arg i bq (e1 + 1) fr = 133 := by simp [ckE, endK, mayFr, show bq < arg from by omega, show arg < e1 + 1 from by omega, hie]
          rw [hval]
          clear hval hie
          go_enter Tryd.func49, Tryd.ntmps49
          go_wp2_with (first
            | (go_at_call 65; with_reducible refine (HI.out _).mono ?_; rintro e2 w2 ⟨rfl, hb2⟩; have hbA := belP (o := (Obj.cells #[.string a0, .int .i64 (a1 : Int), .int .u32 (a2 : Int), .int .i64 (a3 : Int), .int .i64 (a4 : Int), .int .u8 2] 54)) (btP (belP (o := Obj.cells #[.int .u8 (op : Int), .int .u32 (arg : Int)] 48) (Below.refl _ w)) hb2); have hbB := belP (o := (Obj.cells #[.string a0, .int .i64 (a1 : Int), .int .u32 (a2 : Int), .int .i64 (a3 : Int), .int .i64 (a4 : Int), .int .u8 2] 54)) hb2; have oI := (hbB.block w.heap.size (by simp)).trans (heap_alloc_new w (Obj.cells #[.int .u8 (op : Int), .int .u32 (arg : Int)] 48)); have oR := heap_alloc_new w2 (Obj.cells #[.string a0, .int .i64 (a1 : Int), .int .u32 (a2 : Int), .int .i64 (a3 : Int), .int .i64 (a4 : Int), .int .u8 2] 54); have c0 := (obj_cell oI 0).trans rfl; have c1 := (obj_cell oI 1).trans rfl; have c5 := (obj_cell oR 5).trans rfl; have cF := HV2.out _ hbA)
            | (go_at_call 66; with_reducible refine (HBe.out _ hbA).mono ?_; rintro e3 w3 ⟨rfl, hw3⟩; have hw3 := hw3.symm; subst hw3)
            | (go_at_call 51; with_reducible refine (HEn.out _ hbA).mono ?_; rintro e4 w4 ⟨rfl, hw4⟩; have hw4 := hw4.symm; subst hw4))
          go_quiet (fail)
          have c0' : (((w2.alloc (Obj.cells #[.string a0, .int .i64 (a1 : Int), .int .u32 (a2 : Int), .int .i64 (a3 : Int), .int .i64 (a4 : Int), .int .u8 2] 54))).drewN nq).cell? ⟨w.heap.size, 0, none⟩ = some (.int .u8 (op : Int)) := c0
          have c1' : (((w2.alloc (Obj.cells #[.string a0, .int .i64 (a1 : Int), .int .u32 (a2 : Int), .int .i64 (a3 : Int), .int .i64 (a4 : Int), .int .u8 2] 54))).drewN nq).cell? ⟨w.heap.size, 1, none⟩ = some (.int .u32 (arg : Int)) := c1
          have c5' : (((w2.alloc (Obj.cells #[.string a0, .int .i64 (a1 : Int), .int .u32 (a2 : Int), .int .i64 (a3 : Int), .int .i64 (a4 : Int), .int .u8 2] 54))).drewN nq).cell? ⟨w2.heap.size, 5, none⟩ = some (.int .u8 2) := c5
          have hbQ := below_drewN hbA nq
          generalize (w2.alloc (Obj.cells #[.string a0, .int .i64 (a1 : Int), .int .u32 (a2 : Int), .int .i64 (a3 : Int), .int .i64 (a4 : Int), .int .u8 2] 54)).drewN nq = V at c0' c1' c5' hbQ ⊢
          clear c0 c1 c5 cF oI oR hbB
          go_wp2
          go_ret
          exact ⟨rfl, hbQ⟩
        · have hieB : ((i : Int) == (e1 : Int)) = false := beq_eq_false_iff_ne.2 (by omega)
          have hval : ckE 2 arg i bq (e1 + 1) fr = 0 := by simp [ckE, endK, mayFr, show bq < arg from by omega, show arg < e1 + 1 from by omega, hie]
          rw [hval]
          clear hval hie
          go_enter Tryd.func49, Tryd.ntmps49
          go_wp2_with (first
            | (go_at_call 65; with_reducible refine (HI.out _).mono ?_; rintro e2 w2 ⟨rfl, hb2⟩; have hbA := belP (o := (Obj.cells #[.string a0, .int .i64 (a1 : Int), .int .u32 (a2 : Int), .int .i64 (a3 : Int), .int .i64 (a4 : Int), .int .u8 2] 54)) (btP (belP (o := Obj.cells #[.int .u8 (op : Int), .int .u32 (arg : Int)] 48) (Below.refl _ w)) hb2); have hbB := belP (o := (Obj.cells #[.string a0, .int .i64 (a1 : Int), .int .u32 (a2 : Int), .int .i64 (a3 : Int), .int .i64 (a4 : Int), .int .u8 2] 54)) hb2; have oI := (hbB.block w.heap.size (by simp)).trans (heap_alloc_new w (Obj.cells #[.int .u8 (op : Int), .int .u32 (arg : Int)] 48)); have oR := heap_alloc_new w2 (Obj.cells #[.string a0, .int .i64 (a1 : Int), .int .u32 (a2 : Int), .int .i64 (a3 : Int), .int .i64 (a4 : Int), .int .u8 2] 54); have c0 := (obj_cell oI 0).trans rfl; have c1 := (obj_cell oI 1).trans rfl; have c5 := (obj_cell oR 5).trans rfl; have cF := HV2.out _ hbA)
            | (go_at_call 66; with_reducible refine (HBe.out _ hbA).mono ?_; rintro e3 w3 ⟨rfl, hw3⟩; have hw3 := hw3.symm; subst hw3)
            | (go_at_call 51; with_reducible refine (HEn.out _ hbA).mono ?_; rintro e4 w4 ⟨rfl, hw4⟩; have hw4 := hw4.symm; subst hw4))
          go_quiet (fail)
          have c0' : (((w2.alloc (Obj.cells #[.string a0, .int .i64 (a1 : Int), .int .u32 (a2 : Int), .int .i64 (a3 : Int), .int .i64 (a4 : Int), .int .u8 2] 54))).drewN nq).cell? ⟨w.heap.size, 0, none⟩ = some (.int .u8 (op : Int)) := c0
          have c1' : (((w2.alloc (Obj.cells #[.string a0, .int .i64 (a1 : Int), .int .u32 (a2 : Int), .int .i64 (a3 : Int), .int .i64 (a4 : Int), .int .u8 2] 54))).drewN nq).cell? ⟨w.heap.size, 1, none⟩ = some (.int .u32 (arg : Int)) := c1
          have c5' : (((w2.alloc (Obj.cells #[.string a0, .int .i64 (a1 : Int), .int .u32 (a2 : Int), .int .i64 (a3 : Int), .int .i64 (a4 : Int), .int .u8 2] 54))).drewN nq).cell? ⟨w2.heap.size, 5, none⟩ = some (.int .u8 2) := c5
          have hbQ := below_drewN hbA nq
          generalize (w2.alloc (Obj.cells #[.string a0, .int .i64 (a1 : Int), .int .u32 (a2 : Int), .int .i64 (a3 : Int), .int .i64 (a4 : Int), .int .u8 2] 54)).drewN nq = V at c0' c1' c5' hbQ ⊢
          clear c0 c1 c5 cF oI oR hbB
          go_wp2
          go_ret
          exact ⟨rfl, hbQ⟩
  by_cases hk4 : kd = 4
  · subst hk4
    clear hk6 hk7
    by_cases hie : i = e1
    · have hieB : ((i : Int) == (e1 : Int)) = true := by rw [hie]; simp
      have hval : ckE 4 arg i bq (e1 + 1) fr = 0 := by simp [ckE, endK, mayFr, hie]
      rw [hval]
      clear hval hie
      go_enter Tryd.func49, Tryd.ntmps49
      go_wp2_with (first
        | (go_at_call 65; with_reducible refine (HI.out _).mono ?_; rintro e2 w2 ⟨rfl, hb2⟩; have hbA := belP (o := (Obj.cells #[.string a0, .int .i64 (a1 : Int), .int .u32 (a2 : Int), .int .i64 (a3 : Int), .int .i64 (a4 : Int), .int .u8 4] 54)) (btP (belP (o := Obj.cells #[.int .u8 (op : Int), .int .u32 (arg : Int)] 48) (Below.refl _ w)) hb2); have hbB := belP (o := (Obj.cells #[.string a0, .int .i64 (a1 : Int), .int .u32 (a2 : Int), .int .i64 (a3 : Int), .int .i64 (a4 : Int), .int .u8 4] 54)) hb2; have oI := (hbB.block w.heap.size (by simp)).trans (heap_alloc_new w (Obj.cells #[.int .u8 (op : Int), .int .u32 (arg : Int)] 48)); have oR := heap_alloc_new w2 (Obj.cells #[.string a0, .int .i64 (a1 : Int), .int .u32 (a2 : Int), .int .i64 (a3 : Int), .int .i64 (a4 : Int), .int .u8 4] 54); have c0 := (obj_cell oI 0).trans rfl; have c1 := (obj_cell oI 1).trans rfl; have c5 := (obj_cell oR 5).trans rfl; have cF := HV2.out _ hbA)
        | (go_at_call 66; with_reducible refine (HBe.out _ hbA).mono ?_; rintro e3 w3 ⟨rfl, hw3⟩; have hw3 := hw3.symm; subst hw3)
        | (go_at_call 51; with_reducible refine (HEn.out _ hbA).mono ?_; rintro e4 w4 ⟨rfl, hw4⟩; have hw4 := hw4.symm; subst hw4))
      go_quiet (fail)
      have c0' : (((w2.alloc (Obj.cells #[.string a0, .int .i64 (a1 : Int), .int .u32 (a2 : Int), .int .i64 (a3 : Int), .int .i64 (a4 : Int), .int .u8 4] 54))).drewN nq).cell? ⟨w.heap.size, 0, none⟩ = some (.int .u8 (op : Int)) := c0
      have c1' : (((w2.alloc (Obj.cells #[.string a0, .int .i64 (a1 : Int), .int .u32 (a2 : Int), .int .i64 (a3 : Int), .int .i64 (a4 : Int), .int .u8 4] 54))).drewN nq).cell? ⟨w.heap.size, 1, none⟩ = some (.int .u32 (arg : Int)) := c1
      have c5' : (((w2.alloc (Obj.cells #[.string a0, .int .i64 (a1 : Int), .int .u32 (a2 : Int), .int .i64 (a3 : Int), .int .i64 (a4 : Int), .int .u8 4] 54))).drewN nq).cell? ⟨w2.heap.size, 5, none⟩ = some (.int .u8 4) := c5
      have hbQ := below_drewN hbA nq
      generalize (w2.alloc (Obj.cells #[.string a0, .int .i64 (a1 : Int), .int .u32 (a2 : Int), .int .i64 (a3 : Int), .int .i64 (a4 : Int), .int .u8 4] 54)).drewN nq = V at c0' c1' c5' hbQ ⊢
      clear c0 c1 c5 cF oI oR hbB
      go_wp2
      go_ret
      exact ⟨rfl, hbQ⟩
    · have hieB : ((i : Int) == (e1 : Int)) = false := beq_eq_false_iff_ne.2 (by omega)
      have hval : ckE 4 arg i bq (e1 + 1) fr = 0 := by simp [ckE, endK, mayFr, hie]
      rw [hval]
      clear hval hie
      go_enter Tryd.func49, Tryd.ntmps49
      go_wp2_with (first
        | (go_at_call 65; with_reducible refine (HI.out _).mono ?_; rintro e2 w2 ⟨rfl, hb2⟩; have hbA := belP (o := (Obj.cells #[.string a0, .int .i64 (a1 : Int), .int .u32 (a2 : Int), .int .i64 (a3 : Int), .int .i64 (a4 : Int), .int .u8 4] 54)) (btP (belP (o := Obj.cells #[.int .u8 (op : Int), .int .u32 (arg : Int)] 48) (Below.refl _ w)) hb2); have hbB := belP (o := (Obj.cells #[.string a0, .int .i64 (a1 : Int), .int .u32 (a2 : Int), .int .i64 (a3 : Int), .int .i64 (a4 : Int), .int .u8 4] 54)) hb2; have oI := (hbB.block w.heap.size (by simp)).trans (heap_alloc_new w (Obj.cells #[.int .u8 (op : Int), .int .u32 (arg : Int)] 48)); have oR := heap_alloc_new w2 (Obj.cells #[.string a0, .int .i64 (a1 : Int), .int .u32 (a2 : Int), .int .i64 (a3 : Int), .int .i64 (a4 : Int), .int .u8 4] 54); have c0 := (obj_cell oI 0).trans rfl; have c1 := (obj_cell oI 1).trans rfl; have c5 := (obj_cell oR 5).trans rfl; have cF := HV2.out _ hbA)
        | (go_at_call 66; with_reducible refine (HBe.out _ hbA).mono ?_; rintro e3 w3 ⟨rfl, hw3⟩; have hw3 := hw3.symm; subst hw3)
        | (go_at_call 51; with_reducible refine (HEn.out _ hbA).mono ?_; rintro e4 w4 ⟨rfl, hw4⟩; have hw4 := hw4.symm; subst hw4))
      go_quiet (fail)
      have c0' : (((w2.alloc (Obj.cells #[.string a0, .int .i64 (a1 : Int), .int .u32 (a2 : Int), .int .i64 (a3 : Int), .int .i64 (a4 : Int), .int .u8 4] 54))).drewN nq).cell? ⟨w.heap.size, 0, none⟩ = some (.int .u8 (op : Int)) := c0
      have c1' : (((w2.alloc (Obj.cells #[.string a0, .int .i64 (a1 : Int), .int .u32 (a2 : Int), .int .i64 (a3 : Int), .int .i64 (a4 : Int), .int .u8 4] 54))).drewN nq).cell? ⟨w.heap.size, 1, none⟩ = some (.int .u32 (arg : Int)) := c1
      have c5' : (((w2.alloc (Obj.cells #[.string a0, .int .i64 (a1 : Int), .int .u32 (a2 : Int), .int .i64 (a3 : Int), .int .i64 (a4 : Int), .int .u8 4] 54))).drewN nq).cell? ⟨w2.heap.size, 5, none⟩ = some (.int .u8 4) := c5
      have hbQ := below_drewN hbA nq
      generalize (w2.alloc (Obj.cells #[.string a0, .int .i64 (a1 : Int), .int .u32 (a2 : Int), .int .i64 (a3 : Int), .int .i64 (a4 : Int), .int .u8 4] 54)).drewN nq = V at c0' c1' c5' hbQ ⊢
      clear c0 c1 c5 cF oI oR hbB
      go_wp2
      go_ret
      exact ⟨rfl, hbQ⟩
  by_cases hk8 : kd = 8
  · subst hk8
    clear hk6 hk7
    by_cases hie : i = e1
    · have hieB : ((i : Int) == (e1 : Int)) = true := by rw [hie]; simp
      have hval : ckE 8 arg i bq (e1 + 1) fr = 0 := by simp [ckE, endK, mayFr, hie]
      rw [hval]
      clear hval hie
      go_enter Tryd.func49, Tryd.ntmps49
      go_wp2_with (first
        | (go_at_call 65; with_reducible refine (HI.out _).mono ?_; rintro e2 w2 ⟨rfl, hb2⟩; have hbA := belP (o := (Obj.cells #[.string a0, .int .i64 (a1 : Int), .int .u32 (a2 : Int), .int .i64 (a3 : Int), .int .i64 (a4 : Int), .int .u8 8] 54)) (btP (belP (o := Obj.cells #[.int .u8 (op : Int), .int .u32 (arg : Int)] 48) (Below.refl _ w)) hb2); have hbB := belP (o := (Obj.cells #[.string a0, .int .i64 (a1 : Int), .int .u32 (a2 : Int), .int .i64 (a3 : Int), .int .i64 (a4 : Int), .int .u8 8] 54)) hb2; have oI := (hbB.block w.heap.size (by simp)).trans (heap_alloc_new w (Obj.cells #[.int .u8 (op : Int), .int .u32 (arg : Int)] 48)); have oR := heap_alloc_new w2 (Obj.cells #[.string a0, .int .i64 (a1 : Int), .int .u32 (a2 : Int), .int .i64 (a3 : Int), .int .i64 (a4 : Int), .int .u8 8] 54); have c0 := (obj_cell oI 0).trans rfl; have c1 := (obj_cell oI 1).trans rfl; have c5 := (obj_cell oR 5).trans rfl; have cF := HV2.out _ hbA)
        | (go_at_call 66; with_reducible refine (HBe.out _ hbA).mono ?_; rintro e3 w3 ⟨rfl, hw3⟩; have hw3 := hw3.symm; subst hw3)
        | (go_at_call 51; with_reducible refine (HEn.out _ hbA).mono ?_; rintro e4 w4 ⟨rfl, hw4⟩; have hw4 := hw4.symm; subst hw4))
      go_quiet (fail)
      have c0' : (((w2.alloc (Obj.cells #[.string a0, .int .i64 (a1 : Int), .int .u32 (a2 : Int), .int .i64 (a3 : Int), .int .i64 (a4 : Int), .int .u8 8] 54))).drewN nq).cell? ⟨w.heap.size, 0, none⟩ = some (.int .u8 (op : Int)) := c0
      have c1' : (((w2.alloc (Obj.cells #[.string a0, .int .i64 (a1 : Int), .int .u32 (a2 : Int), .int .i64 (a3 : Int), .int .i64 (a4 : Int), .int .u8 8] 54))).drewN nq).cell? ⟨w.heap.size, 1, none⟩ = some (.int .u32 (arg : Int)) := c1
      have c5' : (((w2.alloc (Obj.cells #[.string a0, .int .i64 (a1 : Int), .int .u32 (a2 : Int), .int .i64 (a3 : Int), .int .i64 (a4 : Int), .int .u8 8] 54))).drewN nq).cell? ⟨w2.heap.size, 5, none⟩ = some (.int .u8 8) := c5
      have hbQ := below_drewN hbA nq
      generalize (w2.alloc (Obj.cells #[.string a0, .int .i64 (a1 : Int), .int .u32 (a2 : Int), .int .i64 (a3 : Int), .int .i64 (a4 : Int), .int .u8 8] 54)).drewN nq = V at c0' c1' c5' hbQ ⊢
      clear c0 c1 c5 cF oI oR hbB
      go_wp2
      go_ret
      exact ⟨rfl, hbQ⟩
    · have hieB : ((i : Int) == (e1 : Int)) = false := beq_eq_false_iff_ne.2 (by omega)
      have hval : ckE 8 arg i bq (e1 + 1) fr = 0 := by simp [ckE, endK, mayFr, hie]
      rw [hval]
      clear hval hie
      go_enter Tryd.func49, Tryd.ntmps49
      go_wp2_with (first
        | (go_at_call 65; with_reducible refine (HI.out _).mono ?_; rintro e2 w2 ⟨rfl, hb2⟩; have hbA := belP (o := (Obj.cells #[.string a0, .int .i64 (a1 : Int), .int .u32 (a2 : Int), .int .i64 (a3 : Int), .int .i64 (a4 : Int), .int .u8 8] 54)) (btP (belP (o := Obj.cells #[.int .u8 (op : Int), .int .u32 (arg : Int)] 48) (Below.refl _ w)) hb2); have hbB := belP (o := (Obj.cells #[.string a0, .int .i64 (a1 : Int), .int .u32 (a2 : Int), .int .i64 (a3 : Int), .int .i64 (a4 : Int), .int .u8 8] 54)) hb2; have oI := (hbB.block w.heap.size (by simp)).trans (heap_alloc_new w (Obj.cells #[.int .u8 (op : Int), .int .u32 (arg : Int)] 48)); have oR := heap_alloc_new w2 (Obj.cells #[.string a0, .int .i64 (a1 : Int), .int .u32 (a2 : Int), .int .i64 (a3 : Int), .int .i64 (a4 : Int), .int .u8 8] 54); have c0 := (obj_cell oI 0).trans rfl; have c1 := (obj_cell oI 1).trans rfl; have c5 := (obj_cell oR 5).trans rfl; have cF := HV2.out _ hbA)
        | (go_at_call 66; with_reducible refine (HBe.out _ hbA).mono ?_; rintro e3 w3 ⟨rfl, hw3⟩; have hw3 := hw3.symm; subst hw3)
        | (go_at_call 51; with_reducible refine (HEn.out _ hbA).mono ?_; rintro e4 w4 ⟨rfl, hw4⟩; have hw4 := hw4.symm; subst hw4))
      go_quiet (fail)
      have c0' : (((w2.alloc (Obj.cells #[.string a0, .int .i64 (a1 : Int), .int .u32 (a2 : Int), .int .i64 (a3 : Int), .int .i64 (a4 : Int), .int .u8 8] 54))).drewN nq).cell? ⟨w.heap.size, 0, none⟩ = some (.int .u8 (op : Int)) := c0
      have c1' : (((w2.alloc (Obj.cells #[.string a0, .int .i64 (a1 : Int), .int .u32 (a2 : Int), .int .i64 (a3 : Int), .int .i64 (a4 : Int), .int .u8 8] 54))).drewN nq).cell? ⟨w.heap.size, 1, none⟩ = some (.int .u32 (arg : Int)) := c1
      have c5' : (((w2.alloc (Obj.cells #[.string a0, .int .i64 (a1 : Int), .int .u32 (a2 : Int), .int .i64 (a3 : Int), .int .i64 (a4 : Int), .int .u8 8] 54))).drewN nq).cell? ⟨w2.heap.size, 5, none⟩ = some (.int .u8 8) := c5
      have hbQ := below_drewN hbA nq
      generalize (w2.alloc (Obj.cells #[.string a0, .int .i64 (a1 : Int), .int .u32 (a2 : Int), .int .i64 (a3 : Int), .int .i64 (a4 : Int), .int .u8 8] 54)).drewN nq = V at c0' c1' c5' hbQ ⊢
      clear c0 c1 c5 cF oI oR hbB
      go_wp2
      go_ret
      exact ⟨rfl, hbQ⟩
  have n3 : ((kd : Int) == 3) = false := beq_eq_false_iff_ne.2 (by omega)
  have n2 : ((kd : Int) == 2) = false := beq_eq_false_iff_ne.2 (by omega)
  have m3 : ((kd : Int) != 3) = true := bne_iff_ne.2 (by omega)
  have m4 : ((kd : Int) != 4) = true := bne_iff_ne.2 (by omega)
  have m7 : ((kd : Int) != 7) = true := bne_iff_ne.2 (by omega)
  have m8 : ((kd : Int) != 8) = true := bne_iff_ne.2 (by omega)
  by_cases hie : i = e1
  · have hieB : ((i : Int) == (e1 : Int)) = true := by rw [hie]; simp
    have hval : ckE kd arg i bq (e1 + 1) fr = 133 := by simp [ckE, endK, mayFr, hk6, hk7, hk3, hk2, hk4, hk8, hie]
    rw [hval]
    clear hval hie
    go_enter Tryd.func49, Tryd.ntmps49
    go_wp2_with (first
      | (go_at_call 65; with_reducible refine (HI.out _).mono ?_; rintro e2 w2 ⟨rfl, hb2⟩; have hbA := belP (o := (Obj.cells #[.string a0, .int .i64 (a1 : Int), .int .u32 (a2 : Int), .int .i64 (a3 : Int), .int .i64 (a4 : Int), .int .u8 (kd : Int)] 54)) (btP (belP (o := Obj.cells #[.int .u8 (op : Int), .int .u32 (arg : Int)] 48) (Below.refl _ w)) hb2); have hbB := belP (o := (Obj.cells #[.string a0, .int .i64 (a1 : Int), .int .u32 (a2 : Int), .int .i64 (a3 : Int), .int .i64 (a4 : Int), .int .u8 (kd : Int)] 54)) hb2; have oI := (hbB.block w.heap.size (by simp)).trans (heap_alloc_new w (Obj.cells #[.int .u8 (op : Int), .int .u32 (arg : Int)] 48)); have oR := heap_alloc_new w2 (Obj.cells #[.string a0, .int .i64 (a1 : Int), .int .u32 (a2 : Int), .int .i64 (a3 : Int), .int .i64 (a4 : Int), .int .u8 (kd : Int)] 54); have c0 := (obj_cell oI 0).trans rfl; have c1 := (obj_cell oI 1).trans rfl; have c5 := (obj_cell oR 5).trans rfl; have cF := HV2.out _ hbA)
      | (go_at_call 66; with_reducible refine (HBe.out _ hbA).mono ?_; rintro e3 w3 ⟨rfl, hw3⟩; have hw3 := hw3.symm; subst hw3)
      | (go_at_call 51; with_reducible refine (HEn.out _ hbA).mono ?_; rintro e4 w4 ⟨rfl, hw4⟩; have hw4 := hw4.symm; subst hw4))
    go_quiet (fail)
    have c0' : (((w2.alloc (Obj.cells #[.string a0, .int .i64 (a1 : Int), .int .u32 (a2 : Int), .int .i64 (a3 : Int), .int .i64 (a4 : Int), .int .u8 (kd : Int)] 54))).drewN nq).cell? ⟨w.heap.size, 0, none⟩ = some (.int .u8 (op : Int)) := c0
    have c1' : (((w2.alloc (Obj.cells #[.string a0, .int .i64 (a1 : Int), .int .u32 (a2 : Int), .int .i64 (a3 : Int), .int .i64 (a4 : Int), .int .u8 (kd : Int)] 54))).drewN nq).cell? ⟨w.heap.size, 1, none⟩ = some (.int .u32 (arg : Int)) := c1
    have c5' : (((w2.alloc (Obj.cells #[.string a0, .int .i64 (a1 : Int), .int .u32 (a2 : Int), .int .i64 (a3 : Int), .int .i64 (a4 : Int), .int .u8 (kd : Int)] 54))).drewN nq).cell? ⟨w2.heap.size, 5, none⟩ = some (.int .u8 (kd : Int)) := c5
    have hbQ := below_drewN hbA nq
    generalize (w2.alloc (Obj.cells #[.string a0, .int .i64 (a1 : Int), .int .u32 (a2 : Int), .int .i64 (a3 : Int), .int .i64 (a4 : Int), .int .u8 (kd : Int)] 54)).drewN nq = V at c0' c1' c5' hbQ ⊢
    clear c0 c1 c5 cF oI oR hbB
    go_wp2
    go_ret
    exact ⟨rfl, hbQ⟩
  · have hieB : ((i : Int) == (e1 : Int)) = false := beq_eq_false_iff_ne.2 (by omega)
    have hval : ckE kd arg i bq (e1 + 1) fr = 0 := by simp [ckE, endK, mayFr, hk6, hk7, hk3, hk2, hk4, hk8, hie]
    rw [hval]
    clear hval hie
    go_enter Tryd.func49, Tryd.ntmps49
    go_wp2_with (first
      | (go_at_call 65; with_reducible refine (HI.out _).mono ?_; rintro e2 w2 ⟨rfl, hb2⟩; have hbA := belP (o := (Obj.cells #[.string a0, .int .i64 (a1 : Int), .int .u32 (a2 : Int), .int .i64 (a3 : Int), .int .i64 (a4 : Int), .int .u8 (kd : Int)] 54)) (btP (belP (o := Obj.cells #[.int .u8 (op : Int), .int .u32 (arg : Int)] 48) (Below.refl _ w)) hb2); have hbB := belP (o := (Obj.cells #[.string a0, .int .i64 (a1 : Int), .int .u32 (a2 : Int), .int .i64 (a3 : Int), .int .i64 (a4 : Int), .int .u8 (kd : Int)] 54)) hb2; have oI := (hbB.block w.heap.size (by simp)).trans (heap_alloc_new w (Obj.cells #[.int .u8 (op : Int), .int .u32 (arg : Int)] 48)); have oR := heap_alloc_new w2 (Obj.cells #[.string a0, .int .i64 (a1 : Int), .int .u32 (a2 : Int), .int .i64 (a3 : Int), .int .i64 (a4 : Int), .int .u8 (kd : Int)] 54); have c0 := (obj_cell oI 0).trans rfl; have c1 := (obj_cell oI 1).trans rfl; have c5 := (obj_cell oR 5).trans rfl; have cF := HV2.out _ hbA)
      | (go_at_call 66; with_reducible refine (HBe.out _ hbA).mono ?_; rintro e3 w3 ⟨rfl, hw3⟩; have hw3 := hw3.symm; subst hw3)
      | (go_at_call 51; with_reducible refine (HEn.out _ hbA).mono ?_; rintro e4 w4 ⟨rfl, hw4⟩; have hw4 := hw4.symm; subst hw4))
    go_quiet (fail)
    have c0' : (((w2.alloc (Obj.cells #[.string a0, .int .i64 (a1 : Int), .int .u32 (a2 : Int), .int .i64 (a3 : Int), .int .i64 (a4 : Int), .int .u8 (kd : Int)] 54))).drewN nq).cell? ⟨w.heap.size, 0, none⟩ = some (.int .u8 (op : Int)) := c0
    have c1' : (((w2.alloc (Obj.cells #[.string a0, .int .i64 (a1 : Int), .int .u32 (a2 : Int), .int .i64 (a3 : Int), .int .i64 (a4 : Int), .int .u8 (kd : Int)] 54))).drewN nq).cell? ⟨w.heap.size, 1, none⟩ = some (.int .u32 (arg : Int)) := c1
    have c5' : (((w2.alloc (Obj.cells #[.string a0, .int .i64 (a1 : Int), .int .u32 (a2 : Int), .int .i64 (a3 : Int), .int .i64 (a4 : Int), .int .u8 (kd : Int)] 54))).drewN nq).cell? ⟨w2.heap.size, 5, none⟩ = some (.int .u8 (kd : Int)) := c5
    have hbQ := below_drewN hbA nq
    generalize (w2.alloc (Obj.cells #[.string a0, .int .i64 (a1 : Int), .int .u32 (a2 : Int), .int .i64 (a3 : Int), .int .i64 (a4 : Int), .int .u8 (kd : Int)] 54)).drewN nq = V at c0' c1' c5' hbQ ⊢
    clear c0 c1 c5 cF oI oR hbB
    go_wp2
    go_ret
    exact ⟨rfl, hbQ⟩
end Go.Proofs.YtihnkeflcnndpaaDoor
