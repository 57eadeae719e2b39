import Derived.Test.YtdpghhkimnifjaaCISiz
import Derived.Laws.ResultCell
import Derived.Laws.CopyOwn
namespace Go.Proofs.Ytdpghhkimnifjaa
open Go.RowKit Go.WideShapes
set_option maxRecDepth 100000

theorem wpList_store_rowD {P : Program} {ops : Array Oper} {Q : Exit → Act → World → Prop} {rest : List Oper} {o : Oper} {a : Act} {w : World} (hg : o.guard = none) (t : TypeId) (p q : Operand) (ho : o.op = .store t p q)
    (b : Nat) (cs cs' : Array Value) (h0 : a.eval p = .pointer (some ⟨b, 0, none⟩)) (h1 : a.eval q = .agg cs') (hb : w.heap[b]? = some (.cells cs t)) (hi : (P.info? t).map (·.size) = some cs'.size) (hs : cs.size = cs'.size) (h2 : cs'.all (·.oneCell') = true)
    (h : wpList P ops Q rest (a.put o.dst undef) (w.setRow b cs')) : wpList P ops Q (o :: rest) a w := by
  refine wpList_plain hg fun _ hK => ?_
  have := run_storeVar_row (P := P) w b t t cs cs' hb hi hs h2
  unfold Oper.wp
  have hr : (execOp a.eval o).run P w = .ok .skip (w.setRow b cs') := by
    simp only [execOp, ho, h0, h1, Instr.storeAt, Instr.sureAddr, Sem.run_bind, Sem.run_pure, Result.andThen, this]
  rw [hr]
  exact hK _ _ h
theorem sizeDPc : (Try.prog.info? 111).map (·.size) = some 4 := by kernel_rfl
theorem undDPc : ∃ fs, Try.prog.underlying 111 = some (.struct fs) := by
  have h : (match Try.prog.underlying 111 with | some (.struct _) => true | _ => false) = true := by kernel_rfl
  split at h
  · exact ⟨_, by assumption⟩
  · cases h
theorem resDPc {fn : Func} {p : Tmp} (hf : fn.results = #[.cell p 111]) (W : World) (b : Nat) (cs : Array Value) (hs : cs.size = 4) (hb : W.heap[b]? = some (.cells cs 111)) (tmps : Array Value) (h2 : tmps.getD p undef = .pointer (some ⟨b, 0, none⟩)) :
    (results fn tmps).run Try.prog W = .ok (.agg cs) W := by
  obtain ⟨fs, hu⟩ := undDPc
  exact results_cell_row (p := p) (ty := 111) hf tmps W b 111 cs (0, 0) _ h2 hb hu rfl (by rw [sizeDPc, hs])
theorem resEPc {fn : Func} {p u : Tmp} (hf : fn.results = #[.cell p 111, .tmp u]) (t2 : Value) (W : World) (b : Nat) (cs : Array Value) (hs : cs.size = 4) (hb : W.heap[b]? = some (.cells cs 111)) (tmps : Array Value) (h2 : tmps.getD p undef = .pointer (some ⟨b, 0, none⟩)) (h3 : tmps.getD u undef = t2) :
    (results fn tmps).run Try.prog W = .ok (.tuple #[.agg cs, t2]) W := by
  obtain ⟨fs, hu⟩ := undDPc
  rw [results_cell_tmp hf, h2, h3]
  have := run_loadVar_row (P := Try.prog) W b 111 111 cs (0, 0) _ hb hu rfl (by rw [sizeDPc, hs])
  simp only [asAddr, Sem.run_pure, Result.andThen, this]
/-- a piece's cells -/
def pcA (at' : Nat) (c : Nat × Nat × Nat) : Array Value := #[.int .u32 (at' : Int), .int .u32 (c.1 : Int), .int .u8 (c.2.1 : Int), .int .u32 (c.2.2 : Int)]
theorem fcheck_any (op arg : Nat) (w : World) (h : op < 256) :
    Calls Try.prog 16 #[.agg #[.int .u8 op, .int .u32 arg]] w fun e w' => e = .returned (.int .i64 (erV op arg)) ∧ Below w.heap.size w w' := by
  have hI := fun w => sized_any op arg w h
  go_enter Try.func16, Try.ntmps16
  go_wp2_with (go_at_call 29; refine (hI _).mono ?_; rintro e wq ⟨rfl, hq⟩)
  go_ret
  exact ⟨rfl, bt (bel (Below.refl _ _)) hq⟩
set_option maxHeartbeats 2000000 in
theorem fone_any (at' : Nat) (w : World) :
    Calls Try.prog 73 #[.int .u32 (at' : Int)] w fun e w' => e = .returned (.agg (pcA at' (1, 1, 0))) ∧ Below w.heap.size w w' := by
  go_enter Try.func73, Try.ntmps73
  go_wp2
  exact bodyPost_ret (resDPc (p := 2) (by kernel_rfl) _ w.heap.size _ rfl (heap_alloc_last w _) _ rfl) rfl ⟨rfl, bel (Below.refl _ _)⟩
set_option maxHeartbeats 2000000 in
theorem left_any (b at' len : Nat) (w : World) (ws : List Nat) (h : RoS b w ws) :
    Calls Try.prog 77 #[.pointer (some ⟨b, 0, none⟩), .int .u32 (at' : Int), .int .u32 (len : Int)] w fun e w' => e = .returned (.agg (pcA at' (leftV ws len))) ∧ Below w.heap.size w w' := by
  have c64 := h.cnt
  have hbl := h.lt
  have hne : ¬ b = w.heap.size := by omega
  by_cases h0 : ws.length = 0
  · rw [show leftV ws len = (len, 4, 0) by simp [leftV, h0]]
    rw [h0] at c64
    go_enter Try.func77, Try.ntmps77
    go_wp2
    exact bodyPost_ret (resDPc (p := 6) (by kernel_rfl) _ w.heap.size _ rfl (heap_alloc_last w _) _ rfl) rfl ⟨rfl, bel (Below.refl _ _)⟩
  · rw [show leftV ws len = (len, 2, ws.getD 0 0) by simp [leftV, h0]]
    have c0 := h.wd (i := 0) (by omega)
    have hz : ((ws.length : Int) == 0) = false := by rw [beq_eq_false_iff_ne]; omega
    have hz' : ¬ (ws.length : Int) = 0 := by omega
    go_enter Try.func77, Try.ntmps77
    go_wp2
    exact bodyPost_ret (resDPc (p := 6) (by kernel_rfl) _ w.heap.size _ rfl (heap_alloc_last w _) _ rfl) rfl ⟨rfl, bel (Below.refl _ _)⟩
/-- what Info tells of an operation -/
abbrev infA (op : Nat) : Array Value := #[.string (opWd op), .int .i64 (opWi op : Int), .int .u32 (opMo op : Int), .int .i64 (opTa op : Int), .int .i64 (opGi op : Int), .int .u8 (opKi op : Int)]
set_option maxHeartbeats 4000000 in
theorem bears_gen (b op ta gi n : Nat) (w : World) (hbl : b < w.heap.size) (c64 : w.cell? ⟨b, 64, none⟩ = some (.int .i64 (n : Int))) (hle : n ≤ 64) (t1 : ta ≤ 2000000) (t2 : gi ≤ 2000000) :
    Calls Try.prog 74 #[.pointer (some ⟨b, 0, none⟩), .agg #[.string (opWd op), .int .i64 (opWi op : Int), .int .u32 (opMo op : Int), .int .i64 (ta : Int), .int .i64 (gi : Int), .int .u8 (opKi op : Int)]] w fun e w' => e = .returned (.bool (decide (ta ≤ n ∧ n - ta + gi ≤ 64))) ∧ Below w.heap.size w w' := by
  have hne : ¬ b = w.heap.size := by omega
  have HB := dhid (fun (o : Obj) (k : Nat) => (show Below w.heap.size w ((w.alloc o).drewN k) from ⟨rfl, rfl, rfl, by simp, fun j hj => Below.heap_alloc _ _ _ hj⟩))
  by_cases h1 : ta ≤ n
  · have d1 : decide (ta ≤ n) = true := decide_eq_true h1
    have hs1 : IntKind.i64.wrap ((n : Int) - (ta : Int)) = ((n - ta : Nat) : Int) := by rw [IntKind.wrap_i64]; omega
    have hs2 : IntKind.i64.wrap (((n - ta : Nat) : Int) + (gi : Int)) = ((n - ta + gi : Nat) : Int) := by rw [IntKind.wrap_i64]; omega
    rw [show decide (ta ≤ n ∧ n - ta + gi ≤ 64) = decide (n - ta + gi ≤ 64) by simp [h1]]
    generalize n - ta + gi = q at *
    generalize n - ta = r at *
    go_enter Try.func74, Try.ntmps74
    go_wp2
    go_quiet (fail)
    go_wp2
    go_ret
    exact ⟨by rw [show decide ((q : Int) ≤ 64) = decide (q ≤ 64) from decide_eq_decide.2 (by omega)]; rfl, HB.out _ _⟩
  · have d1 : decide (ta ≤ n) = false := decide_eq_false h1
    rw [decide_eq_false (show ¬ (ta ≤ n ∧ n - ta + gi ≤ 64) from fun c => h1 c.1)]
    go_enter Try.func74, Try.ntmps74
    go_wp2
    go_quiet (fail)
    go_wp2
    go_ret
    exact ⟨rfl, HB.out _ _⟩
theorem bears_any (b op : Nat) (w : World) (ws : List Nat) (hop : op < 256) (h : RoS b w ws) :
    Calls Try.prog 74 #[.pointer (some ⟨b, 0, none⟩), .agg (infA op)] w fun e w' => e = .returned (.bool (brB ws op)) ∧ Below w.heap.size w w' :=
  bears_gen b op (opTa op) (opGi op) ws.length w h.lt h.cnt h.le (ta_small op hop).1 (ta_small op hop).2
end Go.Proofs.Ytdpghhkimnifjaa
namespace Go.Proofs.Ytdpghhkimnifjaa
open Go.RowKit Go.WideShapes
set_option maxRecDepth 100000

set_option maxHeartbeats 4000000 in
theorem works_any (b op : Nat) (w : World) (ws : List Nat) (_hop : op < 256) (h : RoS b w ws) (hta : opTa op ≤ ws.length) :
    Calls Try.prog 81 #[.pointer (some ⟨b, 0, none⟩), .int .u8 (op : Int), .int .i64 (opTa op : Int)] w fun e w' => e = .returned (.bool (wkV ws op).isSome) ∧ (∀ ws', wkV ws op = some ws' → RoS b w' ws') ∧ Kp (fun k => k = b) w w' := by
  have hle := h.le
  by_cases h1 : opTa op = 1
  · rw [h1] at hta ⊢
    have hlast := getLastD_bd h.bd
    have HU := dhid (fun w => un_any op (ws.getLastD 0) w hlast)
    have hcut := last_cut ws (by omega)
    have HW := dhid (show wkV ws op = if unE op = 0 then some (ws.dropLast ++ [unV op (ws.getLastD 0)]) else none by simp [wkV, h1])
    have h' : RoS b w (ws.dropLast ++ [ws.getLastD 0]) := hcut ▸ h
    have hdl := dropLast_len ws
    generalize ws.getLastD 0 = x at *
    generalize ws.dropLast = us at *
    clear hcut h
    have HPo := dhid (pop_any b x w us h')
    have hpb := unV_lt op x hlast
    have HPu := dhid (fun w' (hh : RoS b w' us) => push_any b (unV op x) w' us hh hpb (by omega))
    clear h'
    by_cases hE : unE op = 0
    · rw [HW.out, if_pos hE]
      clear HW
      rw [hE] at HU
      generalize unV op x = y at *
      go_enter Try.func81, Try.ntmps81
      go_wp2_with (first | (go_at_call 80; refine HPo.out.mono ?_; rintro e w1 ⟨rfl, hr1, hk1⟩) | (go_at_call 26; refine (HU.out _).mono ?_; rintro e w2 ⟨rfl, rfl⟩) | (go_at_call 79; refine (HPu.out _ hr1).mono ?_; rintro e w3 ⟨rfl, hr3, hk3⟩))
      go_ret
      exact ⟨rfl, fun ws' e => by cases e; exact hr3, hk1.trans hk3 (fun _ _ e => e)⟩
    · rw [HW.out, if_neg hE]
      clear HW
      have hE' : (unE op == 0) = false := by rw [beq_eq_false_iff_ne]; exact hE
      generalize unE op = er at *
      generalize unV op x = y at *
      go_enter Try.func81, Try.ntmps81
      go_wp2_with (first | (go_at_call 80; refine HPo.out.mono ?_; rintro e w1 ⟨rfl, hr1, hk1⟩) | (go_at_call 26; refine (HU.out _).mono ?_; rintro e w2 ⟨rfl, rfl⟩))
      go_ret
      exact ⟨rfl, fun ws' e => (by cases e), hk1⟩
  · by_cases h2 : opTa op = 2
    · rw [h2] at hta ⊢
      have hlast := getLastD_bd h.bd
      have hlast2 := getLastD_bd (dropLast_bd h.bd)
      have HU := dhid (fun w => bin_any op (ws.dropLast.getLastD 0) (ws.getLastD 0) w hlast2 hlast)
      have hcut := last_cut ws (by omega)
      have hcut2 := last_cut ws.dropLast (by rw [dropLast_len]; omega)
      have HW := dhid (show wkV ws op = if binE op (ws.getLastD 0) = 0 then some (ws.dropLast.dropLast ++ [binV op (ws.dropLast.getLastD 0) (ws.getLastD 0)]) else none by simp [wkV, h2])
      have h' : RoS b w (ws.dropLast.dropLast ++ [ws.dropLast.getLastD 0] ++ [ws.getLastD 0]) := by rw [← hcut2, ← hcut]; exact h
      have hdl := dropLast_len ws
      have hdl2 := dropLast_len ws.dropLast
      generalize ws.getLastD 0 = x at *
      generalize ws.dropLast.getLastD 0 = z at *
      generalize ws.dropLast.dropLast = us at *
      generalize ws.dropLast = vs at *
      clear hcut hcut2 h
      have HPo := dhid (pop2_any b z x w us h')
      have hpb := binV_lt op z x hlast2 hlast
      have HPu := dhid (fun w' (hh : RoS b w' us) => push_any b (binV op z x) w' us hh hpb (by omega))
      clear h'
      by_cases hE : binE op x = 0
      · rw [HW.out, if_pos hE]
        clear HW
        rw [hE] at HU
        generalize binV op z x = y at *
        go_enter Try.func81, Try.ntmps81
        go_wp2_with (first | (go_at_call 78; refine HPo.out.mono ?_; rintro e w1 ⟨rfl, hr1, hk1⟩) | (go_at_call 27; refine (HU.out _).mono ?_; rintro e w2 ⟨rfl, hb2⟩; have hr2 := hr1.kept (Kp.ofBelow (S := fun _ => False) hb2) (fun e => e)) | (go_at_call 79; refine (HPu.out _ hr2).mono ?_; rintro e w3 ⟨rfl, hr3, hk3⟩))
        go_ret
        exact ⟨rfl, fun ws' e => by cases e; exact hr3, (hk1.trans (Kp.ofBelow (S := fun _ => False) hb2) (fun _ _ e => e.elim)).trans hk3 (fun _ _ e => e)⟩
      · rw [HW.out, if_neg hE]
        clear HW
        have hE' : (binE op x == 0) = false := by rw [beq_eq_false_iff_ne]; exact hE
        generalize binE op x = er at *
        generalize binV op z x = y at *
        go_enter Try.func81, Try.ntmps81
        go_wp2_with (first | (go_at_call 78; refine HPo.out.mono ?_; rintro e w1 ⟨rfl, hr1, hk1⟩) | (go_at_call 27; refine (HU.out _).mono ?_; rintro e w2 ⟨rfl, hb2⟩))
        go_ret
        exact ⟨rfl, fun ws' e => (by cases e), hk1.trans (Kp.ofBelow (S := fun _ => False) hb2) (fun _ _ e => e.elim)⟩
    · rw [show wkV ws op = none by simp [wkV, h1, h2]]
      have d1 : ((opTa op : Int) == 1) = false := by rw [beq_eq_false_iff_ne]; omega
      have d2 : ((opTa op : Int) == 2) = false := by rw [beq_eq_false_iff_ne]; omega
      have d1' : ¬ (opTa op : Int) = 1 := by omega
      have d2' : ¬ (opTa op : Int) = 2 := by omega
      generalize opTa op = ta at *
      clear h
      go_enter Try.func81, Try.ntmps81
      go_wp2
      go_ret
      exact ⟨rfl, fun ws' e => (by cases e), Kp.refl _ _⟩
end Go.Proofs.Ytdpghhkimnifjaa
