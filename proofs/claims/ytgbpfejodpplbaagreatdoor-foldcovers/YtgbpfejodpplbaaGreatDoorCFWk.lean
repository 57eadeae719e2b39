import Derived.Test.YtgbpfejodpplbaaGreatDoorCFR8
namespace Go.Proofs.YtgbpfejodpplbaaGreatDoor
open Go.RowKit Go.WideShapes Go.Shelf
set_option maxRecDepth 100000
attribute [local go_sem] Oper.semAt_some

theorem mk_wait (v : Value) (W : World) : (Instr.makeInterface 158 v).run Tryz.prog W = .ok (.iface 158 v) W := run_makeInterface W 158 v (by kernel_rfl)
theorem mk_word (v : Value) (W : World) : (Instr.makeInterface 25 v).run Tryz.prog W = .ok (.iface 25 v) W := run_makeInterface W 25 v (by kernel_rfl)
attribute [local go_sem] as_word mk_wait mk_word
set_option maxHeartbeats 4000000 in
theorem walk_any {w0 : World} {kc pp : Nat} {ta : Option Addr} {tc : Nat} {ao : Option Addr} {cap : Nat} {L : List (Nat × Nat)} {J : List Nat} {M : List (ByteArray × Nat)} (hC : ChS w0 kc pp ta tc ao cap L J) (hG : FdG L J M) (hop : ∀ i, i < L.length → opL L i < 256)
    (k gd cp : Nat) (D0 : List Int) (w : World) (hk : k < (bgs L).length) (hb0 : Below w0.heap.size w0 w) (hD : DpW w w0.heap.size gd cp D0) (hDl : D0.length = L.length) (h0 : ∀ i, bAt L k ≤ i → i < bAt L (k + 1) → D0.getD i (-1) = -1) :
    Calls Tryz.prog 54 #[.pointer (some ⟨kc, 0, none⟩), .int .u32 (bAt L k : Nat), .slice (some ⟨gd, 0, none⟩) D0.length cp] w fun e w' => Kp (fun i => i = gd) w w' ∧ ((∃ (need : Int) (D : List Int), e = .returned (.tuple #[.int .i64 need, .int .u32 0, .int .i64 0]) ∧ DpW w' w0.heap.size gd cp D ∧ D.length = L.length ∧ (∀ i, ¬ (bAt L k ≤ i ∧ i < bAt L (k + 1)) → D.getD i (-1) = D0.getD i (-1)) ∧ FinP L J k D need) ∨
      (∃ at_ x : Nat, e = .returned (.tuple #[.int .i64 0, .int .u32 at_, .int .i64 x]) ∧ (x = 140 ∨ x = 141 ∨ x = 142 ∨ x = 143) ∧ at_ < L.length ∧ FltP L J k at_ x)) := by
  have hbl := bAt_lt hk
  have hble := bgs_end (L := L) (k + 1)
  have hll := encX_len hG.enc
  have HST := hidS (WkI.start (J := J) hbl (by rw [hDl]; exact Nat.lt_of_lt_of_le hbl hble) h0)
  refine (callsIn_wide (n := 30)).1 ?_
  refine callsIn_of_wp_marks Tryz.func54 rfl trivial ?_ rfl
  simp only [Tryz.ntmps54, List.size_toArray, List.length_cons, List.length_nil, Nat.reduceAdd, Nat.reduceSub, Array.replicate_succ, Array.replicate_zero, List.push_toArray, List.append_toArray, List.nil_append, List.cons_append]
  obtain ⟨b, hbq⟩ : ∃ b, bAt L k = b := ⟨_, rfl⟩
  have HBQ := hidS hbq
  rw [hbq] at HST ⊢
  have hbL : b < D0.length := by rw [hDl, ← hbq]; exact Nat.lt_of_lt_of_le hbl hble
  have hbI : (b : Int) < (D0.length : Int) := by omega
  have HDW := hidS hD
  have hgl : gd < w.heap.size := (hD.lt gd rfl).2
  have cD : ∀ o o', ((w.alloc o).alloc o').cell? ⟨gd, b, none⟩ = some (.int .i64 (D0.getD b (-1))) := fun o o' => ((belP (belP (Below.refl _ w))).cell (p := ⟨gd, b, none⟩) hgl).trans (hD.cell hbL)
  have fD : ∀ o o', ((w.alloc o).alloc o').frozen? ⟨gd, b, none⟩ = false := fun o o' => (World.frozen?_of_block (w := w) (((belP (belP (Below.refl _ w))) : Below w.heap.size w ((w.alloc o).alloc o')).block gd hgl)).trans (hD.thaw b)
  have HDl := hidS hDl
  clear hD h0 hbl hble hbq hDl
  gi_wp2
  refine wpIn_wide.2 (wp_scope_straight ((wpIn_wide (n := 30)).1 ?_))
  gi_wp2
  refine wpIn_label ?_
  gi_step
  gi_step
  refine wpIn_seq ?_
  refine wpIn_mono (Q := WkP L J k w0 w kc b gd cp D0) ?loop ?after
  case loop =>
    gi_step
    have hm0 : 2 * unr (D0.set b 0) (bAt L k) (bAt L (k + 1)) + 1 ≤ 40000 := by
      have h1 := unr_le (D0.set b 0) (bAt L k) (bAt L (k + 1))
      have h2 := bgs_end (L := L) (k + 1)
      change bAt L (k + 1) ≤ L.length at h2
      omega
    refine wpIn_loop_ghost_k (WkJ L J k w0 w kc b gd cp D0) _ ⟨D0.set b 0, [b], [], 0, 0, -1, undef, undef, undef, undef, undef, undef, undef, undef, undef, undef, undef, undef, undef, undef, undef, undef, undef, undef, undef, undef, undef, undef, undef, undef, undef, undef, undef, undef, undef, undef, undef, undef, undef, undef, undef, undef, undef, undef, undef, undef, undef, undef, undef, undef, undef, undef, undef, undef, undef, undef, undef, undef, undef, undef, undef, undef, undef, undef, undef, undef, undef, undef, undef, undef, undef, undef, undef, undef, undef, undef, undef, rfl, WkS.start HDW.out, HST.out, rfl, hm0⟩ ?_
    clear hm0 HST cD fD HDW
    rintro m a V ⟨D, Wt, Ds, at_, need, jd, u11, u12, u13, u14, u21, u22, u23, u24, u25, u26, u27, u28, u29, u30, u31, u32, u33, u34, u35, u36, u37, u38, u39, u40, u41, u42, u43, u44, u45, u46, u47, u48, u49, u50, u51, u52, u53, u54, u55, u56, u57, u58, u59, u60, u61, u62, u63, u64, u65, u66, u67, u68, u69, u70, u71, u72, u73, u74, u75, u76, u77, u78, u79, u80, u81, u82, u83, u84, u85, u86, u87, rfl, hS, hI, hm, hm4⟩ Jr Kr hJr hKr
    obtain ⟨g, gc, hw⟩ := hS.hp
    have cb := hS.bb.cell
    have cw := hw.bx.cell
    have HLn := (callsIn_wide (n := 29)).2 (wlen_any (some ⟨g, 0, none⟩) Wt.length gc V)
    by_cases hz : Wt.length = 0
    · have hWt : Wt = [] := List.eq_nil_of_length_eq_zero hz
      subst hWt
      simp only [List.length_nil] at HLn cw
      have HE : Hid (WkS w0 w gd cp 0 D [] Ds V ∧ D.length = D0.length ∧ (∀ i, ¬ (bAt L k ≤ i ∧ i < bAt L (k + 1)) → D.getD i (-1) = D0.getD i (-1)) ∧ FinP L J k D need) := hidS ⟨hS, hI.len, hI.out, hI.fin⟩
      clear hS hI hm hw hKr hJr hz hm4
      gi_wp2_with ((first | refine ⟨trivial, fun _ => by omega, ?_⟩ | refine ⟨trivial, ?_⟩); gi_at_call 81; refine HLn.mono ?_; rintro en w2 ⟨rfl, hw2⟩; subst hw2)
      exact ⟨rfl, D, [], Ds, 0, at_, need, jd, _, _, _, _, _, _, _, _, _, _, _, _, _, _, _, _, _, _, _, _, _, _, _, _, _, _, _, _, _, _, _, _, _, _, _, _, _, _, _, _, _, _, _, _, _, _, _, _, _, _, _, _, _, _, _, _, _, _, _, _, _, _, _, _, _, _, _, _, _, _, _, rfl, HE.out.1, .inl ⟨rfl, HE.out.2⟩⟩
    · have hzI : (0 : Int) < (Wt.length : Int) := by omega
      have HPop := (callsIn_wide (n := 29)).2 (hpop_any V (by omega) (by omega) hI.ho hw)
      have HCI : Hid (∀ (x : Nat) (Wp : List Nat) (W : World), (x :: Wp).Perm Wt → HpW W w.heap.size (w.heap.size + 1 + 1 + 1) g gc Wp → Kp (fun k => k = g ∨ k = w.heap.size + 1 + 1 + 1) V W → CallsIn Fence.wide 29 Tryz.prog 83 #[.pointer (some ⟨kc, 0, none⟩), .int .u32 x] W fun e w' => e = .returned (infoV (opL L x)) ∧ Below W.heap.size W w') := hidS (fun x Wp W hp hw3 hk3 => by
        have hx := hI.wt x (hp.subset (List.mem_cons_self ..))
        have hxL : x < L.length := Nat.lt_of_lt_of_le hx.2.1 (bgs_end _)
        exact callsIn_wide.2 (cinfo_any (hC.below ((hS.upd hw hw3 hk3).base hb0)) x hxL (hop x hxL)))
      have HI := hidS (And.intro hS (And.intro hI (And.intro hm (And.intro hm4 hw))))
      have HK := hidS (And.intro hJr hKr)
      clear hS hI hm hm4 hw hJr hKr hz
      gi_wp2_with (first
        | ((first | refine ⟨trivial, fun _ => by omega, ?_⟩ | refine ⟨trivial, ?_⟩); gi_at_call 81; refine HLn.mono ?_; rintro en w2 ⟨rfl, hw2⟩; have hw2 := hw2.symm; subst hw2)
        | ((first | refine ⟨trivial, fun _ => by omega, ?_⟩ | refine ⟨trivial, ?_⟩); gi_at_call 82; refine HPop.mono ?_; rintro en w3 ⟨x, Wp, rfl, hpm, hls3, hoP3, hw3, hk3, hz3⟩; have HLS := hidS (And.intro hls3 hoP3); clear hls3 hoP3; have hIN := HCI.out x Wp w3 hpm hw3 hk3)
        | ((first | refine ⟨trivial, fun _ => by omega, ?_⟩ | refine ⟨trivial, ?_⟩); gi_at_call 83; refine hIN.mono ?_; rintro en w4 ⟨rfl, hb4⟩))
      obtain ⟨hS, hI, hm, hm4, hw⟩ := HI.out
      have hxW := hI.wt x (hpm.subset (List.mem_cons_self ..))
      have hxL : x < L.length := Nat.lt_of_lt_of_le hxW.2.1 (bgs_end _)
      have hS4 := (hS.upd hw hw3 hk3).below hb4
      obtain ⟨W7, hW7⟩ : ∃ W, (w4.alloc (Obj.cells #[.string (opWd (opL L x)), .int .i64 (opWi (opL L x) : Nat), .int .u32 (opMo (opL L x) : Nat), .int .i64 (opTa (opL L x) : Nat), .int .i64 (opGi (opL L x) : Nat), .int .u8 (opKi (opL L x) : Nat)] 101)).alloc (Obj.cells #[.int .i64 0] 3) = W := ⟨_, rfl⟩
      have hb47 : Below w4.heap.size w4 W7 := by rw [← hW7]; exact belP (belP (Below.refl _ _))
      have hS7 := hS4.below hb47
      have oi : W7.heap[w4.heap.size]? = some (Obj.cells #[.string (opWd (opL L x)), .int .i64 (opWi (opL L x) : Nat), .int .u32 (opMo (opL L x) : Nat), .int .i64 (opTa (opL L x) : Nat), .int .i64 (opGi (opL L x) : Nat), .int .u8 (opKi (opL L x) : Nat)] 101) := by rw [← hW7, Below.heap_alloc _ _ _ (by simp)]; exact heap_alloc_new _ _
      have or0 : W7.heap[w4.heap.size + 1]? = some (Obj.cells #[.int .i64 0] 3) := by
        have := heap_alloc_new (w4.alloc (Obj.cells #[.string (opWd (opL L x)), .int .i64 (opWi (opL L x) : Nat), .int .u32 (opMo (opL L x) : Nat), .int .i64 (opTa (opL L x) : Nat), .int .i64 (opGi (opL L x) : Nat), .int .u8 (opKi (opL L x) : Nat)] 101)) (Obj.cells #[.int .i64 0] 3)
        rw [World.size_alloc, hW7] at this
        exact this
      have hz7 : W7.heap.size = w4.heap.size + 2 := by rw [← hW7]; simp
      have hki : w.heap.size + 5 ≤ w4.heap.size := by
        have := hS4.bb.lt
        omega
      rw [hW7]
      generalize hkq : w4.heap.size = ki at *
      have HT := taken_any (opL L x) (D.getD x (-1))
      have hbd := hI.bd x hxW.1 hxW.2.1
      have hopx := hop x hxL
      have hDx : x < D.length := by rw [hI.len, HDl.out]; exact hxL
      have HS7 := hidS hS7
      have cD := DpW.cell hS7.dp hDx
      have hlD : D.length = D0.length := hI.len
      have cd := hS7.bd.cell
      rw [hlD] at cd
      clear hW7 hb47 hS4 hb4 hIN HCI HPop HLn hkq cb cw hzI hw3 hk3 hz3 hw
      obtain ⟨e, heq⟩ : ∃ e, tkE (opL L x) (D.getD x (-1)) = e := ⟨_, rfl⟩
      obtain ⟨r, hrq⟩ : ∃ r, (if tkE (opL L x) (D.getD x (-1)) = 0 then restI (opL L x) (D.getD x (-1)) else 0) = r := ⟨_, rfl⟩
      have HTK : Hid (∀ W, Calls Tryz.prog 84 #[infoV (opL L x), .int .i64 (D.getD x (-1))] W fun y w' => y = .returned (.tuple #[.int .i64 r, .int .i64 e]) ∧ Below W.heap.size W w') := hidS (fun W => by
        have := HT W hopx hbd
        rw [hrq, heq] at this
        exact this)
      have hgl7 := hS7.gl
      refine r8_lay w.heap.size (w.heap.size + 1) ki (ki + 1) gd D0.length cp x (opL L x) e (D.getD x (-1)) r (by rw [HDl.out]; exact hxL) ⟨(obj_cell oi 0).trans rfl, (obj_cell oi 1).trans rfl, (obj_cell oi 2).trans rfl, (obj_cell oi 3).trans rfl, (obj_cell oi 4).trans rfl, (obj_cell oi 5).trans rfl, cd, cD⟩ ⟨by omega, by omega, by omega, by omega, by omega⟩ ⟨by omega, by omega, by omega, by omega⟩ ⟨0, or0⟩ ⟨_, hS7.be⟩ HTK.out (by rintro c a d v w ⟨h, _⟩; cases h) ?_
      intro w8 hb8
      have hS8a := HS7.out.below hb8
      have or8a := heap_thru hb8 or0
      have hS8b := hS8a.rset (ki + 1) (.int .i64 r) (by omega) or8a
      have hS8c := hS8b.err e
      have or8b : Boxed (w8.setCell ⟨ki + 1, 0, none⟩ (.int .i64 r)) (ki + 1) 3 (.int .i64 r) := (show Boxed w8 (ki + 1) 3 (.int .i64 0) from or8a).set _
      have or8c : Boxed ((w8.setCell ⟨ki + 1, 0, none⟩ (.int .i64 r)).setCell ⟨w.heap.size + 1, 0, none⟩ (.int .i64 e)) (ki + 1) 3 (.int .i64 r) := or8b.other (by omega) _
      have oi8 : ((w8.setCell ⟨ki + 1, 0, none⟩ (.int .i64 r)).setCell ⟨w.heap.size + 1, 0, none⟩ (.int .i64 e)).heap[ki]? = some (Obj.cells #[.string (opWd (opL L x)), .int .i64 (opWi (opL L x) : Nat), .int .u32 (opMo (opL L x) : Nat), .int .i64 (opTa (opL L x) : Nat), .int .i64 (opGi (opL L x) : Nat), .int .u8 (opKi (opL L x) : Nat)] 101) := (Below.heap_setCell _ _ _ _ (by show ki ≠ w.heap.size + 1; omega)).trans ((Below.heap_setCell _ _ _ _ (by show ki ≠ ki + 1; omega)).trans (heap_thru hb8 oi))
      generalize (w8.setCell ⟨ki + 1, 0, none⟩ (.int .i64 r)).setCell ⟨w.heap.size + 1, 0, none⟩ (.int .i64 e) = W8 at hS8c or8c oi8 ⊢
      have HS8 := hidS hS8c
      have ce := hS8c.be.cell
      clear hS8a hS8b or8b or8a hb8 HS7 oi or0 cD cd hS7 hgl7 hS HTK HT hz7
      by_cases he0 : e = 0
      · subst he0
        have hrr : restI (opL L x) (D.getD x (-1)) = r := by rw [← hrq, if_pos heq]
        have hmx : (if (if need < D.getD x (-1) then D.getD x (-1) else need) < r then r else if need < D.getD x (-1) then D.getD x (-1) else need) = max need (max (D.getD x (-1)) r) := by (repeat' split) <;> omega
        have hTk := hI.take hpm HLS.out.1 HLS.out.2 heq
        rw [hrr] at hTk
        have cD8 := DpW.cell hS8c.dp hDx
        have cd8 := hS8c.bd.cell
        rw [hlD] at cd8
        have HTk := hidS hTk
        have HII := hidS (And.intro hI (And.intro hm (And.intro hpm (And.intro hrr hxW))))
        clear hTk hI hm hpm hS8c hrq
        gi_wp2
        refine r10_lay w.heap.size (ki + 1) gd D0.length cp x (D.getD x (-1)) r need (max need (max (D.getD x (-1)) r)) (by rw [HDl.out]; exact hxL) ⟨cd8, cD8, or8c.cell⟩ hmx (by rintro c a d v w ⟨h, _⟩; cases h) ?_
        clear hmx
        gi_step
        gi_step
        obtain ⟨nd, hnd⟩ : ∃ nd, max need (max (D.getD x (-1)) r) = nd := ⟨_, rfl⟩
        obtain ⟨W9, hW9⟩ : ∃ W, W8.drew = W := ⟨_, rfl⟩
        have hS9 : WkS w0 w gd cp 0 D Wp Ds W9 := by rw [← hW9]; exact HS8.out.below (below_drewN (Below.refl _ _) 1)
        have or9 : Boxed W9 (ki + 1) 3 (.int .i64 r) := by rw [← hW9]; exact or8c
        have oi9 : W9.heap[ki]? = some (Obj.cells #[.string (opWd (opL L x)), .int .i64 (opWi (opL L x) : Nat), .int .u32 (opMo (opL L x) : Nat), .int .i64 (opTa (opL L x) : Nat), .int .i64 (opGi (opL L x) : Nat), .int .u8 (opKi (opL L x) : Nat)] 101) := by rw [← hW9]; exact oi8
        rw [hnd] at HTk ⊢
        rw [hW9]
        clear hW9 or8c oi8 cD8 cd8 ce HS8 hnd
        have c5 := (obj_cell oi9 5).trans rfl
        have cr := or9.cell
        refine wpIn_seq ?_
        refine wpIn_mono (Q := WkC kc b gd D0.length cp w.heap.size ki x nd jd r (opKi (opL L x)) Ds W9) ?cond ?rest
        case cond =>
          generalize opKi (opL L x) = kk at c5 ⊢
          by_cases h4 : kk = 4
          · subst h4
            by_cases hrj : r = jd
            · subst hrj
              clear HTk HII
              gi_wp2
              exact ⟨rfl, _, _, _, _, _, _, _, _, _, _, _, _, _, _, _, _, _, _, _, _, _, _, _, _, _, _, _, _, _, _, _, _, _, _, _, _, _, _, _, _, _, _, _, _, _, _, _, _, _, _, _, _, _, _, _, _, _, _, _, _, _, _, _, _, _, _, _, _, _, _, rfl, .inr ⟨rfl, rfl, rfl, rfl⟩⟩
            · have hrB : (r == jd) = false := beq_eq_false_iff_ne.2 hrj
              clear HTk HII
              gi_wp2
              exact ⟨rfl, _, _, _, _, _, _, _, _, _, _, _, _, _, _, _, _, _, _, _, _, _, _, _, _, _, _, _, _, _, _, _, _, _, _, _, _, _, _, _, _, _, _, _, _, _, _, _, _, _, _, _, _, _, _, _, _, _, _, _, _, _, _, _, _, _, _, _, _, _, _, rfl, .inl ⟨rfl, .inr ⟨rfl, rfl⟩⟩⟩
          · have hkB : ((kk : Int) == 4) = false := beq_eq_false_iff_ne.2 (by omega)
            clear HTk HII
            gi_wp2
            exact ⟨rfl, _, _, _, _, _, _, _, _, _, _, _, _, _, _, _, _, _, _, _, _, _, _, _, _, _, _, _, _, _, _, _, _, _, _, _, _, _, _, _, _, _, _, _, _, _, _, _, _, _, _, _, _, _, _, _, _, _, _, _, _, _, _, _, _, _, _, _, _, _, _, rfl, .inl ⟨rfl, .inl rfl⟩⟩
        case rest =>
          obtain ⟨hI, hm, hpm, hrr, hxW2⟩ := HII.out
          have hle := hpm.length_eq
          rw [List.length_cons] at hle
          rintro e a V9 ⟨hV9, jn, v13, v14, v21, v22, v23, v24, v25, v26, v27, v28, v29, v30, v31, v32, v33, v34, v35, v36, v37, v38, v39, v40, v41, v42, v43, v44, v45, v46, v47, v48, v49, v50, v51, v52, v53, v54, v55, v56, v57, v58, v59, v60, v61, v62, v63, v64, v65, v66, v67, v68, v69, v70, v71, v72, v73, v74, v75, v76, v77, v78, v79, v80, v81, v82, v83, v84, v85, v86, v87, rfl, ⟨rfl, hjn⟩ | ⟨rfl, h4, hrj, rfl⟩⟩
          · subst hV9
            have hw32 : IntKind.u32.wrap ((x : Int) + 1) = (x : Int) + 1 := by rw [IntKind.wrap_u32]; omega
            have HWy : CallsIn Fence.wide 29 Tryz.prog 85 #[.pointer (some ⟨kc, 0, none⟩), .int .u32 (x : Int), .int .u32 ((x : Int) + 1)] V9 _ := callsIn_wide.2 (ways_any kc x (x + 1) V9)
            obtain ⟨g9, c9, hw9⟩ := hS9.hp
            have HST9 := hidS (And.intro hS9 (And.intro hw9 or9))
            have HJN := hidS hjn
            have HMM := hidS (And.intro hm hle)
            clear hS9 hw9 or9 oi9 c5 cr hjn hm hle hI hpm HII
            simp only [Exit.then]
            gi_wp2_with ((first | refine ⟨trivial, fun _ => by omega, ?_⟩ | refine ⟨trivial, ?_⟩); gi_at_call 85; refine HWy.mono ?_; rintro en w10 ⟨rfl, hb10, hz10, b3, b1, b2⟩)
            obtain ⟨B1, hB1⟩ : ∃ B1, V9.heap.size = B1 := ⟨_, rfl⟩
            rw [hB1] at hb10 hz10 b1 b2 b3 ⊢
            have hS10 := HST9.out.1.below (by rw [hB1]; exact hb10)
            have hw10 : HpW w10 w.heap.size (w.heap.size + 1 + 1 + 1) g9 c9 Wp := HST9.out.2.1.kept (Kp.ofBelow (S := fun _ => False) (by rw [hB1]; exact hb10)) (fun q => q) (fun q => q)
            have or10 : Boxed w10 (ki + 1) 3 (.int .i64 r) := box_thru (by rw [hB1]; exact hb10) HST9.out.2.2
            have hrow := HST9.out.1.row HST9.out.2.1
            have hg9 : g9 < B1 := by
              obtain ⟨_, cur, ho⟩ := HST9.out.2.1.obj
              rw [← hB1]
              exact (Array.getElem?_eq_some_iff.1 ho).1
            have hkr : ki + 1 < B1 := by rw [← hB1]; exact HST9.out.2.2.lt
            have hkw9 := HST9.out.2.1.bx.lt
            rw [hB1] at hkw9
            have hDs : ∀ d ∈ Ds, d < B1 := fun d hd => by rw [← hB1]; exact (Array.getElem?_eq_some_iff.1 (HST9.out.1.ms.2 d hd).2).1
            have hb00 := hb0.size
            have hgd0 := (HST9.out.1.dp.lt gd rfl).1
            have hIn : InW w0 x (x + 1) kc (B1 + 1) (B1 + 2) B1 w10 := ⟨hS10.base hb0, b1, b2, b3⟩
            have hX : XwS w0 gd (w.heap.size + 1 + 1 + 1) w10 := ⟨⟨hgd0, by omega⟩, ⟨by omega, by omega⟩, g9, Wp.length, c9, hw10.bx, by omega, by omega⟩
            refine with_tmpsP fun T hT => ?_
            have HT := hidS hT
            clear hT
            refine range_outer (F := Fence.wide) rfl (by decide) (gf := 102) (lb := #[.pointer (some ⟨B1 + 1, 0, none⟩), .pointer (some ⟨B1 + 2, 0, none⟩), .pointer (some ⟨B1, 0, none⟩)]) (by rw [HT.out]; rfl) trivial (enters_of Tryz.func102 (by kernel_rfl) rfl)
              (seqW hC hll hG.fst hop (30 - 1) (by decide) x gd (w.heap.size + 1 + 1 + 1) (B1 + 1) (B1 + 2) B1 hxL w10 hX hIn) KeW_t (KeW_b (w := w10) (by omega) (by omega)) (Below.refl _ _) (fun _ => rfl)
              (RgI L J k w0 w gd cp (ki + 1) B1 m x D0 D Ds nd jd r)
              (fun c _ U => RgX L J k x w0 w gd cp Ds c U)
              (fun s A C row h hg hr => h.step hg (fun q e => ⟨fun d hd e2 => by have := hDs d hd; have := (hr q e).1; omega, by have := (hr q e).1; omega, (hr q e).2⟩))
              (fun c s A C row h hg hr => h.step hg (fun q e => ⟨fun d hd e2 => by have := hDs d hd; have := (hr q e).1; omega, by have := (hr q e).1; omega, (hr q e).2⟩))
              ⟨D, Wp, g9, c9, hS10, hw10, .inl hg9, HTk.out, or10, by have := HMM.out; omega, rfl⟩
              (fun y a' U => a' = { tmps := ((((#[63, 64] : Array Tmp).zip (#[.int .u32 (x : Int), .int .u32 (y : Int)] : Array Value)).foldl (fun t (p, v) => t.setIfInBounds p v) T).setIfInBounds 14 (.int .u32 (y : Int))), defers := [] })
              (fun y a' => Own.from (fun t A C row h hg hr => h) _)
              ?assign ?body ?done ?stop
            case assign =>
              intro l0 pre y U K hI hK
              have HF := hidS (fun a' (ha : _) => hK a' U (Upon.refl _ U) (KeW.refl _ _ _ _ _ _ _ _ _ U) hI ha)
              clear hK hI
              rw [HT.out]
              gi_wp2
              exact HF.out _ (by rw [HT.out]; simp)
            case body =>
              rintro l0 pre y a' U hl0 hrec hRI rfl hln hsp
              obtain ⟨E, Wu, gu, cu, hSu, hwu, hgu, hMu, oru, hmu, hEx⟩ := hRI
              have hyN : y ∈ nxt L J x := hsp.subset (by simp)
              have hin := nxt_in hG hk hxW2.1 hxW2.2.1 hyN
              have hyL : y < L.length := Nat.lt_of_lt_of_le hin.2 (bgs_end _)
              have hyE : y < E.length := by rw [hMu.len, HDl.out]; exact hyL
              have cdu := hSu.bd.cell
              rw [hMu.len] at cdu
              have cyu := DpW.cell hSu.dp hyE
              have cru := oru.cell
              have hyI : (y : Int) < (D0.length : Int) := by rw [HDl.out]; omega
              have hrx : restI (opL L x) (E.getD x (-1)) = r := by rw [hEx]; exact hrr
              have hkr5 : w.heap.size + 5 ≤ ki + 1 := by omega
              by_cases hn1 : E.getD y (-1) = -1
              · have fzu := DpW.thaw hSu.dp y
                have hS1 := hSu.dset y r
                have hrowu := hSu.row hwu
                have hw1 : HpW (U.setCell ⟨gd, y, none⟩ (.int .i64 r)) w.heap.size (w.heap.size + 1 + 1 + 1) gu cu Wu := hwu.kept (Kp.setCell (S := fun i => i = gd) _ _ _ rfl) (by show ¬ _ = gd; omega) (by show ¬ _ = gd; omega)
                have or1 : Boxed (U.setCell ⟨gd, y, none⟩ (.int .i64 r)) (ki + 1) 3 (.int .i64 r) := ((Kp.setCell (S := fun i => i = gd) U ⟨gd, y, none⟩ (.int .i64 r) rfl).block (ki + 1) oru.lt (by show ¬ _ = gd; omega)).trans oru
                have hgk : gu ≠ ki + 1 := fun q => by
                  obtain ⟨_, cur, ho⟩ := hwu.obj
                  have h2 : U.heap[ki + 1]? = _ := oru
                  rw [q, h2] at ho
                  cases ho
                have hUz : w10.heap.size ≤ U.heap.size := by
                  obtain ⟨rr, hrr⟩ := hrec
                  have := (Array.getElem?_eq_some_iff.1 hrr).1
                  omega
                have HPu := (callsIn_wide (n := 30 - 1 - 1 - 1)).2 (hpush_any y (U.setCell ⟨gd, y, none⟩ (.int .i64 r)) (by omega) (by have := hS1.kp.size; omega) hMu.ho hw1)
                have cbu := hS1.bb.cell
                have HU := hidS (And.intro hSu (And.intro hwu (And.intro hgu (And.intro hMu (And.intro hmu (And.intro hEx hS1))))))
                have HV := hidS (And.intro hw1 (And.intro or1 (And.intro hyN (And.intro hyE (And.intro hrowu (And.intro hin hrx))))))
                rw [hn1] at cyu
                have HN1 := hidS hn1
                clear hSu hwu hgu hMu hmu hEx hS1 hw1 or1 hyN hrowu hrec hsp hln hn1 oru hin hrx
                rw [HT.out]
                gi_wp2_with (refine ⟨trivial, ?_⟩; gi_at_call 86; refine (HPu.inRound l0).mono ?_; rintro en w12 ⟨⟨v12, rfl⟩, g2, c2, W2, hp2, ho2, hw2, hg2, hk2⟩; have HO2 := hidS ho2; clear ho2)
                obtain ⟨hSu, hwu, hgu, hMu, hmu, hEx, hS1⟩ := HU.out
                obtain ⟨hw1, or1, hyN, hyE, hrowu, hin, hrx⟩ := HV.out
                have hk12 : Kp (fun i => i = gd ∨ i = gu ∨ i = w.heap.size + 1 + 1 + 1) U w12 := ((Kp.setCell (S := fun i => i = gd) U ⟨gd, y, none⟩ (.int .i64 r) rfl).mono (fun _ _ q => .inl q)).trans hk2 (fun _ _ q => .inr q)
                have hS12 := hS1.upd hw1 hw2 hk2
                rw [World.size_setCell] at hg2
                have hnw := hMu.new hG hk HDl.out hyN HN1.out hp2 HO2.out
                rw [hrx] at hnw
                have hr0 := tk_rest hMu.tk
                rw [hrx] at hr0
                have hun := unr_set (e := bAt L (k + 1)) (Nat.le_of_lt hin.1) hin.2 hyE HN1.out hr0
                have hl2 := hp2.length_eq
                rw [List.length_cons] at hl2
                have hxy : x ≠ y := fun q => by
                  have h3 := hMu.ax.2.2
                  rw [q, HN1.out] at h3
                  omega
                refine ⟨upon_kp hk12 (fun i q => ?_), ke_kp hwu hS12 hw2 hk12 hg2 hb0 (fun bb q => by omega), E.set y r, W2, g2, c2, hS12, hw2, ?_, hnw, (hk2.block (ki + 1) or1.lt (fun q => by rcases q with q | q; exact hgk q.symm; omega)).trans or1, by omega, by rw [getD_set hyE, if_neg hxy]; exact hEx⟩
                · rcases q with q | q | q
                  · obtain ⟨cur, ho⟩ := DpW.obj hSu.dp
                    exact ⟨cur, _, _, by rw [q]; exact ho⟩
                  · obtain ⟨_, cur, ho⟩ := hwu.obj
                    exact ⟨cur, _, _, by rw [q]; exact ho⟩
                  · exact ⟨_, _, _, by rw [q]; exact hwu.bx⟩
                · rcases hg2 with q | q
                  · rw [q]; exact hgu
                  · right; omega
              · by_cases hr1 : E.getD y (-1) = r
                · have HU := hidS (And.intro hSu (And.intro hwu (And.intro hgu (And.intro (hMu.same hG hk hyN (hr1.trans hrx.symm)) (And.intro oru (And.intro hmu hEx))))))
                  rw [hr1] at cyu hn1
                  have hrB : (r == -1) = false := beq_eq_false_iff_ne.2 hn1
                  clear hSu hwu hgu hMu hmu hEx hyN hrec hsp hln hn1 oru hin hrx hr1
                  rw [HT.out]
                  gi_wp2
                  exact ⟨Upon.refl _ _, KeW.refl _ _ _ _ _ _ _ _ _ _, E, Wu, gu, cu, HU.out⟩
                · have HU : Hid (WkS w0 w gd cp 142 E Wu Ds (U.setCell ⟨w.heap.size + 1, 0, none⟩ (.int .i64 142)) ∧ FltP L J k x 142) := hidS ⟨hSu.err 142, hMu.bad hG hk hsp hn1 (by rw [hrx]; exact hr1)⟩
                  have ceu := hSu.be.cell
                  have feu := hSu.be.frozen
                  generalize E.getD y (-1) = dy at cyu hn1 hr1
                  have hB1 : (dy == -1) = false := beq_eq_false_iff_ne.2 hn1
                  have hB2 : (dy == r) = false := beq_eq_false_iff_ne.2 hr1
                  clear hSu hwu hgu hMu hmu hEx hyN hrec hsp hln hn1 oru hin hrx hr1
                  rw [HT.out]
                  gi_wp2
                  exact ⟨Upon.setCell _ _ _, rfl, E, Wu, HU.out⟩
            case done =>
              rintro Dm ys U hD hys hRI hd
              obtain rfl := HT.out
              obtain ⟨E, Wu, gu, cu, hSu, hwu, hgu, hMu, oru, hmu, hEx⟩ := hRI
              subst hys
              show Kr _ _
              refine HK.out.2 _ _ ⟨2 * unr E (bAt L k) (bAt L (k + 1)) + Wu.length, hmu, HK.out.1 _ _ _ ⟨E, Wu, Dm :: Ds, x, nd, jn, _, _, _, _, _, _, _, _, _, _, _, _, _, _, _, _, _, _, _, _, _, _, _, _, _, _, _, _, _, _, _, _, _, _, _, _, _, _, _, _, _, _, _, _, _, _, _, _, _, _, _, _, _, _, _, _, _, _, _, _, _, _, _, _, _, _, _, _, _, _, _, rfl, hSu.mark (by omega) (fun d hd e => by have := hDs d hd; omega) hd, hMu.fin hk ?_, rfl, by omega⟩⟩
              rw [hEx, hrr]
              exact HJN.out
            case stop =>
              rintro Dm c pre U hD hpre hRX hd
              obtain rfl := HT.out
              obtain ⟨rfl, E, Wu, hSu, hno⟩ := hRX
              refine wpIn_exit ?_
              show WkP L J k w0 w kc b gd cp D0 .normal _ _
              exact ⟨rfl, E, Wu, Dm :: Ds, 142, x, nd, jn, _, _, _, _, _, _, _, _, _, _, _, _, _, _, _, _, _, _, _, _, _, _, _, _, _, _, _, _, _, _, _, _, _, _, _, _, _, _, _, _, _, _, _, _, _, _, _, _, _, _, _, _, _, _, _, _, _, _, _, _, _, _, _, _, _, _, _, _, _, _, _, rfl, hSu.mark (by omega) (fun d hd e => by have := hDs d hd; omega) hd, .inr ⟨.inr (.inr (.inl rfl)), hxL, hno⟩⟩
          · subst hV9
            show Kr _ _
            refine HK.out.2 _ _ ⟨2 * unr D (bAt L k) (bAt L (k + 1)) + Wp.length, by omega, HK.out.1 _ _ _ ⟨D, Wp, Ds, x, nd, jn, _, _, _, _, _, _, _, _, _, _, _, _, _, _, _, _, _, _, _, _, _, _, _, _, _, _, _, _, _, _, _, _, _, _, _, _, _, _, _, _, _, _, _, _, _, _, _, _, _, _, _, _, _, _, _, _, _, _, _, _, _, _, _, _, _, _, _, _, _, _, _, rfl, hS9, HTk.out.skip hG hk h4 (hrr.trans hrj), rfl, by omega⟩⟩
      · have heI : ¬ (e : Int) = 0 := by omega
        have hno := hI.bad hpm HLS.out.1 (by rw [heq]; exact he0)
        rw [heq] at hno
        have hec : e = 140 ∨ e = 141 ∨ e = 142 ∨ e = 143 := by
          unfold tkE at heq
          split at heq
          · omega
          · split at heq
            · omega
            · split at heq <;> omega
        have HE := hidS (And.intro hec (And.intro hxL hno))
        clear hI hm hpm hec hno heq hrq hS8c or8c oi8
        gi_wp2
        exact ⟨rfl, D, Wp, Ds, e, x, need, jd, _, _, _, _, _, _, _, _, _, _, _, _, _, _, _, _, _, _, _, _, _, _, _, _, _, _, _, _, _, _, _, _, _, _, _, _, _, _, _, _, _, _, _, _, _, _, _, _, _, _, _, _, _, _, _, _, _, _, _, _, _, _, _, _, _, _, _, _, _, _, _, rfl, HS8.out, .inr HE.out⟩
  case after =>
    rintro e a V ⟨rfl, D, Wt, Ds, x, at_, need, jd, u11, u12, u13, u14, u21, u22, u23, u24, u25, u26, u27, u28, u29, u30, u31, u32, u33, u34, u35, u36, u37, u38, u39, u40, u41, u42, u43, u44, u45, u46, u47, u48, u49, u50, u51, u52, u53, u54, u55, u56, u57, u58, u59, u60, u61, u62, u63, u64, u65, u66, u67, u68, u69, u70, u71, u72, u73, u74, u75, u76, u77, u78, u79, u80, u81, u82, u83, u84, u85, u86, u87, rfl, hS, hR⟩
    have ce := hS.be.cell
    have fe := hS.be.frozen
    have HS := hidS hS
    rcases hR with ⟨rfl, hlD, hout, hfin⟩ | ⟨hx, hno⟩
    · have HF := hidS (And.intro hlD (And.intro hout hfin))
      clear hS hlD hout hfin
      simp only [Exit.then]
      gi_wp2
      show LeavesInM Fence.wide 30 Tryz.prog Tryz.f54 _ _ (mkD Ds) .returning _
      refine leaves_marks (fun W => WkE w w0 gd cp 0 D W) (fun d => w.heap.size ≤ d) (fun W hW => ?_) (fun W d hd hW ho => hW.put hd ho) Ds _ HS.out.ms.1 (fun d hd => ⟨(HS.out.ms.2 d hd).1, (Below.heap_setCell _ _ _ _ (HS.out.ne_err d hd)).trans (HS.out.ms.2 d hd).2⟩) (HS.out.wke.set 0)
      have c8 := hW.be.cell
      refine ⟨.tuple #[.int .i64 need, .int .u32 0, .int .i64 0], ?_, hW.kp, .inl ⟨need, D, rfl, hW.dp, HF.out.1.trans HDl.out, by rw [← HBQ.out]; exact HF.out.2.1, HF.out.2.2⟩⟩
      simp [results, Tryz.f54, go_sem, c8]
    · have hx0 : ¬ (x : Int) = 0 := by omega
      have HN := hidS (And.intro hx hno)
      clear hS hno hx
      simp only [Exit.then]
      gi_wp2
      refine wpIn_wide.2 ?_
      go_region
      gi_wp2
      show LeavesInM Fence.wide 30 Tryz.prog Tryz.f54 _ _ (mkD Ds) .returning _
      refine leaves_marks (fun W => WkE w w0 gd cp x D W) (fun d => w.heap.size ≤ d) (fun W hW => ?_) (fun W d hd hW ho => hW.put hd ho) Ds _ HS.out.ms.1 (fun d hd => ⟨(HS.out.ms.2 d hd).1, (Below.heap_setCell _ _ _ _ (HS.out.ne_err d hd)).trans (HS.out.ms.2 d hd).2⟩) ⟨(HS.out.wke.set x).kp.drewN 1, (HS.out.wke.set x).dp, (HS.out.wke.set x).be⟩
      have c8 := hW.be.cell
      refine ⟨.tuple #[.int .i64 0, .int .u32 at_, .int .i64 x], ?_, hW.kp, .inr ⟨at_, x, rfl, HN.out.1, HN.out.2⟩⟩
      simp [results, Tryz.f54, go_sem, c8]
end Go.Proofs.YtgbpfejodpplbaaGreatDoor
