import Derived.Test.YtnplimdcfbgpeaaDoorCOEm
import Derived.Test.YtnplimdcfbgpeaaDoorCOEc
import Derived.Test.YtnplimdcfbgpeaaDoorCLBase
namespace Go.Proofs.YtnplimdcfbgpeaaDoor
open Go.RowKit Go.WideShapes Go.Sort Go.Lib
set_option maxRecDepth 100000

theorem drw (w : World) (n m : Nat) : (w.drewN n).drewN m = w.drewN (n + m) := by
  simp [World.drewN, Nat.add_assoc]
theorem conv_rd {w : World} {ao : Option Addr} {zs : List Int} {B cap : Nat} (h : Reads w ao zs B) : (convert 24 9 (.slice ao zs.length cap)).run Tryd.prog w = .ok (.string (strOfNums zs)) w := by
  by_cases hp : 0 < zs.length
  · obtain ⟨b, off, rfl, _, hc⟩ := h hp
    exact run_convert_bytes_arg w 24 5 Tryd.underlying24 Tryd.underlying5 b off zs.length cap zs rfl hc 9 Tryd.underlying9
  · have h0 : zs = [] := List.eq_nil_of_length_eq_zero (by omega)
    subst h0
    rcases ao with _ | a
    · exact run_convert_bytes_nil w 24 5 Tryd.underlying24 Tryd.underlying5 0 cap 9 Tryd.underlying9
    · have hl : (loadCells a 0).run Tryd.prog w = .ok (([] : List Int).map (Value.int .u8)).toArray w := by
        have := run_loadCells_list (P := Tryd.prog) w a [] (fun j v hj => by simp at hj)
        simpa using this
      show (convert 24 9 (.slice (some a) 0 cap)).run Tryd.prog w = _
      rw [run_convert_bytes_string w 24 9 5 _ 0 cap Tryd.underlying24 Tryd.underlying5 Tryd.underlying9, run_bytesToString w _ 0 cap [] hl]
      rfl
theorem strN_inj {xs ys : List Int} (hx : ∀ z ∈ xs, 0 ≤ z ∧ z ≤ 255) (hy : ∀ z ∈ ys, 0 ≤ z ∧ z ≤ 255) (h : strOfNums xs = strOfNums ys) : xs = ys := by
  rw [← bzs_strN xs hx, ← bzs_strN ys hy, h]
theorem strN_eqb {xs ys : List Int} (hx : ∀ z ∈ xs, 0 ≤ z ∧ z ≤ 255) (hy : ∀ z ∈ ys, 0 ≤ z ∧ z ≤ 255) : ((strOfNums xs).toList == (strOfNums ys).toList) = decide (xs = ys) := by
  by_cases e : xs = ys
  · rw [e]; simp
  · rw [decide_eq_false e, beq_eq_false_iff_ne]
    intro h
    apply e
    refine strN_inj hx hy ?_
    have h2 : (strOfNums xs).data.toList = (strOfNums ys).data.toList := by
      rw [show (strOfNums xs).toList = (strOfNums xs).data.toList from (Lib.strOfNums_toList xs).trans rfl, show (strOfNums ys).toList = (strOfNums ys).data.toList from (Lib.strOfNums_toList ys).trans rfl] at h
      exact h
    have h3 := Array.toList_inj.1 h2
    cases hq : strOfNums xs
    cases hq2 : strOfNums ys
    rw [hq, hq2] at h3
    exact congrArg ByteArray.mk h3
theorem bequal_any (ao bo : Option Addr) (ca cb : Nat) (xs ys : List Int) (w : World) (hx : ∀ z ∈ xs, 0 ≤ z ∧ z ≤ 255) (hy : ∀ z ∈ ys, 0 ≤ z ∧ z ≤ 255) (h : Reads w ao xs w.heap.size) (h2 : Reads w bo ys w.heap.size) :
    Calls Tryd.prog 29 #[.slice ao xs.length ca, .slice bo ys.length cb] w fun e w' => e = .returned (.bool (decide (xs = ys))) ∧ w' = w := by
  have q1 := conv_rd (cap := ca) h
  have q2 := conv_rd (cap := cb) h2
  rw [← strN_eqb hx hy]
  generalize strOfNums xs = s1 at *
  generalize strOfNums ys = s2 at *
  clear h h2
  go_enter Tryd.func29, Tryd.ntmps29
  go_wp2
  go_ret
  exact ⟨rfl, rfl⟩
set_option maxHeartbeats 8000000 in
theorem same_true (I : Im) (ac aj ad an ac' aj' ad' an' : Option Addr) (cc cj cd cn cc' cj' cd' cn' : Nat) (w : World) (hb : ImB I) (hr : ImR w w.heap.size I ac aj ad an cd cn) (hr' : ImR w w.heap.size I ac' aj' ad' an' cd' cn') :
    Calls Tryd.prog 12 #[imV ac I.L.length cc aj I.J.length cj ad I.D.length cd I.z I.st an I.M.length cn, imV ac' I.L.length cc' aj' I.J.length cj' ad' I.D.length cd' I.z I.st an' I.M.length cn'] w fun e w' => e = .returned (.bool true) ∧ Below w.heap.size w w' := by
  obtain ⟨W0, hW0⟩ : ∃ W0, (w.alloc (.cells (imC ac I.L.length cc aj I.J.length cj ad I.D.length cd I.z I.st an I.M.length cn) 28)).alloc (.cells (imC ac' I.L.length cc' aj' I.J.length cj' ad' I.D.length cd' I.z I.st an' I.M.length cn') 28) = W0 := ⟨_, rfl⟩
  have b0 : Below w.heap.size w W0 := by rw [← hW0]; exact belS (belS (Below.refl _ _))
  have s0 : W0.heap.size = w.heap.size + 2 := by rw [← hW0]; simp
  have hA : W0.heap[w.heap.size]? = some (.cells (imC ac I.L.length cc aj I.J.length cj ad I.D.length cd I.z I.st an I.M.length cn) 28) := by
    rw [← hW0, Below.heap_alloc _ _ _ (by simp)]; exact heap_alloc_last w _
  have hB : W0.heap[w.heap.size + 1]? = some (.cells (imC ac' I.L.length cc' aj' I.J.length cj' ad' I.D.length cd' I.z I.st an' I.M.length cn') 28) := by
    have := heap_alloc_last (w.alloc (.cells (imC ac I.L.length cc aj I.J.length cj ad I.D.length cd I.z I.st an I.M.length cn) 28)) (.cells (imC ac' I.L.length cc' aj' I.J.length cj' ad' I.D.length cd' I.z I.st an' I.M.length cn') 28)
    rw [hW0] at this
    simpa using this
  have HD1 := hidS (conv_rd (cap := cd) (hr.dat.below b0))
  have HD2 := hidS (conv_rd (cap := cd') (hr'.dat.below b0))
  have HR := hidS (hr.below b0)
  have HR' := hidS (hr'.below b0)
  have HW0 := hidS hW0
  have HBM := hidS hb
  have HA := hidS hA
  have HB := hidS hB
  clear hr hr' hW0 hb hA hB
  have a0 := obj_cell HA.out 0
  have a1 := obj_cell HA.out 1
  have a2 := obj_cell HA.out 2
  have a3 := obj_cell HA.out 3
  have a4 := obj_cell HA.out 4
  have a5 := obj_cell HA.out 5
  have z0 := obj_cell HB.out 0
  have z1 := obj_cell HB.out 1
  have z2 := obj_cell HB.out 2
  have z3 := obj_cell HB.out 3
  have z4 := obj_cell HB.out 4
  have z5 := obj_cell HB.out 5
  simp only [List.getElem?_toArray, List.getElem?_cons_zero, List.getElem?_cons_succ] at a0 a1 a2 a3 a4 a5 z0 z1 z2 z3 z4 z5
  have q1 := HD1.out
  have q2 := HD2.out
  rw [← HW0.out] at q1 q2
  simp only [imC] at q1 q2
  generalize strOfNums I.D = sd at q1 q2
  have HX : Hid (∀ n i, (W0.drewN n).cell? ⟨w.heap.size, i, none⟩ = (imC ac I.L.length cc aj I.J.length cj ad I.D.length cd I.z I.st an I.M.length cn)[i]?) := hidS (fun n i => obj_cell HA.out i)
  have HY : Hid (∀ n i, (W0.drewN n).cell? ⟨w.heap.size + 1, i, none⟩ = (imC ac' I.L.length cc' aj' I.J.length cj' ad' I.D.length cd' I.z I.st an' I.M.length cn')[i]?) := hidS (fun n i => obj_cell HB.out i)
  clear a0 a1 a2 a3 a4 a5 z0 z1 z2 z3 z4 z5
  go_enter Tryd.func12, Tryd.ntmps12
  go_wp2_with (fail)
  rw [HW0.out]
  go_loopw [5] (fun i wr => ∃ k n : Nat, i = .int .i64 k ∧ k ≤ I.L.length ∧ wr = W0.drewN n) (fun i _ => I.L.length - (intOf i).toNat)
  case atStart => exact ⟨0, 0, rfl, Nat.zero_le _, rfl⟩
  case round =>
    clear q1 q2
    obtain ⟨k, n, rfl, hk, rfl⟩ := hrel
    have cx := HX.out n
    have cy := HY.out n
    have a0 := cx 0
    have z0 := cy 0
    simp only [List.getElem?_toArray, List.getElem?_cons_zero] at a0 z0
    have hLb := HBM.out.l
    by_cases hlt : k < I.L.length
    · have hltI : (k : Int) < (I.L.length : Int) := by omega
      obtain ⟨b, off, rfl, hb, hc⟩ := HR.out.code (by omega)
      obtain ⟨b', off', rfl, hb', hc'⟩ := HR'.out.code (by omega)
      have v0 : (W0.drewN n).cell? ⟨b, off + k * 2, none⟩ = _ := (hc k hlt).1
      have v1 : (W0.drewN n).cell? ⟨b, off + k * 2 + 1, none⟩ = _ := (hc k hlt).2
      have u0 : (W0.drewN n).cell? ⟨b', off' + k * 2, none⟩ = _ := (hc' k hlt).1
      have u1 : (W0.drewN n).cell? ⟨b', off' + k * 2 + 1, none⟩ = _ := (hc' k hlt).2
      generalize (I.L.getD k (0, 0)).1 = x at v0 u0
      generalize (I.L.getD k (0, 0)).2 = y at v1 u1
      generalize hW1 : W0.drewN n = W1 at *
      have HW1 := hidS hW1
      clear hc hc' hW1 cx cy
      go_wp2_with fail
      go_quiet (fail)
      go_wp2_with fail
      exact ⟨⟨k + 1, n + nq, by go_num, by omega, by rw [← HW1.out]; exact (drw W0 n nq)⟩, by simp [intOf]; omega⟩
    · have hltI : ¬ (k : Int) < (I.L.length : Int) := by omega
      clear cx cy
      go_wp2_with fail
      go_loopw [6] (fun i wr => ∃ k n : Nat, i = .int .i64 k ∧ k ≤ I.J.length ∧ wr = W0.drewN n) (fun i _ => I.J.length - (intOf i).toNat)
      case atStart => exact ⟨0, n, rfl, Nat.zero_le _, rfl⟩
      case round =>
        clear a0 z0 hltI hlt hk
        obtain ⟨k2, n2, rfl, hk2, rfl⟩ := hrel
        have cx := HX.out n2
        have cy := HY.out n2
        have a1 := cx 1
        have z1 := cy 1
        simp only [List.getElem?_toArray, List.getElem?_cons_zero, List.getElem?_cons_succ] at a1 z1
        have hJb := HBM.out.j
        by_cases hlt : k2 < I.J.length
        · have hltI : (k2 : Int) < (I.J.length : Int) := by omega
          obtain ⟨b, off, rfl, hb, hc⟩ := HR.out.jmp (by omega)
          obtain ⟨b', off', rfl, hb', hc'⟩ := HR'.out.jmp (by omega)
          have v0 : (W0.drewN n2).cell? ⟨b, off + k2, none⟩ = _ := hc k2 hlt
          have u0 : (W0.drewN n2).cell? ⟨b', off' + k2, none⟩ = _ := hc' k2 hlt
          generalize I.J.getD k2 0 = x at v0 u0
          generalize hW1 : W0.drewN n2 = W1 at *
          have HW1 := hidS hW1
          clear hc hc' hW1 cx cy
          go_wp2_with fail
          go_quiet (fail)
          go_wp2_with fail
          exact ⟨⟨k2 + 1, n2 + nq, by go_num, by omega, by rw [← HW1.out]; exact (drw W0 n2 nq)⟩, by simp [intOf]; omega⟩
        · have hltI : ¬ (k2 : Int) < (I.J.length : Int) := by omega
          clear cx cy
          go_wp2_with fail
          go_loopw [7] (fun i wr => ∃ k n : Nat, i = .int .i64 k ∧ k ≤ I.M.length ∧ wr = W0.drewN n) (fun i _ => I.M.length - (intOf i).toNat)
          case atStart => exact ⟨0, n2, rfl, Nat.zero_le _, rfl⟩
          case round =>
            clear a1 z1 hltI hlt hk2
            obtain ⟨k3, n3, rfl, hk3, rfl⟩ := hrel
            have cx := HX.out n3
            have cy := HY.out n3
            have a5 := cx 5
            have z5 := cy 5
            simp only [List.getElem?_toArray, List.getElem?_cons_zero, List.getElem?_cons_succ] at a5 z5
            have hMb := HBM.out.m
            by_cases hlt : k3 < I.M.length
            · have hltI : (k3 : Int) < (I.M.length : Int) := by omega
              obtain ⟨b, off, rfl, hb, hc⟩ := HR.out.nam (by omega)
              obtain ⟨b', off', rfl, hb', hc'⟩ := HR'.out.nam (by omega)
              have v0 : (W0.drewN n3).cell? ⟨b, off + k3 * 2, none⟩ = _ := (hc k3 hlt).1
              have v1 : (W0.drewN n3).cell? ⟨b, off + k3 * 2 + 1, none⟩ = _ := (hc k3 hlt).2
              have u0 : (W0.drewN n3).cell? ⟨b', off' + k3 * 2, none⟩ = _ := (hc' k3 hlt).1
              have u1 : (W0.drewN n3).cell? ⟨b', off' + k3 * 2 + 1, none⟩ = _ := (hc' k3 hlt).2
              generalize (I.M.getD k3 (.empty, 0)).1 = x at v0 u0
              generalize (I.M.getD k3 (.empty, 0)).2 = y at v1 u1
              generalize hW1 : W0.drewN n3 = W1 at *
              have HW1 := hidS hW1
              clear hc hc' hW1 cx cy
              go_wp2_with fail
              go_quiet (fail)
              go_wp2_with fail
              exact ⟨⟨k3 + 1, n3 + nq, by go_num, by omega, by rw [← HW1.out]; exact (drw W0 n3 nq)⟩, by simp [intOf]; omega⟩
            · have hltI : ¬ (k3 : Int) < (I.M.length : Int) := by omega
              clear cx cy
              go_wp2_with fail
              go_ret
              exact ⟨rfl, below_drewN b0 _⟩
end Go.Proofs.YtnplimdcfbgpeaaDoor
namespace Go.Proofs.YtnplimdcfbgpeaaDoor
open Go.RowKit Go.WideShapes Go.Sort Go.Lib
set_option maxRecDepth 100000

theorem ev_get2 (L : List (ByteArray × Nat)) : ∀ j, j < L.length → (ev L)[j * 2]? = some (.string (L.getD j (.empty, 0)).1) ∧ (ev L)[j * 2 + 1]? = some (.int .u32 ((L.getD j (.empty, 0)).2 : Nat)) := by
  induction L with
  | nil => intro j hj; simp at hj
  | cons p L ih =>
    intro j hj
    have e : ev (p :: L) = .string p.1 :: .int .u32 p.2 :: ev L := rfl
    cases j with
    | zero => rw [e]; exact ⟨rfl, rfl⟩
    | succ j =>
      have := ih j (by simpa using hj)
      rw [e, show (j + 1) * 2 = j * 2 + 1 + 1 by omega]
      simpa using this
/-- an image in memory of its own, as it is handed on -/
theorem ImO.form {B : Nat} {w : World} {I : Im} {v0 v1 v2 v5 : Value} (h : ImO B w I v0 v1 v2 v5) : ∃ (a0 a1 a2 a5 : Option Addr) (c0 c1 c2 c5 : Nat), v0 = .slice a0 I.L.length c0 ∧ v1 = .slice a1 I.J.length c1 ∧ v2 = .slice a2 I.D.length c2 ∧ v5 = .slice a5 I.M.length c5 ∧ ImR w w.heap.size I a0 a1 a2 a5 c2 c5 := by
  obtain ⟨a0, c0, rfl, _⟩ := own_cap2 h.code
  obtain ⟨a1, c1, rfl, _⟩ := own_cap2 h.jmp
  obtain ⟨a2, c2, rfl, h2⟩ := own_cap2 h.dat
  obtain ⟨a5, c5, rfl, h5⟩ := own_cap2 h.nam
  refine ⟨a0, a1, a2, a5, c0, c1, c2, c5, rfl, rfl, rfl, rfl, ⟨?_, ?_, ?_, ?_, h2, h5⟩⟩
  · intro hl
    obtain ⟨g, rfl⟩ := own_posM h.code hl
    refine ⟨g, 0, rfl, (h.code.lt g rfl).2, fun j hj => ?_⟩
    obtain ⟨e0, e1⟩ := cv_get I.L j hj
    have x0 := h.code.cells (g := g) rfl _ _ e0
    have x1 := h.code.cells (g := g) rfl _ _ e1
    rw [add_plain] at x0 x1
    exact ⟨x0, by rw [Nat.add_assoc]; exact x1⟩
  · intro hl
    obtain ⟨g, rfl⟩ := own_posM h.jmp hl
    refine ⟨g, 0, rfl, (h.jmp.lt g rfl).2, fun j hj => ?_⟩
    have x0 := h.jmp.cells (g := g) rfl j (.int .u32 (I.J.getD j 0 : Nat)) (by simp [bk, jI, List.getD_eq_getElem?_getD, hj])
    rw [add_plain] at x0
    exact x0
  · obtain ⟨a, c, e, hr⟩ := own_reads h.dat
    simp only [Value.slice.injEq, true_and] at e
    obtain ⟨rfl, rfl⟩ := e
    exact hr
  · intro hl
    obtain ⟨g, rfl⟩ := own_posM h.nam hl
    refine ⟨g, 0, rfl, (h.nam.lt g rfl).2, fun j hj => ?_⟩
    obtain ⟨e0, e1⟩ := ev_get2 I.M j hj
    have x0 := h.nam.cells (g := g) rfl _ _ e0
    have x1 := h.nam.cells (g := g) rfl _ _ e1
    rw [add_plain] at x0 x1
    exact ⟨x0, by rw [Nat.add_assoc]; exact x1⟩
theorem ImK.b {I : Im} (h : ImK I) : ImB I := by
  have h1 := h.len
  have h2 := h.jlen
  have h3 := h.room
  have h4 := namesOk_len h.nok
  exact ⟨by omega, by omega, by omega, by omega⟩
theorem encA_wf {I : Im} (h : ImK I) : ∀ z ∈ encA I, 0 ≤ z ∧ z ≤ 255 := wth_wf _ _ _ _ (enS_wf h 4)
theorem encode_told (I : Im) (ac aj ad an : Option Addr) (cc cj cd cn : Nat) (w : World) (hw : ImW I) (hb : ImB I) (hr : ImR w w.heap.size I ac aj ad an cd cn) (hg : Sg w) :
    Calls Tryd.prog 8 #[imV ac I.L.length cc aj I.J.length cj ad I.D.length cd I.z I.st an I.M.length cn] w fun e w' => EnQ w.heap.size I e w' ∧ Below w.heap.size w w' := by
  by_cases hk : ckI I = 0
  · exact encode_good I ac aj ad an cc cj cd cn w hb hr ((ckI_0 hw).1 hk) hg
  · exact encode_bad I ac aj ad an cc cj cd cn w hw hb hr hk
set_option maxHeartbeats 1000000 in
theorem size_told (I : Im) (ac aj ad an : Option Addr) (cc cj cd cn : Nat) (w : World) (hw : ImW I) (hb : ImB I) (hr : ImR w w.heap.size I ac aj ad an cd cn) (hg : Sg w) :
    Calls Tryd.prog 9 #[imV ac I.L.length cc aj I.J.length cj ad I.D.length cd I.z I.st an I.M.length cn] w fun e w' => e = .returned (.tuple #[.int .i64 (if ckI I = 0 then (encA I).length else 0 : Nat), .int .i64 (ckI I : Nat)]) ∧ Below w.heap.size w w' := by
  have b1 : Below w.heap.size w (w.alloc (.cells (imC ac I.L.length cc aj I.J.length cj ad I.D.length cd I.z I.st an I.M.length cn) 28)) := belS (Below.refl _ _)
  have hE := encode_told I ac aj ad an cc cj cd cn _ hw hb ((hr.below b1).mono b1.size) (hg.below b1)
  clear hr hw hg
  by_cases hk : ckI I = 0
  · rw [hk, if_pos rfl]
    have HK := hidS hk
    clear hk
    go_enter Tryd.func9, Tryd.ntmps9
    go_wp2_with fail
    with_reducible refine hE.mono ?_
    rintro e w2 ⟨hq, b2⟩
    have B2 := btS b1 b2
    clear hE
    rcases hq with ⟨_, v, rfl, own⟩ | ⟨hk, rfl⟩
    · obtain ⟨a, c, rfl, _⟩ := own_cap2 own
      clear own
      go_wp2_with fail
      refine bodyPost_ret (results_tmp2 rfl _ _ _) rfl ?_
      exact ⟨rfl, B2⟩
    · exact absurd HK.out hk
  · rw [if_neg hk]
    have HK := hidS hk
    clear hk
    go_enter Tryd.func9, Tryd.ntmps9
    go_wp2_with fail
    with_reducible refine hE.mono ?_
    rintro e w2 ⟨hq, b2⟩
    have B2 := btS b1 b2
    clear hE
    rcases hq with ⟨hk, v, rfl, own⟩ | ⟨_, rfl⟩
    · exact absurd hk HK.out
    · clear HK
      go_wp2_with fail
      refine bodyPost_ret (results_tmp2 rfl _ _ _) rfl ?_
      exact ⟨rfl, B2⟩
/-- what Canonical answers -/
def CaP (zs : List Int) (e : Ending) : Prop := (∃ I, ParR zs I ∧ e = .returned (.bool (decide (encA I = zs)))) ∨ ((∀ I, ¬ ParR zs I) ∧ e = .returned (.bool false))
set_option maxHeartbeats 2000000 in
theorem canon_told (ao : Option Addr) (cap : Nat) (zs : List Int) (w : World) (hcp : zs.length ≤ cap) (hwf : ∀ z ∈ zs, 0 ≤ z ∧ z ≤ 255) (hr : Reads w ao zs w.heap.size) (hg : Sg w) :
    Calls Tryd.prog 13 #[.slice ao zs.length cap] w fun e w' => CaP zs e ∧ Below w.heap.size w w' := by
  have hP := parse_told ao cap zs w hcp hwf hr hg
  have HR := hidS hr
  have HG := hidS hg
  have HWF := hidS hwf
  clear hr hg hwf
  go_enter Tryd.func13, Tryd.ntmps13
  go_wp2_with fail
  with_reducible refine hP.mono ?_
  rintro e w1 ⟨hq, b1⟩
  clear hP
  have hA1 := heap_alloc_last w1 (.cells #[.slice none 0 0, .slice none 0 0, .slice none 0 0, .int .u32 0, .int .u32 0, .slice none 0 0] 28)
  rcases hq with ⟨at_, er, rfl, her, hno⟩ | ⟨v0, v1, v2, v5, I, rfl, hpar, hown⟩
  · have her' : (er == 0) = false := by rw [beq_eq_false_iff_ne]; exact her
    have HNO := hidS hno
    clear hno her
    go_wp2_with fail
    go_ret
    exact ⟨.inr ⟨HNO.out, rfl⟩, by first | exact belS b1 | exact below_setRow (belS b1) b1.size _⟩
  · obtain ⟨a0, a1, a2, a5, c0, c1, c2, c5, rfl, rfl, rfl, rfl, hir⟩ := hown.form
    have hk := par_k HWF.out hpar
    obtain ⟨W1, hW1⟩ : ∃ W1, (w1.alloc (.cells #[.slice none 0 0, .slice none 0 0, .slice none 0 0, .int .u32 0, .int .u32 0, .slice none 0 0] 28)).setRow w1.heap.size (imC a0 I.L.length c0 a1 I.J.length c1 a2 I.D.length c2 I.z I.st a5 I.M.length c5) = W1 := ⟨_, rfl⟩
    have bW : Below w1.heap.size w1 W1 := by rw [← hW1]; exact below_setRow (belS (Below.refl _ _)) (Nat.le_refl _) _
    have hWb : W1.heap[w1.heap.size]? = some (.cells (imC a0 I.L.length c0 a1 I.J.length c1 a2 I.D.length c2 I.z I.st a5 I.M.length c5) 28) := by rw [← hW1]; exact setRow_heap _ w1.heap.size _ _ _ _ hA1
    have BW := btS b1 bW
    have hE := encode_told I a0 a1 a2 a5 c0 c1 c2 c5 W1 hk.w hk.b ((hir.below bW).mono bW.size) (HG.out.below BW)
    have HW1 := hidS hW1
    have HPAR := hidS hpar
    have HK := hidS hk
    have x0 := obj_cell hWb 0
    have x1 := obj_cell hWb 1
    have x2 := obj_cell hWb 2
    have x3 := obj_cell hWb 3
    have x4 := obj_cell hWb 4
    have x5 := obj_cell hWb 5
    simp only [List.getElem?_toArray, List.getElem?_cons_zero, List.getElem?_cons_succ] at x0 x1 x2 x3 x4 x5
    clear hW1 hpar hk hown hir hWb
    go_wp2_with (refine wpList_store_row rfl _ _ _ rfl w1.heap.size _ (imC a0 I.L.length c0 a1 I.J.length c1 a2 I.D.length c2 I.z I.st a5 I.M.length c5) rfl rfl hA1 (by rw [infoI6]; rfl) rfl (i6_all rfl rfl rfl rfl rfl rfl) ?_; rw [HW1.out])
    with_reducible refine hE.mono ?_
    rintro e w2 ⟨hq, b2⟩
    have B2 := btS BW b2
    rcases hq with ⟨_, v, rfl, own⟩ | ⟨hk, rfl⟩
    · obtain ⟨ar, cr, rfl, hrd⟩ := own_reads own
      have hEq := bequal_any ar ao cr cap (encA I) zs w2 (encA_wf HK.out) HWF.out hrd ((HR.out.below B2).mono B2.size)
      have HANS : Hid (CaP zs (.returned (.bool (decide (encA I = zs))))) := hidS (.inl ⟨I, HPAR.out, rfl⟩)
      generalize decide (encA I = zs) = ans at *
      generalize (encA I).length = n at *
      clear own hE hrd x0 x1 x2 x3 x4 x5
      go_wp2_with fail
      with_reducible refine hEq.mono ?_
      rintro e wq ⟨rfl, hq⟩
      subst wq
      go_wp2_with fail
      go_ret
      exact ⟨HANS.out, B2⟩
    · exact absurd ((ckI_0 HK.out.w).2 HK.out) hk
end Go.Proofs.YtnplimdcfbgpeaaDoor
