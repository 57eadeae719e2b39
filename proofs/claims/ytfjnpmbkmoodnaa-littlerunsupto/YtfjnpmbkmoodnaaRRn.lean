import Derived.Test.YtfjnpmbkmoodnaaRRg
namespace Go.Proofs.Ytfjnpmbkmoodnaa
open Go.RowKit Go.WideShapes
set_option maxRecDepth 100000
theorem hidR {p : Prop} (h : p) : Hid p := h
/-- all but one block lies as it lay -/
structure Bx (w : World) (rb : Nat) (w' : World) : Prop where
  os : w'.os = w.os
  tape : w'.tape = w.tape
  output : w'.output = w.output
  size : w.heap.size ≤ w'.heap.size
  block : ∀ b, b < w.heap.size → b ≠ rb → w'.heap[b]? = w.heap[b]?
theorem Bx.refl (w : World) (rb : Nat) : Bx w rb w := ⟨rfl, rfl, rfl, Nat.le_refl _, fun _ _ _ => rfl⟩
theorem Bx.drew {w w' : World} {rb : Nat} (h : Bx w rb w') (n : Nat) : Bx w rb (w'.drewN n) := ⟨h.os, h.tape, h.output, h.size, h.block⟩
theorem Bx.below {w w' : World} {rb B : Nat} (h : Bx w rb w') (hB : B ≤ w.heap.size) (hr : B ≤ rb) : Below B w w' :=
  ⟨h.os, h.tape, h.output, h.size, fun b hb => h.block b (by omega) (by omega)⟩
theorem Bx.own {w w' : World} {rb B e s n : Nat} {v : Value} {xs : List Value} (h : Bx w rb w') (ho : w.ownsRow B e s v n xs) (hne : v.ownBlock ≠ some rb) : w'.ownsRow B e s v n xs := by
  have hl := ho.lt
  refine ⟨ho.1, ?_⟩
  rcases ho.2 with ⟨a, b⟩ | ⟨g, cap, cur, a, b, c, d⟩
  · exact .inl ⟨a, b⟩
  · have hv : v.ownBlock = some g := by rw [a]; rfl
    refine .inr ⟨g, cap, cur, a, b, ?_, d⟩
    rw [h.block g (hl g hv).2 (fun e => hne (by rw [hv, e]))]; exact c
theorem runs_bx {w w' : World} {B : Nat} {v : Value} {T : List Tr} {o : Obj} (h : OwnRuns w B v T) (hb : Bx (w.alloc o) w.heap.size w') : OwnRuns w' B v T := by
  refine ⟨hb.own (h.row.alloc o) (fun e => ?_), fun t ht => hb.own ((h.each t ht).alloc o) (fun e => ?_), h.ap⟩
  · have := (h.row.lt _ e).2; omega
  · have := ((h.each t ht).lt _ e).2; omega
set_option maxHeartbeats 8000000 in
theorem rruns_any (ao bo : Option Addr) (ca cb : Nat) (xs ys : List Int) (w : World) (n : Nat) (hx : xs.length = n) (hy : ys.length = n) (hn : n ≤ 1048576) (hrx : Reads w ao xs w.heap.size) (hry : Reads w bo ys w.heap.size) :
    Calls Try.prog 10 #[.slice ao n ca, .slice bo n cb] w fun e w' => ∃ v T, e = .returned (.tuple #[v, .int .i64 0]) ∧ OwnRuns w' w.heap.size v T ∧ T.map trun = rnx 0 xs ys ∧ T.length ≤ n ∧ Below w.heap.size w w' := by
  obtain ⟨i0, hi, hz0, hz1, hz2⟩ := info_parts Try.infoR
  have HX : Hid (xs.length = n) := hx
  have HY : Hid (ys.length = n) := hy
  have HRx : Hid (Reads w ao xs w.heap.size) := hrx
  have HRy : Hid (Reads w bo ys w.heap.size) := hry
  clear hx hy hrx hry
  go_enter Try.func10, Try.ntmps10
  go_wp2_with fail
  go_loopw [6, 7] (fun v i wr => ∃ (k : Nat) (T : List Tr), k ≤ n ∧ i = .int .i64 k ∧ OwnRuns wr w.heap.size v T ∧ T.map trun ++ rnx k (xs.drop k) (ys.drop k) = rnx 0 xs ys ∧ T.length ≤ k ∧ Below w.heap.size w wr) (fun _ i _ => n - (intOf i).toNat)
  case atStart => exact ⟨0, [], Nat.zero_le _, rfl, ⟨World.ownsRow_nil _ _ _ _, by simp, List.Pairwise.nil⟩, rfl, Nat.zero_le _, Below.refl _ _⟩
  case round =>
    obtain ⟨k, T, hk, rfl, hown, hrn, hTk, hb⟩ := hrel
    have HR : Hid (T.map trun ++ rnx k (xs.drop k) (ys.drop k) = rnx 0 xs ys) := hrn
    have HO : Hid (OwnRuns wr w.heap.size u6 T) := hown
    have HB : Hid (Below w.heap.size w wr) := hb
    clear hrn hown
    have hB := hb.size
    by_cases hlt : k < n
    · have hltI : (k : Int) < (n : Int) := by omega
      obtain ⟨b, off, rfl, hbl, hc⟩ := HRx.out (by rw [HX.out]; omega)
      obtain ⟨b2, off2, rfl, hbl2, hc2⟩ := HRy.out (by rw [HY.out]; omega)
      have HC : Hid (∀ j, j < n → w.cell? ⟨b, off + j, none⟩ = some (.int .u8 (xs.getD j 0)) ∧ w.cell? ⟨b2, off2 + j, none⟩ = some (.int .u8 (ys.getD j 0))) := fun j hj => ⟨hc j (by rw [HX.out]; exact hj), hc2 j (by rw [HY.out]; exact hj)⟩
      have x0 := (hb.cell (p := ⟨b, off + k, none⟩) hbl).trans (HC.out k hlt).1
      have y0 := (hb.cell (p := ⟨b2, off2 + k, none⟩) hbl2).trans (HC.out k hlt).2
      clear hc hc2 hb
      by_cases hee : xs.getD k 0 = ys.getD k 0
      · have HN : Hid (T.map trun ++ rnx (k + 1) (xs.drop (k + 1)) (ys.drop (k + 1)) = rnx 0 xs ys) := by rw [← rnx_skip k xs ys (by rw [HX.out]; omega) (by rw [HY.out]; omega) hee]; exact HR.out
        rw [hee] at x0
        generalize ys.getD k 0 = c at x0 y0
        clear hee HR
        go_wp2_with fail
        go_quiet (fail)
        go_wp2_with fail
        go_roundw
        case rel => exact ⟨k + 1, T, by omega, by go_num, HO.out.kept (below_drewN (Below.refl _ _) nq), HN.out, by omega, below_drewN HB.out nq⟩
        case measure => simp [intOf]; omega
      · have HKK : Hid (¬ xs.getD k 0 = ys.getD k 0) := hee
        obtain ⟨c1, hc1⟩ : ∃ c1, c1 = xs.getD k 0 := ⟨_, rfl⟩
        obtain ⟨c2, hc2⟩ : ∃ c2, c2 = ys.getD k 0 := ⟨_, rfl⟩
        rw [← hc1] at x0
        rw [← hc2] at y0
        have hbe : (c1 == c2) = false := by rw [beq_eq_false_iff_ne, hc1, hc2]; exact hee
        have hbi : ¬ c1 = c2 := by rw [hc1, hc2]; exact hee
        have hwk : IntKind.u32.wrap (k : Int) = (k : Int) := by rw [IntKind.wrap_u32]; omega
        clear hc1 hc2 hee
        go_wp2_with fail
        go_quiet (fail)
        have HO1 := hidR (HO.out.kept (below_drewN (Below.refl _ _) nq))
        have HB1 := hidR (below_drewN HB.out nq)
        clear x0 y0 HO HB hB hbe hbi
        generalize wr.drewN nq = wq at *
        have hBq := HB1.out.size
        go_wp2_with fail
        go_loopw [7] (fun i wi => ∃ (e : Nat) (lv : Value), k ≤ e ∧ e ≤ n ∧ i = .int .i64 e ∧ Bx (wq.alloc (.cells #[.int .u32 (k : Int), .slice none 0 0] 48)) wq.heap.size wi ∧ wi.heap[wq.heap.size]? = some (.cells #[.int .u32 (k : Int), lv] 48) ∧ wi.ownsRow (wq.heap.size + 1) 5 1 lv (e - k) (bv ((ys.drop k).take (e - k))) ∧ dif (xs.drop k) (ys.drop k) = (e - k) + dif (xs.drop e) (ys.drop e)) (fun i _ => n - (intOf i).toNat)
        case atStart => exact ⟨k, .slice none 0 0, Nat.le_refl _, hk, rfl, Bx.refl _ _, heap_alloc_new wq _, by rw [Nat.sub_self]; exact World.ownsRow_nil _ _ _ _, by omega⟩
        case round =>
          obtain ⟨e, lv, hke, hen, rfl, hbx, hob, hrow, hdf⟩ := hrel
          have hbi : Below w.heap.size w wr := (HB1.out.alloc hBq _).trans (hbx.below (by simp; omega) hBq)
          have hszr : wq.heap.size + 1 ≤ wr.heap.size := by have := hbx.size; simp at this; exact this
          by_cases hlt2 : e < n
          · have hltI2 : (e : Int) < (n : Int) := by omega
            have x0 := (hbi.cell (p := ⟨b, off + e, none⟩) hbl).trans (HC.out e hlt2).1
            have y0 := (hbi.cell (p := ⟨b2, off2 + e, none⟩) hbl2).trans (HC.out e hlt2).2
            by_cases hee : xs.getD e 0 = ys.getD e 0
            · have hdk : dif (xs.drop k) (ys.drop k) = e - k := by rw [hdf, dif_skip e xs ys (by rw [HX.out]; omega) (by rw [HY.out]; omega) hee]; omega
              have hek : k < e := by
                rcases Nat.lt_or_ge k e with h | h
                · exact h
                · have : e = k := by omega
                  subst this
                  exact absurd hee HKK.out
              rw [hee] at x0
              generalize ys.getD e 0 = c at x0 y0
              clear hee
              obtain ⟨g, cg, rfl, hcg⟩ := own_form hrow (by omega)
              have HRn : Hid ((T ++ [(k, Value.slice (some ⟨g, 0, none⟩) (e - k) cg, (ys.drop k).take (e - k))]).map trun ++ rnx e (xs.drop e) (ys.drop e) = rnx 0 xs ys) := by
                rw [List.map_append, List.append_assoc]
                show T.map trun ++ ((k, (ys.drop k).take (e - k)) :: rnx e (xs.drop e) (ys.drop e)) = _
                have := rnx_take k (e - k) xs ys (by rw [HX.out]; omega) (by rw [HY.out]; omega) HKK.out hdk
                rw [show k + (e - k) = e by omega] at this
                rw [← this]; exact HR.out
              have hlb : ((ys.drop k).take (e - k)).length = e - k := by rw [List.length_take, List.length_drop, HY.out]; omega
              have HO2 := hidR (runs_bx HO1.out hbx)
              have HAp : Hid (∀ s ∈ T, s.2.1.ownBlock = none ∨ s.2.1.ownBlock ≠ (Value.slice (some ⟨g, 0, none⟩) (e - k) cg).ownBlock) := fun s hs => later_ap (HO1.out.each s hs) hrow (by omega)
              have HR2 : Hid (wr.ownsRow w.heap.size 5 1 (.slice (some ⟨g, 0, none⟩) (e - k) cg) (e - k) (bv ((ys.drop k).take (e - k)))) := own_mono hrow (by omega)
              have HB2 := hidR hbi
              have hB2 := hbi.size
              have z0 : wr.cell? ⟨wq.heap.size, 0, none⟩ = some (.int .u32 (k : Int)) := obj_cell hob 0
              have z1 : wr.cell? ⟨wq.heap.size, 1, none⟩ = some (.slice (some ⟨g, 0, none⟩) (e - k) cg) := obj_cell hob 1
              clear hbx hob hrow hdf hbi
              go_wp2_with fail
              go_quiet (fail)
              have HO3 := hidR (HO2.out.kept (below_drewN (Below.refl _ _) nq))
              have HR3 := hidR (own_below HR2.out (below_drewN (Below.refl _ _) nq))
              have HB3 := hidR (below_drewN HB2.out nq)
              have z2 : (wr.drewN nq).cell? ⟨wq.heap.size, 0, none⟩ = some (.int .u32 (k : Int)) := z0
              have z3 : (wr.drewN nq).cell? ⟨wq.heap.size, 1, none⟩ = some (.slice (some ⟨g, 0, none⟩) (e - k) cg) := z1
              clear x0 y0 z0 z1 HO2 HR2 HB2
              generalize wr.drewN nq = wz at *
              have hB3 := HB3.out.size
              go_wp2_with (at_builtin; refine wpList_append_own _ rfl _ _ 27 rfl w.heap.size 48 i0 (.agg #[.int .u32 0, .slice none 0 0]) 2 32 Try.underlying27 hi hz0 hz1 hz2 rfl (by decide) _ T.length (tcells T) rfl (HO3.out.row.alloc _) ⟨_, 0, none⟩ 1 1 [.int .u32 (k : Int), .slice (some ⟨g, 0, none⟩) (e - k) cg] rfl rfl ?c1 ?c2 ?c3 ?c4 ?c5 ?_)
              case c1 =>
                intro j u hj
                match j, hj with
                | 0, hj => simp at hj; subst hj; simp [Addr.add]
                | 1, hj => simp at hj; subst hj; simp [Addr.add]
                | (j + 2), hj => simp at hj
              case c2 => intro u hu; simp at hu; rcases hu with rfl | rfl <;> rfl
              case c3 => unfold maxLen; omega
              case c4 => omega
              case c5 => simp; omega
              intro v' w5 hown' hgrow _
              have R1 : Hid (OwnRuns w5 w.heap.size v' (T ++ [(k, Value.slice (some ⟨g, 0, none⟩) (e - k) cg, (ys.drop k).take (e - k))])) := by
                refine ⟨by rw [List.length_append, tcells_snoc]; exact hown', fun t ht => ?_, ap_snocR HO3.out.ap HAp.out⟩
                rcases List.mem_append.1 ht with ht | ht
                · exact ((HO3.out.each t ht).alloc _).kept hgrow (rows_apart (HO3.out.each t ht) HO3.out.row)
                · rw [List.mem_singleton] at ht
                  subst ht
                  show World.ownsRow _ _ _ _ _ ((ys.drop k).take (e - k)).length _
                  rw [hlb]
                  exact (HR3.out.alloc _).kept hgrow (rows_apart HR3.out HO3.out.row)
              have R2 := hidR (grown_below HB3.out HB3.out.size HO3.out.row hgrow)
              clear hown' hgrow HO3 HR3
              go_wp2_with fail
              go_roundw
              case rel => exact ⟨e, _, by omega, rfl, R1.out, HRn.out, by rw [List.length_append]; simp; omega, R2.out⟩
              case measure => simp [intOf]; omega
            · have hda := dif_step e xs ys (by rw [HX.out]; omega) (by rw [HY.out]; omega) hee
              obtain ⟨c1, hc1⟩ : ∃ c1, c1 = xs.getD e 0 := ⟨_, rfl⟩
              obtain ⟨c2, hc2⟩ : ∃ c2, c2 = ys.getD e 0 := ⟨_, rfl⟩
              rw [← hc1] at x0
              rw [← hc2] at y0
              have hbe : (c1 == c2) = false := by rw [beq_eq_false_iff_ne, hc1, hc2]; exact hee
              have hbn : (c1 != c2) = true := by simp [bne, hbe]
              have hbi2 : ¬ c1 = c2 := by rw [hc1, hc2]; exact hee
              have HTk : Hid ((ys.drop k).take (e + 1 - k) = (ys.drop k).take (e - k) ++ [c2]) := by
                rw [hc2, show e + 1 - k = (e - k) + 1 by omega]
                have h2 : (ys.drop k)[e - k]? = some (ys.getD e 0) := by
                  rw [List.getElem?_drop, show k + (e - k) = e by omega]
                  simp [List.getD_eq_getElem?_getD, show e < ys.length by rw [HY.out]; exact hlt2]
                rw [List.take_add_one, h2]
                rfl
              have HDf : Hid (dif (xs.drop k) (ys.drop k) = (e + 1 - k) + dif (xs.drop (e + 1)) (ys.drop (e + 1))) := by show _ = _; rw [hdf, hda]; omega
              have HBx := hidR hbx
              have HOb := hidR hob
              have HRw := hidR hrow
              have HBi := hidR hbi
              clear hc1 hc2 hee hdf hda hbx hob hrow hbi
              go_wp2_with fail
              go_quiet (fail)
              have HBx2 := hidR (HBx.out.drew nq)
              have HOb2 : Hid ((wr.drewN nq).heap[wq.heap.size]? = some (.cells #[.int .u32 (k : Int), lv] 48)) := HOb.out
              have HRw2 := hidR (own_below HRw.out (below_drewN (Below.refl _ _) nq))
              have HY2 : Hid ((wr.drewN nq).cell? ⟨b2, off2 + e, none⟩ = some (.int .u8 c2)) := y0
              have hsz2 : wq.heap.size + 1 ≤ (wr.drewN nq).heap.size := hszr
              clear x0 y0 HBx HOb HRw HBi hszr
              generalize wr.drewN nq = wz at *
              go_wp2_with fail
              refine (wpIn_wide (n := 1)).1 ?_
              refine rr_lay (wq.heap.size + 1) wq.heap.size b2 off2 e n cb (e - k) c2 (k : Int) lv (bv ((ys.drop k).take (e - k))) (by omega) hsz2 hltI2 (by omega) (by omega) HOb2.out HY2.out HRw2.out (by omega) (by omega) (by rintro c a (_ | d) v w h <;> exact h) ?_
              intro lv' w5 own5 hob5 hsz5 hblk5 hos htp hou
              have HN5 : Hid (Bx (wq.alloc (.cells #[.int .u32 (k : Int), .slice none 0 0] 48)) wq.heap.size w5 ∧ w5.heap[wq.heap.size]? = some (.cells #[.int .u32 (k : Int), lv'] 48) ∧ w5.ownsRow (wq.heap.size + 1) 5 1 lv' (e + 1 - k) (bv ((ys.drop k).take (e + 1 - k)))) := by
                refine ⟨⟨hos.trans HBx2.out.os, htp.trans HBx2.out.tape, hou.trans HBx2.out.output, Nat.le_trans HBx2.out.size hsz5, fun b' hb' hne' => ?_⟩, hob5, ?_⟩
                · have hb1 : b' < wz.heap.size := Nat.lt_of_lt_of_le hb' HBx2.out.size
                  rw [hblk5 b' hb1 hne' (fun e' => by have := (HRw2.out.lt b' e').1; simp at hb'; omega)]
                  exact HBx2.out.block b' hb' hne'
                · rw [HTk.out, show e + 1 - k = e - k + 1 by omega]
                  simpa [bv] using own5
              clear own5 hob5 hsz5 hblk5 hos htp hou HBx2 HOb2 HRw2 HY2 hsz2
              go_wp2_with fail
              go_roundw
              case rel => exact ⟨e + 1, lv', by omega, by omega, by go_num, HN5.out.1, HN5.out.2.1, HN5.out.2.2, HDf.out⟩
              case measure => simp [intOf]; omega
          · have hen2 : e = n := by omega
            subst hen2
            have hek : k < e := by omega
            have hdk : dif (xs.drop k) (ys.drop k) = e - k := by
              rw [hdf, List.drop_of_length_le (show xs.length ≤ e by rw [HX.out]; omega)]
              show e - k + 0 = e - k
              omega
            obtain ⟨g, cg, rfl, hcg⟩ := own_form hrow (by omega)
            have HRn : Hid ((T ++ [(k, Value.slice (some ⟨g, 0, none⟩) (e - k) cg, (ys.drop k).take (e - k))]).map trun ++ rnx e (xs.drop e) (ys.drop e) = rnx 0 xs ys) := by
              rw [List.map_append, List.append_assoc]
              show T.map trun ++ ((k, (ys.drop k).take (e - k)) :: rnx e (xs.drop e) (ys.drop e)) = _
              have := rnx_take k (e - k) xs ys (by rw [HX.out]; omega) (by rw [HY.out]; omega) HKK.out hdk
              rw [show k + (e - k) = e by omega] at this
              rw [← this]; exact HR.out
            have hlb : ((ys.drop k).take (e - k)).length = e - k := by rw [List.length_take, List.length_drop, HY.out]; omega
            have HO2 := hidR (runs_bx HO1.out hbx)
            have HAp : Hid (∀ s ∈ T, s.2.1.ownBlock = none ∨ s.2.1.ownBlock ≠ (Value.slice (some ⟨g, 0, none⟩) (e - k) cg).ownBlock) := fun s hs => later_ap (HO1.out.each s hs) hrow (by omega)
            have HR2 : Hid (wr.ownsRow w.heap.size 5 1 (.slice (some ⟨g, 0, none⟩) (e - k) cg) (e - k) (bv ((ys.drop k).take (e - k)))) := own_mono hrow (by omega)
            have HB2 := hidR hbi
            have hB2 := hbi.size
            have z0 : wr.cell? ⟨wq.heap.size, 0, none⟩ = some (.int .u32 (k : Int)) := obj_cell hob 0
            have z1 : wr.cell? ⟨wq.heap.size, 1, none⟩ = some (.slice (some ⟨g, 0, none⟩) (e - k) cg) := obj_cell hob 1
            clear hbx hob hrow hdf hbi
            go_wp2_with fail
            go_quiet (fail)
            have HO3 := hidR (HO2.out.kept (below_drewN (Below.refl _ _) nq))
            have HR3 := hidR (own_below HR2.out (below_drewN (Below.refl _ _) nq))
            have HB3 := hidR (below_drewN HB2.out nq)
            have z2 : (wr.drewN nq).cell? ⟨wq.heap.size, 0, none⟩ = some (.int .u32 (k : Int)) := z0
            have z3 : (wr.drewN nq).cell? ⟨wq.heap.size, 1, none⟩ = some (.slice (some ⟨g, 0, none⟩) (e - k) cg) := z1
            clear z0 z1 HO2 HR2 HB2
            generalize wr.drewN nq = wz at *
            have hB3 := HB3.out.size
            go_wp2_with (at_builtin; refine wpList_append_own _ rfl _ _ 27 rfl w.heap.size 48 i0 (.agg #[.int .u32 0, .slice none 0 0]) 2 32 Try.underlying27 hi hz0 hz1 hz2 rfl (by decide) _ T.length (tcells T) rfl (HO3.out.row.alloc _) ⟨_, 0, none⟩ 1 1 [.int .u32 (k : Int), .slice (some ⟨g, 0, none⟩) (e - k) cg] rfl rfl ?c1 ?c2 ?c3 ?c4 ?c5 ?_)
            case c1 =>
              intro j u hj
              match j, hj with
              | 0, hj => simp at hj; subst hj; simp [Addr.add]
              | 1, hj => simp at hj; subst hj; simp [Addr.add]
              | (j + 2), hj => simp at hj
            case c2 => intro u hu; simp at hu; rcases hu with rfl | rfl <;> rfl
            case c3 => unfold maxLen; omega
            case c4 => omega
            case c5 => simp; omega
            intro v' w5 hown' hgrow _
            have R1 : Hid (OwnRuns w5 w.heap.size v' (T ++ [(k, Value.slice (some ⟨g, 0, none⟩) (e - k) cg, (ys.drop k).take (e - k))])) := by
              refine ⟨by rw [List.length_append, tcells_snoc]; exact hown', fun t ht => ?_, ap_snocR HO3.out.ap HAp.out⟩
              rcases List.mem_append.1 ht with ht | ht
              · exact ((HO3.out.each t ht).alloc _).kept hgrow (rows_apart (HO3.out.each t ht) HO3.out.row)
              · rw [List.mem_singleton] at ht
                subst ht
                show World.ownsRow _ _ _ _ _ ((ys.drop k).take (e - k)).length _
                rw [hlb]
                exact (HR3.out.alloc _).kept hgrow (rows_apart HR3.out HO3.out.row)
            have R2 := hidR (grown_below HB3.out HB3.out.size HO3.out.row hgrow)
            clear hown' hgrow HO3 HR3
            go_wp2_with fail
            go_roundw
            case rel => exact ⟨e, _, by omega, rfl, R1.out, HRn.out, by rw [List.length_append]; simp; omega, R2.out⟩
            case measure => simp [intOf]; omega
    · have hkn : k = n := by omega
      subst hkn
      have hltI : ¬ (k : Int) < (k : Int) := by omega
      have HN : Hid (T.map trun = rnx 0 xs ys) := by
        have := HR.out
        rw [List.drop_of_length_le (show xs.length ≤ k by rw [HX.out]; exact Nat.le_refl _)] at this
        rw [show rnx k [] (ys.drop k) = [] from rfl, List.append_nil] at this
        exact this
      clear hb
      go_wp2_with fail
      refine bodyPost_ret (results_tmp2 rfl _ _ _) rfl ?_
      exact ⟨_, rfl, T, HO.out, HN.out, hTk, HB.out⟩
end Go.Proofs.Ytfjnpmbkmoodnaa
