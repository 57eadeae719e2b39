import Derived.Test.YtgfgdkeeonolcaaIOnr
import Derived.Test.YtgfgdkeeonolcaaLApJ
namespace Go.Proofs.Ytgfgdkeeonolcaa
open Go.RowKit
set_option maxRecDepth 100000

/-- the instructions ahead of the first fault -/
def okItems (zs : List Int) : List It := (items zs).filter fun x => x.2.2.2.2 == 0
theorem ok_done {zs : List Int} {ys : List It} (h : ys = items zs) (ha : ∀ x ∈ ys, x.2.2.2.2 = 0) : okItems zs = ys ∧ dcI zs = 0 ∧ dcX zs = 0 := by
  subst h
  refine ⟨?_, (dec_ok rfl ha).2⟩
  unfold okItems
  rw [List.filter_eq_self]
  intro x hx
  simp [ha x hx]
theorem ok_bad {zs : List Int} {q : List It} {x : It} (h : q ++ [x] = items zs) (hq : ∀ y ∈ q, y.2.2.2.2 = 0) (hx : ¬ x.2.2.2.2 = 0) : okItems zs = q ∧ dcI zs = x.1 ∧ dcX zs = x.2.2.2.2 := by
  refine ⟨?_, (dec_bad ⟨[], by rw [h, List.append_nil]⟩ hx).2⟩
  unfold okItems
  rw [← h, List.filter_append]
  have e1 : q.filter (fun x => x.2.2.2.2 == 0) = q := by
    rw [List.filter_eq_self]; intro y hy; simp [hq y hy]
  rw [e1]
  simp [hx]
theorem rows_typ {w : World} {B B' e e' s s' n n' : Nat} {v v' : Value} {xs xs' : List Value} (he : e ≠ e') (h : w.ownsRow B e s v n xs) (h' : w.ownsRow B' e' s' v' n' xs') : v.ownBlock = none ∨ v.ownBlock ≠ v'.ownBlock := by
  rcases h.2 with ⟨rfl, _⟩ | ⟨g, cap, cur, rfl, _, hg, _⟩
  · exact .inl rfl
  · right
    rcases h'.2 with ⟨rfl, _⟩ | ⟨g', cap', cur', rfl, _, hg', _⟩
    · simp [Value.ownBlock]
    · intro e1
      simp only [Value.ownBlock, Option.some.injEq] at e1
      subst e1
      rw [hg] at hg'
      simp only [Option.some.injEq, Obj.cells.injEq] at hg'
      exact he hg'.2.1
theorem results_tmp4 {fn : Func} {a b c d : Tmp} (h : fn.results = #[.tmp a, .tmp b, .tmp c, .tmp d]) (tmps : Array Value) (P : Program) (w : World) :
    (results fn tmps).run P w = .ok (.tuple #[tmps.getD a undef, tmps.getD b undef, tmps.getD c undef, tmps.getD d undef]) w := by
  simp [results, h, go_sem]
set_option maxRecDepth 100000 in
set_option maxHeartbeats 2000000 in
theorem rwalk_any (ao : Option Addr) (cap : Nat) (zs : List Int) (w : World) (hn : zs.length ≤ 140737488355328) (hwf : ∀ z ∈ zs, 0 ≤ z ∧ z ≤ 255) (hr : Reads w ao zs w.heap.size) :
    Calls Try.prog 4 #[.slice ao zs.length cap] w fun e w' => ∃ vp vc, e = .returned (.tuple #[vp, vc, .int .i64 (dcI zs), .int .i64 (dcX zs)]) ∧ w'.ownsRow w.heap.size 3 1 vp (okItems zs).length (bi ((okItems zs).map fun x => (x.1 : Int))) ∧ w'.ownsRow w.heap.size 37 2 vc (okItems zs).length (cv ((okItems zs).map gIt)) ∧ (vp.ownBlock = none ∨ vp.ownBlock ≠ vc.ownBlock) ∧ Below w.heap.size w w' := by
  obtain ⟨i0, hi, hz0, hz1, hz2⟩ := info_parts Try.infoC
  obtain ⟨j0, ki, kz0, kz1, kz2⟩ := info_parts Try.infoInt0
  have HWF := hid_of hwf
  clear hwf
  go_enter Try.func4, Try.ntmps4
  go_wp2
  go_loopw [6, 7, 8] (fun vp vc i wr => ∃ (p f : Nat) (pre : List It), i = .int .i64 p ∧ pre ++ rds zs f pre.length p = items zs ∧ zs.length ≤ p + f ∧ p ≤ zs.length ∧ pre.length ≤ 16384 ∧ (∀ x ∈ pre, x.2.2.2.2 = 0) ∧ wr.ownsRow w.heap.size 3 1 vp pre.length (bi (pre.map fun x => (x.1 : Int))) ∧ wr.ownsRow w.heap.size 37 2 vc pre.length (cv (pre.map gIt)) ∧ Below w.heap.size w wr)
    (fun _ _ i _ => zs.length - (intOf i).toNat)
  case atStart => exact ⟨0, zs.length, [], rfl, rfl, by omega, by omega, by simp, by simp, World.ownsRow_nil _ _ _ _, World.ownsRow_nil _ _ _ _, Below.refl _ _⟩
  case round =>
    obtain ⟨p, f, pre, rfl, hpre, hf, hpl, hk16, hall, hop, hoc, hb⟩ := hrel
    obtain ⟨va, vca, hvc⟩ := own_any hoc
    subst hvc
    have HALL := hid_of hall
    have HP := hid_of hpre
    clear hall hpre
    by_cases hlt : p < zs.length
    · obtain ⟨hi1, hi2, hi3⟩ := items_next hlt HP.out hf
      have HN2 := hid_of hi2; have HN3 := hid_of hi3
      clear hi1 hi2 hi3 HP
      have hltI : (p : Int) < (zs.length : Int) := by omega
      by_cases hk : pre.length < 16384
      · have hkI : ¬ (pre.length : Int) = 16384 := by omega
        have hkb : ((pre.length : Int) == 16384) = false := by rw [beq_eq_false_iff_ne]; exact hkI
        obtain ⟨b, off, rfl, hbl, hcl⟩ := (hr.below hb) (by omega)
        have hz := hb.size
        have hO := rone_any b off cap p zs wr hn hlt HWF.out (by omega) hcl
        rw [← show rdK zs pre.length p = rdV (zs.drop p) from if_pos hk] at hO
        have HS := hid_of (rdK_size zs pre.length p)
        generalize hrr : rdK zs pre.length p = r at *
        obtain ⟨r1, r2, r3, r4⟩ := r
        simp only [] at hO
        clear hcl hrr
        by_cases he : r4 = 0
        · subst he
          obtain ⟨f', hN, hF⟩ := HN2.out rfl
          obtain ⟨s1, s2, s3⟩ := HS.out rfl
          have HN := hid_of hN
          clear HN2 HN3 HS hN
          simp only [] at s1 s2 s3 hF
          go_wp2_with (first
            | (go_at_call 10; with_reducible refine hO.mono ?_; rintro e w1 ⟨rfl, hq1⟩)
            | (at_builtin; refine wpList_append_own _ rfl _ _ 23 rfl w.heap.size 3 j0 (.int .i64 0) 1 8 Try.underlying23 ki kz0 kz1 kz2 rfl (by decide) _ _ _ rfl (((own_below hop hq1).alloc _).alloc _) ⟨_, 0, none⟩ 1 1 [.int .i64 (p : Int)] rfl rfl ?d1 ?d2 ?d3 ?d4 ?d5 ?_))
          case d1 =>
            intro j u hj
            match j, hj with
            | 0, hj => simp at hj; subst hj; simp [Addr.add]
          case d2 => intro u hu; simp at hu; subst hu; rfl
          case d3 => unfold maxLen; omega
          case d4 => omega
          case d5 => have := hq1.size; simp; omega
          intro vp2 w2 op2 hg2 _
          have ocA := ((own_below hoc hq1).alloc (.cells #[.int .u8 r1, .int .u32 r2] 37)).alloc (.cells #[.int .i64 (p : Int)] 3)
          have oc2 := ocA.kept hg2 (rows_typ (by decide) ocA (((own_below hop hq1).alloc _).alloc _))
          have hne2 := fresh_ne (own_below hop hq1)
          have x0 : w2.cell? ⟨w1.heap.size, 0, none⟩ = some (.int .u8 r1) := hg2.cell (by rw [World.cell?_alloc_old _ _ _ (by show w1.heap.size ≠ _; simp), World.cell?_alloc_new]; rfl) hne2
          have x1 : w2.cell? ⟨w1.heap.size, 1, none⟩ = some (.int .u32 r2) := hg2.cell (by rw [World.cell?_alloc_old _ _ _ (by show w1.heap.size ≠ _; simp), World.cell?_alloc_new]; rfl) hne2
          have R2 : Below w.heap.size w w2 := grown_below (bel (bt hb hq1)) (bel (bt hb hq1)).size ((own_below hop hq1).alloc _) hg2
          have hB2 := R2.size
          have hs12 : w1.heap.size ≤ w2.heap.size := by have := hg2.size; simp at this; omega
          clear hg2 ocA hne2
          go_wp2_with (at_builtin; refine wpList_append_own _ rfl _ _ 24 rfl w.heap.size 37 i0 (.agg #[.int .u8 0, .int .u32 0]) 2 8 Try.underlying24 hi hz0 hz1 hz2 rfl (by decide) _ _ _ rfl (oc2.alloc _) ⟨_, 0, none⟩ 1 1 [.int .u8 r1, .int .u32 r2] rfl rfl ?e1 ?e2 ?e3 ?e4 ?e5 ?_)
          case e1 =>
            intro j u hj
            match j, hj with
            | 0, hj => simp at hj; subst hj; simp [Addr.add]
            | 1, hj => simp at hj; subst hj; simp [Addr.add]
          case e2 => intro u hu; simp at hu; rcases hu with rfl | rfl <;> rfl
          case e3 => unfold maxLen; omega
          case e4 => omega
          case e5 => simp; omega
          intro vc3 w3 oc3 hg3 _
          have R3 : Below w.heap.size w w3 := grown_below R2 hB2 oc2 hg3
          have op3 := (op2.alloc _).kept hg3 (rows_typ (by decide) op2 oc2)
          have op4 : w3.ownsRow w.heap.size 3 1 vp2 (pre ++ [(p, (r1, r2, r3, 0))]).length (bi ((pre ++ [(p, ((r1, r2, r3, 0) : Rd))]).map fun (x : It) => (x.1 : Int))) := by
            rw [List.map_append, bi_append, List.length_append]; exact op3
          have oc4 : w3.ownsRow w.heap.size 37 2 vc3 (pre ++ [(p, (r1, r2, r3, 0))]).length (cv ((pre ++ [(p, (r1, r2, r3, 0))]).map gIt)) := by
            rw [List.map_append, cv_append, List.length_append]; exact oc3
          have HA2 : Hid (∀ x ∈ pre ++ [(p, ((r1, r2, r3, 0) : Rd))], x.2.2.2.2 = 0) := by
            intro x hx
            rcases List.mem_append.1 hx with h | h
            · exact HALL.out x h
            · simp at h; subst h; rfl
          clear op2 op3 oc2 oc3 hg3 hop hoc hq1 x0 x1 hO R2 hb
          go_wp2
          go_roundw
          case rel => exact ⟨p + r3, f', pre ++ [(p, (r1, r2, r3, 0))], by go_num, by rw [List.length_append]; exact HN.out, hF, s3, by simp; omega, HA2.out, op4, oc4, R3⟩
          case measure => simp [intOf]; omega
        · have heI : ¬ (r4 : Int) = 0 := by omega
          have HE := hid_of (ok_bad (HN3.out he) HALL.out he)
          clear HN2 HN3 HS
          go_wp2_with (go_at_call 10; with_reducible refine hO.mono ?_; rintro e w1 ⟨rfl, hq1⟩)
          refine bodyPost_ret (results_tmp4 rfl _ _ _) rfl ?_
          obtain ⟨e1, e2, e3⟩ := HE.out
          rw [e1, e2, e3]
          exact ⟨_, _, rfl, (own_below hop hq1).alloc _, (own_below hoc hq1).alloc _, rows_typ (by decide) hop hoc, bel (bt hb hq1)⟩
      · have hk' : pre.length = 16384 := by omega
        have hkI : (pre.length : Int) = 16384 := by omega
        have hK : rdK zs pre.length p = (0, 0, 0, 73) := if_neg hk
        rw [hK] at HN3
        have HE := hid_of (ok_bad (HN3.out (by decide)) HALL.out (by show ¬ (73 = 0); decide))
        have HK := hid_of hk'
        clear HN2 HN3 hK hk hk' hk16
        go_wp2
        refine bodyPost_ret (results_tmp4 rfl _ _ _) rfl ?_
        obtain ⟨e1, e2, e3⟩ := HE.out
        rw [e1, e2, e3]
        exact ⟨_, _, rfl, hop, hoc, rows_typ (by decide) hop hoc, hb⟩
    · have hltI : ¬ (p : Int) < (zs.length : Int) := by omega
      have hI : pre = items zs := by
        have := HP.out
        rwa [rds_end zs f _ p hlt, List.append_nil] at this
      have HE := hid_of (ok_done hI HALL.out)
      clear HP hI
      go_wp2
      refine bodyPost_ret (results_tmp4 rfl _ _ _) rfl ?_
      obtain ⟨e1, e2, e3⟩ := HE.out
      rw [e1, e2, e3]
      exact ⟨_, _, rfl, hop, hoc, rows_typ (by decide) hop hoc, hb⟩
end Go.Proofs.Ytgfgdkeeonolcaa
