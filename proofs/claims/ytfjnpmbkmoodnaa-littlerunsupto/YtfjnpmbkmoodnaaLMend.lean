import Derived.Test.YtfjnpmbkmoodnaaLRunW
import Derived.Test.YtfjnpmbkmoodnaaLClone
import Derived.Test.YtfjnpmbkmoodnaaLNum
import Derived.Laws.CopyOwn
import Derived.Deep.RegionLaw
namespace Go.Proofs.Ytfjnpmbkmoodnaa
open Go.RowKit
set_option maxRecDepth 100000

theorem own_mono {w : World} {B B' e sz : Nat} {v : Value} {n : Nat} {xs : List Value} (h : w.ownsRow B e sz v n xs) (hle : B' ≤ B) : w.ownsRow B' e sz v n xs :=
  ⟨h.1, h.2.imp id (fun ⟨g, cap, cur, a, b, c⟩ => ⟨g, cap, cur, a, Nat.le_trans hle b, c⟩)⟩
theorem splice_lay (cur : List Value) (zs : List Int) (r : Rn) (hp : r.1 + r.2.length ≤ zs.length) (h : cur.take zs.length = bv zs) :
    (splice cur r.1 (bv r.2)).toArray.toList.take (zs.length * 1) = bv (lay zs r) := by
  have hc : zs.length ≤ cur.length := by
    have := congrArg List.length h
    simp [bv] at this
    omega
  have e1 : cur.take r.1 = bv (zs.take r.1) := by
    have := congrArg (List.take r.1) h
    rw [List.take_take, Nat.min_eq_left (by omega)] at this
    rw [this, bv, bv, List.map_take]
  have e2 : (cur.take zs.length).drop (r.1 + r.2.length) = bv (zs.drop (r.1 + r.2.length)) := by rw [h, bv, bv, List.map_drop]
  have e3 : (cur.drop (r.1 + r.2.length)).take (zs.length - (r.1 + r.2.length)) = bv (zs.drop (r.1 + r.2.length)) := by rw [← List.drop_take]; exact e2
  rw [Nat.mul_one, splice, e1, bv_len, lay, bv_append, bv_append]
  show (bv (zs.take r.1) ++ (bv r.2 ++ cur.drop (r.1 + r.2.length))).take zs.length = _
  rw [take_app3 _ _ _ _ (by rw [bv_len, bv_len, List.length_take]; omega), bv_len, bv_len, List.length_take, Nat.min_eq_left (by omega), e3]

set_option maxRecDepth 100000 in
set_option maxHeartbeats 2000000 in
theorem mend_any (ao bo : Option Addr) (ca cb : Nat) (zs : List Int) (R : List Rn) (w : World) (hn : zs.length ≤ 140737488355328) (hnR : R.length ≤ 140737488355328) (hnil : ao = none → zs = []) (hr : Reads w ao zs w.heap.size) (hR : RunsR w bo R w.heap.size)
    (hb0 : ∀ r ∈ R, r.1 ≤ 4294967295 ∧ r.2.length ≤ 140737488355328) (hris : ris zs.length 0 R = true) :
    Calls Try.prog 8 #[.slice ao zs.length ca, .slice bo R.length cb] w fun e w' => ∃ v, e = .returned (.tuple #[v, .int .i64 0]) ∧ w'.ownsRow w.heap.size 5 1 v zs.length (bv (mnd zs R)) ∧ Below w.heap.size w w' := by
  have hri := rise_any bo cb R zs.length w hnR hn hR hb0
  rw [hris] at hri
  go_enter Try.func8, Try.ntmps8
  go_wp2_with fail
  refine hri.mono ?_
  rintro e w1 ⟨rfl, hb1⟩
  have hz1 := hb1.size
  go_wp2_with fail
  refine (clone_any ao ca zs w1 hn hnil ((hr.below hb1).mono hz1)).mono ?_
  rintro e w2 ⟨v, rfl, own2, hb2⟩
  have hb3 := hb1.trans (hb2.mono hz1)
  have own3 := own_mono own2 hz1
  have hform : ∃ a2 c2, v = .slice a2 zs.length c2 := by
    rcases own3.2 with ⟨rfl, hz⟩ | ⟨g, cap, cur, rfl, _⟩
    · exact ⟨none, 0, by rw [hz]⟩
    · exact ⟨_, _, rfl⟩
  obtain ⟨a2, c2, rfl⟩ := hform
  have HM : Hid (mnd zs R = mnd zs (R.drop 0)) := rfl
  clear hri own2 hb2
  go_wp2_with fail
  go_loopw [19] (fun i wr => ∃ (k next : Nat) (z : List Int), k ≤ R.length ∧ i = .int .i64 k ∧ z.length = zs.length ∧ ris zs.length next (R.drop k) = true ∧ mnd zs R = mnd z (R.drop k) ∧ wr.ownsRow w.heap.size 5 1 (.slice a2 zs.length c2) zs.length (bv z) ∧ Below w.heap.size w wr)
    (fun i _ => R.length - (intOf i).toNat)
  case atStart => exact ⟨0, 0, zs, Nat.zero_le _, rfl, rfl, hris, rfl, own3, hb3⟩
  case round =>
    clear own3 hb3 hb1 hz1 hris
    obtain ⟨k, next, z, hk, rfl, hzl, hris, hmn, hown, hb⟩ := hrel
    have hB := hb.size
    have HN : Hid (mnd zs R = mnd z (R.drop k)) := hmn
    clear hmn
    by_cases hlt : k < R.length
    · obtain ⟨b, off, rfl, hbl, hc⟩ := (hR.below hb) (by omega)
      obtain ⟨c0, ao2, cap2, c1, _, hnl, hrd⟩ := hc k hlt
      clear hc
      have hd := drop_consR R k hlt
      have hbr := hb0 (R.getD k (0, [])) (by simp [List.getD, List.getElem?_eq_getElem hlt])
      rw [hd] at hris
      have HD : Hid (R.drop k = R.getD k (0, []) :: R.drop (k + 1)) := hd
      clear hd
      generalize R.getD k (0, []) = r at c0 c1 HD hbr hris hrd hnl
      obtain ⟨r1, r2⟩ := r
      simp only [ris, Bool.and_eq_true, decide_eq_true_eq] at c0 c1 hbr hris hrd hnl
      obtain ⟨⟨hp0, hp1, hp2⟩, hp3⟩ := hris
      obtain ⟨hr1, hr2⟩ := hbr
      have own1' := hown
      rcases hown.2 with ⟨_, hz⟩ | ⟨g, cf, cur, hv, hgb, hgc, hnc, hcm, hcs, htk⟩
      · omega
      simp only [Value.slice.injEq, true_and] at hv
      obtain ⟨rfl, rfl⟩ := hv
      have hgl : g < wr.heap.size := (own1'.lt g rfl).2
      have hb1 := hb.alloc hB (.cells #[.int .u32 (r1 : Int), .slice ao2 r2.length cap2] 48)
      have hb2 := hb1.drew
      have hbd : Below wr.heap.size wr (wr.alloc (.cells #[.int .u32 (r1 : Int), .slice ao2 r2.length cap2] 48)).drew := ((Below.refl wr.heap.size wr).alloc (Nat.le_refl _) _).drew
      have hgc2 : (wr.alloc (.cells #[.int .u32 (r1 : Int), .slice ao2 r2.length cap2] 48)).drew.heap[g]? = some (.cells cur.toList.toArray 5) := (hbd.block g hgl).trans (by simpa using hgc)
      have hmin : (bv r2).length = Nat.min r2.length (zs.length - r1) := by rw [bv_len]; show r2.length = min r2.length (zs.length - r1); omega
      have hfit : r1 + (bv r2).length ≤ cur.toList.length := by
        have hcl : cur.toList.length = cur.size := Array.length_toList
        rw [bv_len, hcl]; omega
      obtain ⟨bb, bo, rfl, hbbl, hrc⟩ := hrd hp0
      have hrc2 : ∀ j u, (bv r2)[j]? = some u → (wr.alloc (.cells #[.int .u32 (r1 : Int), .slice (some ⟨bb, bo, none⟩) r2.length cap2] 48)).drew.cell? ((⟨bb, bo, none⟩ : Addr).add j) = some u := by
        intro j u hj
        have hjl : j < r2.length := by
          have := (List.getElem?_eq_some_iff.1 hj).1
          simpa [bv] using this
        rw [Go.WideShapes.add_plain, hbd.cell (p := ⟨bb, bo + j, none⟩) (by show bb < wr.heap.size; omega), hrc j hjl]
        simp [bv, hjl] at hj
        simp [hjl, hj]
      have HC : Hid (∀ j u, (bv r2)[j]? = some u → (wr.alloc (.cells #[.int .u32 (r1 : Int), .slice (some ⟨bb, bo, none⟩) r2.length cap2] 48)).drew.cell? ((⟨bb, bo, none⟩ : Addr).add j) = some u) := hrc2
      have hpc : ¬ r1 = c2 := by omega
      have hpc2 : ¬ c2 = r1 := by omega
      have hpl : (r1 : Int) ≤ (zs.length : Int) := by omega
      clear own1' hown hrc hrc2 hbd hnl
      go_wp2_with fail
      go_region_law (refine step_copy_splice rfl _ _ 26 26 rfl 5 Try.underlying26 Try.sz5 _ _ _ _ _ _ rfl rfl g r1 cur.toList 5 hgc2 (bv r2) hmin (fun _ => ⟨rfl, _, rfl, HC.out⟩) hfit (fun u hu => by simp [bv] at hu; obtain ⟨z, _, rfl⟩ := hu; rfl) w.heap.size w hb2 hgb ?_; intro w3 HG3 hb3)
      all_goals
        have HW : Hid (w3.ownsRow w.heap.size 5 1 (.slice (some ⟨g, 0, none⟩) zs.length c2) zs.length (bv (lay z (r1, r2)))) := by
          refine ⟨?_, .inr ⟨g, c2, _, rfl, hgb, HG3.out, hnc, hcm, ?_, ?_⟩⟩
          · rw [bv_len, lay_len z (r1, r2) (by simp only; omega)]; omega
          · rw [List.size_toArray, length_splice _ _ _ hfit, Array.length_toList, hcs]
          · have := splice_lay cur.toList z (r1, r2) (by simp only; omega) (by rw [hzl]; simpa using htk)
            rw [hzl] at this; exact this
        clear HG3 hgc hgc2 htk hcs hfit hmin HC hb1 hb2
        go_wp2_with fail
        go_roundw
        case rel => exact ⟨k + 1, r1 + r2.length, lay z (r1, r2), by omega, by go_num, by rw [lay_len z (r1, r2) (by simp only; omega)]; exact hzl, hp3, by rw [HN.out, HD.out]; rfl, HW.out, hb3⟩
        case measure => simp [intOf]; omega
    · have HF : Hid (mnd zs R = z) := by rw [HN.out, List.drop_of_length_le (by omega)]; exact rfl
      go_wp2_with fail
      go_ret2
      exact ⟨_, rfl, by rw [HF.out]; exact hown, hb⟩
theorem mendE_any (ao bo : Option Addr) (n ca cb : Nat) (R : List Rn) (w : World) (hn : n ≤ 140737488355328) (hnR : R.length ≤ 140737488355328) (hR : RunsR w bo R w.heap.size)
    (hb0 : ∀ r ∈ R, r.1 ≤ 4294967295 ∧ r.2.length ≤ 140737488355328) (hris : ris n 0 R = false) :
    Calls Try.prog 8 #[.slice ao n ca, .slice bo R.length cb] w fun e w' => e = .returned (.tuple #[.slice none 0 0, .int .i64 23]) ∧ Below w.heap.size w w' := by
  have hri := rise_any bo cb R n w hnR hn hR hb0
  rw [hris] at hri
  go_enter Try.func8, Try.ntmps8
  go_wp2_with fail
  refine hri.mono ?_
  rintro e w1 ⟨rfl, hb1⟩
  clear hri
  go_wp2_with fail
  go_ret2
  exact ⟨rfl, hb1⟩
end Go.Proofs.Ytfjnpmbkmoodnaa
