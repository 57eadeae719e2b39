import Derived.Test.YtfjnpmbkmoodnaaLMend
namespace Go.Proofs.Ytfjnpmbkmoodnaa
open Go.RowKit
set_option maxRecDepth 100000

theorem lay_step (z : List Int) (p : Nat) (L : List Int) (e : Nat) (he : e < L.length) (hp : p + L.length ≤ z.length) : bv (lay z (p, L.take (e + 1))) = (bv (lay z (p, L.take e))).set (p + e) (.int .u8 (L.getD e 0)) := by
  have hl1 : (L.take (e + 1)).length = e + 1 := by simp; omega
  have hl0 : (L.take e).length = e := by simp; omega
  have hts := take_snoc L e he
  have hz : (z.take p).length = p := by simp; omega
  simp only [lay, hl1, hl0]
  rw [hts]
  have hd : z.drop (p + e) = z.getD (p + e) 0 :: z.drop (p + (e + 1)) := by
    rw [List.drop_eq_getElem_cons (by omega)]
    simp [List.getD, List.getElem?_eq_getElem (show p + e < z.length by omega), Nat.add_assoc]
  rw [hd]
  have hz' : (bv (z.take p)).length = p := by rw [bv_len, hz]
  have hl' : (bv (L.take e)).length = e := by rw [bv_len, hl0]
  rw [bv_append, bv_append, bv_append, bv_append, bv_append, List.append_assoc]
  rw [List.set_append_right _ _ (by omega), hz', Nat.add_sub_cancel_left, List.set_append_right _ _ (by omega), hl', Nat.sub_self]
  rfl
theorem lay_nil (z : List Int) (p : Nat) : lay z (p, []) = z := by simp [lay]

set_option maxRecDepth 100000 in
set_option maxHeartbeats 4000000 in
theorem rmend_any (ao bo : Option Addr) (ca cb : Nat) (zs : List Int) (R : List Rn) (w : World) (hn : zs.length ≤ 16777216) (hnR : R.length ≤ 16777216) (hr : Reads w ao zs w.heap.size) (hR : RunsR w bo R w.heap.size)
    (hb0 : ∀ r ∈ R, r.1 ≤ 4294967295 ∧ r.2.length ≤ 140737488355328) :
    Calls Try.prog 7 #[.slice ao zs.length ca, .slice bo R.length cb] w fun e w' => (ris zs.length 0 R = false ∧ e = .returned (.tuple #[.slice none 0 0, .int .i64 23]) ∧ w' = w) ∨ (ris zs.length 0 R = true ∧ ∃ v, e = .returned (.tuple #[v, .int .i64 0]) ∧ w'.ownsRow w.heap.size 5 1 v zs.length (bv (mnd zs R)) ∧ Below w.heap.size w w') := by
  obtain ⟨i0, hi, hz0, hz1, hz2⟩ := info_parts Try.info5
  go_enter Try.func7, Try.ntmps7
  go_wp2_with fail
  go_loop [6, 7] (fun s i => ∃ k next : Nat, k ≤ R.length ∧ i = .int .i64 k ∧ s = .int .u64 (next : Nat) ∧ next ≤ zs.length ∧ ris zs.length 0 R = ris zs.length next (R.drop k))
    (fun _ i => R.length - (intOf i).toNat)
  case atStart => exact ⟨0, 0, Nat.zero_le _, rfl, rfl, Nat.zero_le _, rfl⟩
  case round =>
    obtain ⟨k, next, hk, rfl, rfl, hnt, hris⟩ := hrel
    have HR : Hid (ris zs.length 0 R = ris zs.length next (R.drop k)) := hris
    clear hris
    by_cases hlt : k < R.length
    · obtain ⟨b, off, rfl, hbl, hc⟩ := hR (by omega)
      obtain ⟨c0, ao2, cap2, c1, _, _, _⟩ := hc k hlt
      clear hc
      have HD : Hid (R.drop k = R.getD k (0, []) :: R.drop (k + 1)) := drop_consR R k hlt
      have hbr := hb0 (R.getD k (0, [])) (by simp [List.getD, List.getElem?_eq_getElem hlt])
      generalize R.getD k (0, []) = r at c0 c1 HD hbr
      obtain ⟨r1, r2⟩ := r
      simp only at c0 c1 hbr
      obtain ⟨hr1, hr2⟩ := hbr
      have HE : Hid (ris zs.length 0 R = (decide (0 < r2.length ∧ next ≤ r1 ∧ r1 + r2.length ≤ zs.length) && ris zs.length (r1 + r2.length) (R.drop (k + 1)))) := by rw [HR.out, HD.out]; exact rfl
      clear HR HD
      have hkI : (k : Int) < (R.length : Int) := by omega
      by_cases h0 : r2.length = 0
      · have HF : Hid (ris zs.length 0 R = false) := by rw [HE.out, decide_eq_false (by omega)]; exact rfl
        have d0 : ((r2.length : Int) == 0) = true := by simp; simpa using h0
        have d0' : (r2.length : Int) = 0 := by omega
        clear HE
        go_wp2_with fail
        go_ret2
        exact .inl ⟨HF.out, rfl, rfl⟩
      have d0 : ((r2.length : Int) == 0) = false := by simp; simpa using h0
      by_cases h1 : next ≤ r1
      · have d1 : decide ((r1 : Int) < (next : Int)) = false := by simp; omega
        have h1n : ¬ (r1 : Int) < (next : Int) := by omega
        by_cases h2 : r1 + r2.length ≤ zs.length
        · have HF : Hid (ris zs.length 0 R = ris zs.length (r1 + r2.length) (R.drop (k + 1))) := by rw [HE.out, decide_eq_true ⟨by omega, h1, h2⟩]; exact rfl
          have d2 : ¬ (zs.length : Int) < (r1 : Int) + (r2.length : Int) := by omega
          have d3 : decide ((zs.length : Int) < (r1 : Int) + (r2.length : Int)) = false := by simp; omega
          clear HE
          go_wp2_with fail
          go_round
          case rel => exact ⟨k + 1, r1 + r2.length, by omega, by go_num, by push_cast; rfl, h2, HF.out⟩
          case measure => simp [intOf]; omega
        · have HF : Hid (ris zs.length 0 R = false) := by rw [HE.out, decide_eq_false (by omega)]; exact rfl
          have d2 : (zs.length : Int) < (r1 : Int) + (r2.length : Int) := by omega
          have d3 : decide ((zs.length : Int) < (r1 : Int) + (r2.length : Int)) = true := by simp; omega
          clear HE
          go_wp2_with fail
          go_ret2
          exact .inl ⟨HF.out, rfl, rfl⟩
      · have HF : Hid (ris zs.length 0 R = false) := by rw [HE.out, decide_eq_false (by omega)]; exact rfl
        have d1 : decide ((r1 : Int) < (next : Int)) = true := by simp; omega
        clear HE
        go_wp2_with fail
        go_ret2
        exact .inl ⟨HF.out, rfl, rfl⟩
    · have HT : Hid (ris zs.length 0 R = true) := by rw [HR.out, List.drop_of_length_le (by omega)]; exact rfl
      clear HR
      have hkI : ¬ (k : Int) < (R.length : Int) := by omega
      go_wp2_with fail
      go_loopw [10, 11] (fun v i wr => ∃ q : Nat, q ≤ zs.length ∧ i = .int .i64 q ∧ wr.ownsRow w.heap.size 5 1 v q (bv (zs.take q)) ∧ Below w.heap.size w wr)
        (fun _ i _ => zs.length - (intOf i).toNat)
      case atStart => exact ⟨0, Nat.zero_le _, rfl, World.ownsRow_nil _ _ _ _, Below.refl _ _⟩
      case round =>
        obtain ⟨q, hq, rfl, hown, hb⟩ := hrel
        by_cases hlt2 : q < zs.length
        · obtain ⟨b, off, rfl, hbl, hc⟩ := (hr.below hb) (by omega)
          have hck := hc q hlt2
          have hB := hb.size
          clear hc
          have hts := take_snoc zs q hlt2
          generalize zs.getD q 0 = c at hck hts
          have HS : Hid (zs.take (q + 1) = zs.take q ++ [c]) := hts
          clear hts
          go_wp2_with (at_builtin; refine wpList_append_own _ rfl _ _ 26 rfl w.heap.size 5 i0 (.int .u8 0) 1 1 Try.underlying26 hi hz0 hz1 hz2 rfl (by decide) _ _ _ rfl (hown.alloc _) ⟨_, 0, none⟩ 1 1 [.int .u8 c] rfl rfl ?c1 ?c2 ?c3 ?c4 ?c5 ?_)
          case c1 =>
            intro j u hj
            match j, hj with
            | 0, hj => simp at hj; subst hj; simp [Addr.add]
          case c2 => intro u hu; simp at hu; subst hu; rfl
          case c3 => unfold maxLen; omega
          case c4 => omega
          case c5 => simp; omega
          intro v' w1 hown' hgrow _
          have R1 := own_snoc HS.out hown'
          have R2 := grown_below hb hB hown hgrow
          clear hown' hgrow hown hck
          go_wp2_with fail
          go_roundw
          case rel => exact ⟨q + 1, by omega, by go_num, R1, R2⟩
          case measure => simp [intOf]; omega
        · obtain rfl : q = zs.length := by omega
          rw [List.take_length] at hown
          have hform : ∃ a2 c2, u10 = .slice a2 zs.length c2 := by
            rcases hown.2 with ⟨rfl, hz⟩ | ⟨g, cap, cur, rfl, _⟩
            · exact ⟨none, 0, by rw [hz]⟩
            · exact ⟨_, _, rfl⟩
          obtain ⟨a2, c2, rfl⟩ := hform
          go_wp2_with fail
          go_loopw [12] (fun i wr => ∃ (q next : Nat) (z : List Int), q ≤ R.length ∧ i = .int .i64 q ∧ z.length = zs.length ∧ ris zs.length next (R.drop q) = true ∧ mnd zs R = mnd z (R.drop q) ∧ wr.ownsRow w.heap.size 5 1 (.slice a2 zs.length c2) zs.length (bv z) ∧ Below w.heap.size w wr)
            (fun i _ => R.length - (intOf i).toNat)
          case atStart => exact ⟨0, 0, zs, Nat.zero_le _, rfl, rfl, HT.out, rfl, hown, hb⟩
          case round =>
            clear hown hb
            obtain ⟨q, next, z, hq, rfl, hzl, hris, hmn, hown, hb⟩ := hrel
            have HN : Hid (mnd zs R = mnd z (R.drop q)) := hmn
            clear hmn
            by_cases hlt3 : q < R.length
            · have hqI : (q : Int) < (R.length : Int) := by omega
              obtain ⟨b, off, rfl, hbl, hc⟩ := hR (by omega)
              have hrun := hc q hlt3
              clear hc
              have hd := drop_consR R q hlt3
              have hbr := hb0 (R.getD q (0, [])) (by simp [List.getD, List.getElem?_eq_getElem hlt3])
              rw [hd] at hris
              have HD : Hid (R.drop q = R.getD q (0, []) :: R.drop (q + 1)) := hd
              clear hd
              generalize R.getD q (0, []) = r at HD hbr hris hrun
              obtain ⟨r1, r2⟩ := r
              simp only [ris, Bool.and_eq_true, decide_eq_true_eq] at hbr hris
              obtain ⟨⟨hp0, hp1, hp2⟩, hp3⟩ := hris
              obtain ⟨hr1, hr2⟩ := hbr
              obtain ⟨g, rfl⟩ : ∃ g, a2 = some ⟨g, 0, none⟩ := by
                rcases hown.2 with ⟨_, hz⟩ | ⟨g, cap, cur, e, _⟩
                · omega
                · simp only [Value.slice.injEq] at e; exact ⟨g, e.1⟩
              obtain ⟨c0, ao2, cap2, c1, _, _, hrd⟩ := hrun
              obtain ⟨bb, bo', rfl, hbbl, hrc⟩ := hrd hp0
              have HRC : Hid (∀ j, j < r2.length → w.cell? ⟨bb, bo' + j, none⟩ = some (.int .u8 (r2.getD j 0))) := hrc
              clear hrc hrd
              have HC0 : Hid (w.cell? ⟨b, off + q * 2, none⟩ = some (.int .u32 (r1 : Int))) := c0
              have HC1 : Hid (w.cell? ⟨b, off + q * 2 + 1, none⟩ = some (.slice (some ⟨bb, bo', none⟩) r2.length cap2)) := c1
              clear c0 c1
              go_wp2_with fail
              go_loopw [13] (fun i wi => ∃ e : Nat, e ≤ r2.length ∧ i = .int .i64 e ∧ wi.ownsRow w.heap.size 5 1 (.slice (some ⟨g, 0, none⟩) zs.length c2) zs.length (bv (lay z (r1, r2.take e))) ∧ Below w.heap.size w wi)
                (fun i _ => r2.length - (intOf i).toNat)
              case atStart => exact ⟨0, Nat.zero_le _, rfl, by rw [List.take_zero, lay_nil]; exact hown, hb⟩
              case round =>
                clear hown hb
                obtain ⟨e, he, rfl, hown, hb⟩ := hrel
                have k0 := (hb.cell (p := ⟨b, off + q * 2, none⟩) hbl).trans HC0.out
                have k1 := (hb.cell (p := ⟨b, off + q * 2 + 1, none⟩) hbl).trans HC1.out
                by_cases hlt4 : e < r2.length
                · have kb := (hb.cell (p := ⟨bb, bo' + e, none⟩) hbbl).trans (HRC.out e hlt4)
                  have hll : (lay z (r1, r2.take e)).length = zs.length := by rw [lay_len z (r1, r2.take e) (by simp only [List.length_take]; omega)]; exact hzl
                  have hck := own_get hown (i := r1 + e) (by rw [hll]; omega)
                  have hfk := hown.frozenAt (r1 + e)
                  have hRs := hown.stored (r1 + e) (.int .u8 (r2.getD e 0))
                  rw [← lay_step z r1 r2 e hlt4 (by omega)] at hRs
                  have hlo := (hown.lt g rfl).1
                  have hbs := hb.setCell (p := ⟨g, r1 + e, none⟩) hlo (.int .u8 (r2.getD e 0))
                  have HRS : Hid ((wr.setCell ⟨g, r1 + e, none⟩ (.int .u8 (r2.getD e 0))).ownsRow w.heap.size 5 1 (.slice (some ⟨g, 0, none⟩) zs.length c2) zs.length (bv (lay z (r1, r2.take (e + 1))))) := hRs.1
                  have heI : (e : Int) < (r2.length : Int) := by omega
                  have hre : (r1 : Int) + (e : Int) < (zs.length : Int) := by omega
                  have hwr : IntKind.i64.wrap ((r1 : Int) + (e : Int)) = (r1 : Int) + (e : Int) := by rw [IntKind.wrap_i64]; omega
                  have hwr2 : IntKind.i64.wrap (r1 : Int) = (r1 : Int) := by rw [IntKind.wrap_i64]; omega
                  generalize (lay z (r1, r2.take e)).getD (r1 + e) 0 = cc at hck
                  generalize r2.getD e 0 = x at kb HRS hbs
                  clear hown hRs
                  go_wp2_with fail
                  refine (fun (hrest : ?P1) => ?main1) ?sub1
                  case main1 =>
                    go_region
                    all_goals exact hrest
                  go_wp2_with fail
                  go_roundw
                  case rel => exact ⟨e + 1, by omega, by go_num, HRS.out, ⟨hbs.os, hbs.tape, hbs.output, hbs.size, hbs.block⟩⟩
                  case measure => simp [intOf]; omega
                · obtain rfl : e = r2.length := by omega
                  rw [List.take_length] at hown
                  have heI : ¬ (r2.length : Int) < (r2.length : Int) := by omega
                  go_wp2_with fail
                  go_roundw
                  case rel => exact ⟨q + 1, r1 + r2.length, lay z (r1, r2), by omega, by go_num, by rw [lay_len z (r1, r2) (by simp only; omega)]; exact hzl, hp3, by rw [HN.out, HD.out]; rfl, hown, hb⟩
                  case measure => simp [intOf]; omega
            · have hqI : ¬ (q : Int) < (R.length : Int) := by omega
              have HF : Hid (mnd zs R = z) := by rw [HN.out, List.drop_of_length_le (by omega)]; exact rfl
              go_wp2_with fail
              go_ret2
              exact .inr ⟨HT.out, _, rfl, by rw [HF.out]; exact hown, hb⟩
end Go.Proofs.Ytfjnpmbkmoodnaa
