import Derived.Test.YtdegmojfphkejaaISam
namespace Go.Proofs.Ytdegmojfphkejaa
open Go.RowKit
set_option maxRecDepth 100000

theorem size_ok (p : Nat × Nat) (w : World) (h : p.1 < 256) (ho : okI p = true) :
    Calls Try.prog 27 #[.agg #[.int .u8 p.1, .int .u32 p.2]] w fun e w' => e = .returned (.int .i64 (1 + (opWi p.1 : Int))) ∧ Below w.heap.size w w' := by
  refine (size_any p.1 p.2 w h).mono ?_
  have he : erV p.1 p.2 = 0 := by simpa [okI] using ho
  rintro e w' ⟨rfl, h1⟩
  refine ⟨?_, h1⟩
  rw [sz_ok _ _ he]; simp
theorem encF_take (L : List (Nat × Nat)) (k : Nat) (h : k < L.length) : (encF (L.take (k + 1))).length = (encF (L.take k)).length + (1 + opWi (L.getD k (0, 0)).1) := by
  rw [ptake (0, 0) L k h, encF_append, List.length_append]; simp [encF, enc1_len]
theorem samec_n (n m : Nat) (ao bo : Option Addr) (ca cb : Nat) (xs ys : List (Nat × Nat)) (w : World) (h1 : xs.length = n) (h2 : ys.length = m) (hn : n ≤ 140737488355328) (ha : CRd w ao xs w.heap.size) (hr : CRd w bo ys w.heap.size) :
    Calls Try.prog 29 #[.slice ao n ca, .slice bo m cb] w fun e w' => e = .returned (.bool (decide (xs = ys))) ∧ ∃ m, w' = w.drewN m := by
  subst h1 h2; exact samec_any ao bo ca cb xs ys w hn ha hr
/-- what lies behind the code that is made: sizes, Decode, SameCode -/
theorem getD_ok {L : List (Nat × Nat)} (h : allOk L = true) {k : Nat} (hk : k < L.length) : okI (L.getD k (0, 0)) = true := by
  rw [allOk, List.all_eq_true] at h
  apply h
  rw [List.getD_eq_getElem?_getD, List.getElem?_eq_getElem hk]
  exact List.getElem_mem hk
theorem crd_drop {w : World} {g : Nat} {L : List (Nat × Nat)} {B : Nat} (h : CRd w (some ⟨g, 0, none⟩) L B) (hl : 1 < L.length) : CRd w (some ⟨g, 2, none⟩) (L.drop 1) B := by
  intro _
  obtain ⟨b, off, e, hlt, hc⟩ := h (by omega)
  simp only [Option.some.injEq, Addr.mk.injEq] at e
  obtain ⟨rfl, rfl, _⟩ := e
  refine ⟨g, 2, rfl, hlt, fun j hj => ?_⟩
  rw [List.length_drop] at hj
  have := hc (j + 1) (by omega)
  have e : (L.drop 1).getD j (0, 0) = L.getD (j + 1) (0, 0) := by simp [List.getD]
  rw [e, show 2 + j * 2 = 0 + (j + 1) * 2 by omega]
  exact this
theorem encF_pos {L : List (Nat × Nat)} (h : L ≠ []) : 0 < (encF L).length := by
  cases L with
  | nil => exact absurd rfl h
  | cons p L => rw [show encF (p :: L) = enc1 p ++ encF L from rfl, List.length_append, enc1_len]; omega
set_option maxRecDepth 100000 in
set_option maxHeartbeats 2000000 in
theorem backLaw (ao : Option Addr) (ca : Nat) (X : List (Nat × Nat)) (w : World) (hx : X.length ≤ 140737488355328) (hxw : Wfc X) (hrx : CRd w ao X w.heap.size) :
    Calls Try.prog 7 #[.slice ao X.length ca] w fun e w' => e = .returned (.bool true) ∧ Below w.heap.size w w' := by
  obtain ⟨i0, hi, hz0, hz1, hz2⟩ := info_parts Try.infoC
  have f1 := fit_any ao ca X w hx hxw hrx
  have hAw := fitL_wf X hxw
  have hAo := fitL_ok X hxw
  have hAl := fitL_len X
  clear hxw hrx hx
  generalize fitL X = A at *
  have HBw : Hid (Wfc (A ++ [(4, 4660)])) := by
    intro p hp
    rcases List.mem_append.1 hp with h | h
    · exact hAw p h
    · simp at h; subst h; decide
  have HBo : Hid (allOk (A ++ [(4, 4660)]) = true) := by
    simp only [Hid, allOk, List.all_append, Bool.and_eq_true] at hAo ⊢
    exact ⟨hAo, by decide⟩
  clear hAw hAo
  go_enter Try.func7, Try.ntmps7
  go_wp2_with (first
    | (go_at_call 25; with_reducible refine f1.mono ?_; rintro e w1 ⟨v1, rfl, own1, hb1⟩; obtain ⟨a1, c1, rfl⟩ := own_any own1)
    | (at_builtin; refine wpList_append_lies _ rfl _ _ 22 rfl w.heap.size 32 i0 (.agg #[.int .u8 0, .int .u32 0]) 2 8 Try.underlying22 hi hz0 hz1 hz2 rfl (by decide) _ _ _ rfl (own1.alloc _) ⟨_, 0, none⟩ 1 1 [.int .u8 4, .int .u32 4660] rfl rfl ?d1 ?d2 (by decide) ?d3 ?d4 ?d5 _ rfl ?_))
  case d1 =>
    intro j u hj
    match j, hj with
    | 0, hj => simp at hj; subst hj; simp [Addr.add]
    | 1, hj => simp at hj; subst hj; simp [Addr.add]
  case d2 => intro u hu; simp at hu; rcases hu with rfl | rfl <;> rfl
  case d3 => unfold maxLen; omega
  case d4 => omega
  case d5 => have := hb1.size; simp; omega
  intro g c2 w2 own2 hg2 _ _
  have R2 : Below w.heap.size w w2 := grown_below hb1 hb1.size own1 hg2
  have own3 : w2.ownsRow w.heap.size 32 2 (.slice (some ⟨g, 0, none⟩) (A ++ [(4, 4660)]).length c2) (A ++ [(4, 4660)]).length (cv (A ++ [(4, 4660)])) := by
    rw [cv_append, List.length_append]; exact own2
  have crd2 := own_crd2 own3
  have hcap := own_cap own2
  clear own1 own2 own3 hg2 hb1 f1
  by_cases hlen : 16384 < A.length + 1
  · have hlI : (16384 : Int) < (A.length : Int) + 1 := by omega
    have hc1 : ¬ c2 = 1 := by omega
    have hc1' : ¬ 1 = c2 := by omega
    have hc1I : (1 : Int) ≤ (A.length : Int) + 1 := by omega
    have HL1 : 1 < (A ++ [(4, 4660)]).length := by simp; omega
    have crd3 := crd_drop crd2 HL1
    have HLL : ((A ++ [(4, 4660)]).drop 1).length ≤ 16384 := by simp; omega
    have HLN : ((A ++ [(4, 4660)]).drop 1).length = A.length := by simp
    have HLw : Hid (Wfc ((A ++ [(4, 4660)]).drop 1)) := fun p hp => HBw.out p (List.mem_of_mem_drop hp)
    have HLo : Hid (allOk ((A ++ [(4, 4660)]).drop 1) = true) := by
      have h := HBo.out
      rw [allOk, List.all_eq_true] at h
      rw [Hid, allOk, List.all_eq_true]
      exact fun p hp => h p (List.mem_of_mem_drop hp)
    have HLne : (A ++ [(4, 4660)]).drop 1 ≠ [] := by intro e; rw [e] at HLN; simp at HLN; omega
    clear HBw HBo crd2 HL1
    have eF := encF_le ((A ++ [(4, 4660)]).drop 1)
    have hPos : 0 < (encF ((A ++ [(4, 4660)]).drop 1)).length := encF_pos HLne
    generalize hLL : ((A ++ [(4, 4660)]).drop 1) = L at *
    clear hLL
    go_wp2_with (go_at_call 26; with_reducible refine (encode_n _ _ _ L _ HLN HLw.out crd3 HLo.out HLL).mono ?_; rintro e w5 ⟨v5, rfl, own5, hb5⟩; obtain ⟨g5, c5, rfl, hc5⟩ := own_form own5 hPos; have crd5 := (crd3.below hb5).mono hb5.size; have R5 := bt R2 hb5)
    clear crd3 R2 hb5
    go_loopw [8, 9] (fun u i wr => ∃ k : Nat, k ≤ L.length ∧ u = .int .i64 (encF (L.take k)).length ∧ i = .int .i64 k ∧ Below w5.heap.size w5 wr)
      (fun _ i _ => L.length - (intOf i).toNat)
    case atStart => exact ⟨0, Nat.zero_le _, rfl, rfl, Below.refl _ _⟩
    case round =>
      obtain ⟨k, hk, rfl, rfl, hbr⟩ := hrel
      by_cases hlt : k < L.length
      · obtain ⟨b, off, he, hbl, hcl⟩ := (crd5.below hbr) (by omega)
        simp only [Option.some.injEq, Addr.mk.injEq] at he
        obtain ⟨rfl, rfl, _⟩ := he
        obtain ⟨x0, x1⟩ := hcl k hlt
        have hS := fun w => size_ok (L.getD k (0, 0)) w (HLw.out.at hlt).1 (getD_ok HLo.out hlt)
        have hW4 := opWi_le (L.getD k (0, 0)).1
        have HT := hid_of (encF_take L k hlt)
        have hE : (encF (L.take k)).length ≤ 81920 := by
          have := encF_le (L.take k); rw [List.length_take] at this; omega
        generalize opWi (L.getD k (0, 0)).1 = wi at *
        generalize (L.getD k (0, 0)).1 = op at *
        generalize (L.getD k (0, 0)).2 = arg at *
        generalize (encF (L.take k)).length = en at *
        have hltI : (k : Int) < (L.length : Int) := by omega
        have q1 : ¬ (1 + (wi : Int)) < 1 := by omega
        have q2 : ¬ (5 : Int) < 1 + (wi : Int) := by omega
        clear hcl HLw HLo own5 crd5 R5
        go_wp2_with (go_at_call 27; with_reducible refine (hS _).mono ?_; rintro e w6 ⟨rfl, hq6⟩)
        go_roundw
        case rel => exact ⟨k + 1, by omega, by rw [HT.out]; go_num, by go_num, bt hbr hq6⟩
        case measure => simp [intOf]; omega
      · obtain rfl : k = L.length := by omega
        rw [List.take_length]
        have own6 := own_below own5 hbr
        have crd6 := (crd5.below hbr).mono hbr.size
        have R6 := bt R5 hbr
        have rd6 := reads_own (zs := encF L) own6 (by rw [List.take_length])
        have hD := decode_enc (some ⟨g5, 0, none⟩) c5 (encF L).length L wr rfl hc5 HLw.out HLo.out HLL rd6
        have hlI : ¬ (L.length : Int) < (L.length : Int) := by omega
        clear own5 crd5 R5 own6 rd6 HLo HLw
        generalize (encF L).length = en at *
        go_wp2_with (first
          | (go_at_call 28; with_reducible refine hD.mono ?_; rintro e w7 ⟨v7, rfl, own7, hb7⟩; obtain ⟨a7, c7, rfl, crd7⟩ := own_crd own7; replace crd6 := (crd6.below hb7).mono hb7.size; have R7 := bt R6 hb7; clear own7)
          | (go_at_call 29; with_reducible refine (samec_n _ _ _ _ _ _ L L _ HLN HLN (by omega) crd7 crd6).mono ?_; rintro e w8 ⟨rfl, m, hm⟩; subst w8; rw [decide_eq_true rfl]))
        go_ret
        exact ⟨rfl, bt R7 (below_drew0 _)⟩
  · have hlI : ¬ (16384 : Int) < (A.length : Int) + 1 := by omega
    have HLL : (A ++ [(4, 4660)]).length ≤ 16384 := by simp; omega
    have HLN : (A ++ [(4, 4660)]).length = A.length + 1 := by simp
    have HLw := HBw
    have HLo := HBo
    have HLne : A ++ [(4, 4660)] ≠ [] := by simp
    clear HBw HBo
    have eF := encF_le (A ++ [(4, 4660)])
    have hPos : 0 < (encF (A ++ [(4, 4660)])).length := encF_pos HLne
    generalize hLL : (A ++ [(4, 4660)]) = L at *
    clear hLL
    go_wp2_with (go_at_call 26; with_reducible refine (encode_n _ _ _ L _ HLN HLw.out crd2 HLo.out HLL).mono ?_; rintro e w5 ⟨v5, rfl, own5, hb5⟩; obtain ⟨g5, c5, rfl, hc5⟩ := own_form own5 hPos; have crd5 := (crd2.below hb5).mono hb5.size; have R5 := bt R2 hb5)
    clear crd2 R2 hb5
    go_loopw [8, 9] (fun u i wr => ∃ k : Nat, k ≤ L.length ∧ u = .int .i64 (encF (L.take k)).length ∧ i = .int .i64 k ∧ Below w5.heap.size w5 wr)
      (fun _ i _ => L.length - (intOf i).toNat)
    case atStart => exact ⟨0, Nat.zero_le _, rfl, rfl, Below.refl _ _⟩
    case round =>
      obtain ⟨k, hk, rfl, rfl, hbr⟩ := hrel
      by_cases hlt : k < L.length
      · obtain ⟨b, off, he, hbl, hcl⟩ := (crd5.below hbr) (by omega)
        simp only [Option.some.injEq, Addr.mk.injEq] at he
        obtain ⟨rfl, rfl, _⟩ := he
        obtain ⟨x0, x1⟩ := hcl k hlt
        rw [Nat.zero_add] at x0 x1
        have hS := fun w => size_ok (L.getD k (0, 0)) w (HLw.out.at hlt).1 (getD_ok HLo.out hlt)
        have hW4 := opWi_le (L.getD k (0, 0)).1
        have HT := hid_of (encF_take L k hlt)
        have hE : (encF (L.take k)).length ≤ 81920 := by
          have := encF_le (L.take k); rw [List.length_take] at this; omega
        generalize opWi (L.getD k (0, 0)).1 = wi at *
        generalize (L.getD k (0, 0)).1 = op at *
        generalize (L.getD k (0, 0)).2 = arg at *
        generalize (encF (L.take k)).length = en at *
        have hltI : (k : Int) < (L.length : Int) := by omega
        have q1 : ¬ (1 + (wi : Int)) < 1 := by omega
        have q2 : ¬ (5 : Int) < 1 + (wi : Int) := by omega
        clear hcl HLw HLo own5 crd5 R5
        go_wp2_with (go_at_call 27; with_reducible refine (hS _).mono ?_; rintro e w6 ⟨rfl, hq6⟩)
        go_roundw
        case rel => exact ⟨k + 1, by omega, by rw [HT.out]; go_num, by go_num, bt hbr hq6⟩
        case measure => simp [intOf]; omega
      · obtain rfl : k = L.length := by omega
        rw [List.take_length]
        have own6 := own_below own5 hbr
        have crd6 := (crd5.below hbr).mono hbr.size
        have R6 := bt R5 hbr
        have rd6 := reads_own (zs := encF L) own6 (by rw [List.take_length])
        have hD := decode_enc (some ⟨g5, 0, none⟩) c5 (encF L).length L wr rfl hc5 HLw.out HLo.out HLL rd6
        have hlI : ¬ (L.length : Int) < (L.length : Int) := by omega
        clear own5 crd5 R5 own6 rd6 HLo HLw
        generalize (encF L).length = en at *
        go_wp2_with (first
          | (go_at_call 28; with_reducible refine hD.mono ?_; rintro e w7 ⟨v7, rfl, own7, hb7⟩; obtain ⟨a7, c7, rfl, crd7⟩ := own_crd own7; replace crd6 := (crd6.below hb7).mono hb7.size; have R7 := bt R6 hb7; clear own7)
          | (go_at_call 29; with_reducible refine (samec_n _ _ _ _ _ _ L L _ HLN HLN (by omega) crd7 crd6).mono ?_; rintro e w8 ⟨rfl, m, hm⟩; subst w8; rw [decide_eq_true rfl]))
        go_ret
        exact ⟨rfl, bt R7 (below_drew0 _)⟩
end Go.Proofs.Ytdegmojfphkejaa
