import Derived.Test.YtpndbbepfjocgaaBBytes
namespace Go.Proofs.Ytpndbbepfjocgaa
open Go.RowKit Go.Shelf

theorem enc_rng {r : Int} (h0 : 0 ≤ r) (h1 : r ≤ 1114111) : ∀ z ∈ Lib.encodeRuneZ r, 0 ≤ z ∧ z ≤ 255 := by
  intro z hz
  unfold Lib.encodeRuneZ at hz
  split at hz
  · simp at hz; omega
  · split at hz
    · simp at hz; omega
    · split at hz
      · simp at hz; omega
      · split at hz
        · simp at hz; omega
        · simp at hz; omega
theorem pb_rng (u : ByteArray) : ∀ z ∈ pb (readV u), 0 ≤ z ∧ z ≤ 255 := by
  obtain ⟨h0, h1, h2⟩ := read_rng u
  intro z hz
  unfold pb at hz
  split at hz
  · rename_i h
    have := h2 h
    simp at hz
    omega
  · exact enc_rng h0 h1 z hz
theorem bt_str (L : List Int) (hb : ∀ z ∈ L, 0 ≤ z ∧ z ≤ 255) (j : Nat) (hj : j < L.length) : (bt (strOfNums L) j : Int) = L.getD j 0 := by
  have hsz : j < (strOfNums L).size := by rw [strOfNums_size]; exact hj
  obtain ⟨b, e1, e2⟩ := bt_list (strOfNums L) j hsz
  rw [strOfNums_data] at e1
  rw [List.getElem?_map, List.getElem?_eq_getElem hj] at e1
  simp only [Option.map_some, Option.some.injEq] at e1
  have := hb _ (List.getElem_mem hj)
  rw [← e2, ← e1]
  simp [List.getD, List.getElem?_eq_getElem hj]
  omega
theorem str_at (L : List Int) (hb : ∀ z ∈ L, 0 ≤ z ∧ z ≤ 255) (j : Nat) (hj : j < L.length) (h : j < (strOfNums L).size) : (((strOfNums L)[j]'h).toNat : Int) = L.getD j 0 := by
  rw [← bt_eq, bt_str L hb j hj]
set_option maxRecDepth 100000 in
set_option maxHeartbeats 4000000 in
theorem rbytes_any (s : ByteArray) (w : World) (hs : s.size ≤ 1048576) :
    Calls Try.prog 41 #[.string s] w fun e w' => ∃ v, e = .returned (.tuple #[v, .int .i64 ((bV s).2.1 : Nat), .int .i64 (bV s).2.2]) ∧ w'.ownsRow w.heap.size 5 1 v (bV s).1.length (bv (bV s).1) ∧ Below w.heap.size w w' := by
  obtain ⟨i0, hi, hz0, hz1, hz2⟩ := info_parts Try.info5
  by_cases hz : 0 < s.size
  · have hzI : (0 : Int) < (s.size : Int) := by omega
    have hzb : ((s.size : Int) == 0) = false := by rw [beq_eq_false_iff_ne]; omega
    obtain ⟨y, hy⟩ : ∃ y, y = bt s 0 := ⟨_, rfl⟩
    have hyl := bt_lt s 0
    have hsy : (s[0]'hz).toNat = y := by rw [hy, bt_eq s 0 hz]
    by_cases h34 : bt s 0 = 34
    · have hq : q34 s = true := by unfold q34; simp [hz, h34]
      have HV : Hid (bV s = bgo s s.size 1 []) := by rw [Hid, bV, if_pos hq]
      obtain ⟨R, hR⟩ : ∃ R, bV s = R := ⟨_, rfl⟩
      rw [hR]
      have HR : Hid (bgo s s.size 1 [] = R) := by rw [Hid, ← HV.out]; exact hR
      have hy34 : y = 34 := by omega
      subst hy34
      clear hR HV hq hy h34
      go_enter Try.func41, Try.ntmps41
      go_wp2
      go_loopw [5, 6] (fun v a wr => ∃ (i f : Nat) (L : List Int), a = .int .i64 (i : Int) ∧ i ≤ s.size ∧ 1 ≤ i ∧ s.size ≤ i + f ∧ Hid (bgo s f i L = R) ∧ Hid (L.length ≤ 4 * i) ∧ wr.ownsRow w.heap.size 5 1 v L.length (bv L) ∧ Below w.heap.size w wr)
        (fun _ a _ => s.size - (intOf a).toNat)
      case atStart => exact ⟨1, s.size, [], rfl, hz, Nat.le_refl _, by omega, HR, by simp [Hid], World.ownsRow_nil _ _ _ _, Below.refl _ _⟩
      case round =>
        obtain ⟨i, f, L, rfl, hi1, hi0, hf, HG, HL, hown, hb⟩ := hrel
        have hB := hb.size
        have hLl := HL.out
        by_cases hlt : i < s.size
        · have hiI : (i : Int) < (s.size : Int) := by omega
          obtain ⟨f', rfl⟩ : ∃ f', f = f' + 1 := ⟨f - 1, by omega⟩
          by_cases h34 : bt s i = 34
          · by_cases h1 : i + 1 < s.size
            · have HE := hid_of (bgo_34a s f' i L h1 h34)
              have h1I : (i : Int) + 1 < (s.size : Int) := by omega
              go_wp2_with (go_at_call 53; refine (thing_q s i 34 _ (by omega) hlt h34).mono ?_; rintro e wq ⟨rfl, hwq⟩; subst hwq)
              refine bodyPost_ret (results_tmp3 rfl _ _ _) rfl ?_
              rw [← HG.out, HE.out]
              exact ⟨_, rfl, World.ownsRow_nil _ _ _ _, hb⟩
            · have HE := hid_of (bgo_34b s f' i L hlt h1 h34)
              have h1I : (s.size : Int) ≤ (i : Int) + 1 := by omega
              go_wp2_with (go_at_call 53; refine (thing_q s i 34 _ (by omega) hlt h34).mono ?_; rintro e wq ⟨rfl, hwq⟩; subst hwq)
              refine bodyPost_ret (results_tmp3 rfl _ _ _) rfl ?_
              rw [← HG.out, HE.out]
              exact ⟨_, rfl, hown, hb⟩
          · by_cases he : (readV (sub s i)).2.2.2 = 0
            · have HE := hid_of (bgo_ok s f' i L hlt h34 he)
              have hus : (sub s i).size = s.size - i := sub_size s i
              obtain ⟨hr1, hr2⟩ := read_size (u := sub s i) (by omega) he
              have hpl := pb_len (readV (sub s i))
              have HPR := hid_of (pb_rng (sub s i))
              have HT : Hid (thRef s i = ((readV (sub s i)).1, (i : Int) + (readV (sub s i)).2.2.1, 0)) := by rw [Hid, thRef, if_pos he]
              have HBE : Hid (∀ b, BP s i b → b = strOfNums (pb (readV (sub s i)))) := fun b h => h he
              obtain ⟨X, hX⟩ : ∃ X, readV (sub s i) = X := ⟨_, rfl⟩
              rw [hX] at HE hr1 hr2 hpl HPR HT HBE
              obtain ⟨Y, hY⟩ : ∃ Y, pb X = Y := ⟨_, rfl⟩
              rw [hY] at HE hpl HPR HBE
              obtain ⟨m, hm⟩ : ∃ m : Nat, X.2.2.1 = m := ⟨X.2.2.1.toNat, by omega⟩
              rw [hm] at HE hr1 hr2 HT
              obtain ⟨c, hc⟩ : ∃ c, X.1 = c := ⟨_, rfl⟩
              rw [hc] at HT
              obtain ⟨T, hT⟩ : ∃ T, strOfNums Y = T := ⟨_, rfl⟩
              have hTs : T.size = Y.length := by rw [← hT, strOfNums_size]
              have HTA : Hid (∀ (j : Nat) (h : j < T.size), ((T[j]'h).toNat : Int) = Y.getD j 0 ∧ 0 ≤ Y.getD j 0 ∧ Y.getD j 0 ≤ 255) := by
                intro j h
                subst hT
                have hj : j < Y.length := by omega
                refine ⟨str_at Y HPR.out j hj h, HPR.out _ ?_⟩
                simp [List.getD, List.getElem?_eq_getElem hj]
              have HTT := hid_of hT
              have hq34 : (bt s i : Int) ≠ 34 := by omega
              have hm1 : i + m ≤ s.size := by omega
              have HTS := hid_of hTs
              have hT4 : T.size ≤ 4 := by omega
              have hY4 : Y.length ≤ 4 := by omega
              clear hX hY hm hc hT he h34 hus hTs
              go_wp2_with (first
                | (go_at_call 53; refine (thing_any s i 34 _ (by omega) hlt hq34).mono ?_; rintro e w1 ⟨⟨bb, rfl, hbb⟩, hb1⟩; obtain rfl : bb = T := (HBE.out bb hbb).trans HTT.out; clear hbb; rw [HT.out, refR]; have hown1 := own_below hown hb1; have hbw1 := hb.trans (hb1.mono hB))
                | fail)
              go_loopw [5, 12] (fun v a wr2 => ∃ k : Nat, k ≤ Y.length ∧ a = .int .i64 (k : Int) ∧ wr2.ownsRow w.heap.size 5 1 v (L.length + k) (bv (L ++ Y.take k)) ∧ Below w.heap.size w wr2) (fun _ a _ => Y.length - (intOf a).toNat)
              case atStart => exact ⟨0, Nat.zero_le _, rfl, by simpa using hown1, hbw1⟩
              case round =>
                obtain ⟨k, hk, rfl, hown2, hb2⟩ := hrel
                have hB2 := hb2.size
                have hsz2 := HTS.out
                by_cases hkl : k < Y.length
                · have hkT : k < bb.size := by omega
                  have hkI : (k : Int) < (bb.size : Int) := by omega
                  obtain ⟨ha1, ha2, ha3⟩ := HTA.out k hkT
                  have hts := take_snoc Y k hkl
                  generalize Y.getD k 0 = d at ha1 ha2 ha3 hts
                  have HTK := hid_of hts
                  clear hts hsz2
                  go_wp2_with (at_builtin; refine wpList_append_own _ rfl _ _ 35 rfl w.heap.size 5 i0 (.int .u8 0) 1 1 Try.underlying35 hi hz0 hz1 hz2 rfl (by decide) _ _ _ rfl (hown2.alloc _) ⟨_, 0, none⟩ 1 1 _ rfl rfl (World.news_of_block (heap_alloc_new _ _)) (by intro u hu; simp at hu; subst hu; rfl) (by unfold maxLen; omega) (by omega) (by simp; omega) ?_; intro va wa owna growa _; have hba := grown_below' hb2 hB2 hown2 growa)
                  go_roundw
                  case rel =>
                    refine ⟨k + 1, by omega, by go_num, ?_, hba⟩
                    rw [HTK.out, ← List.append_assoc, bv_append, ← Nat.add_assoc]
                    exact owna
                  case measure => simp [intOf]; omega
                · obtain rfl : k = Y.length := by omega
                  have hkI : (bb.size : Int) ≤ ((Y.length : Nat) : Int) := by omega
                  rw [List.take_length] at hown2
                  clear hsz2
                  go_wp2
                  go_roundw
                  case rel =>
                    refine ⟨i + m, f', L ++ Y, by go_num, hm1, by omega, by omega, ?_, ?_, ?_, hb2⟩
                    · rw [Hid, ← HG.out, HE.out, Int.toNat_natCast]
                    · rw [Hid, List.length_append]; omega
                    · rw [List.length_append]; exact hown2
                  case measure => simp [intOf]; omega
            · have HE := hid_of (bgo_bad s f' i L hlt h34 he)
              have HT : Hid (thRef s i = (0, (i : Int), (readV (sub s i)).2.2.2)) := by rw [Hid, thRef, if_neg he]
              obtain ⟨er, her⟩ : ∃ er, (readV (sub s i)).2.2.2 = er := ⟨_, rfl⟩
              rw [her] at HE HT he
              have heb : (er == 0) = false := by rw [beq_eq_false_iff_ne]; exact he
              have hq34 : (bt s i : Int) ≠ 34 := by omega
              clear her h34 he
              go_wp2_with (go_at_call 53; refine (thing_any s i 34 _ (by omega) hlt hq34).mono ?_; rintro e w1 ⟨⟨bb, rfl, hbb⟩, hb1⟩; clear hbb; rw [HT.out, refR])
              refine bodyPost_ret (results_tmp3 rfl _ _ _) rfl ?_
              rw [← HG.out, HE.out]
              exact ⟨_, rfl, World.ownsRow_nil _ _ _ _, hb.trans (hb1.mono hB)⟩
        · have HE := hid_of (bgo_end s f i L hlt)
          have hiI : (s.size : Int) ≤ (i : Int) := by omega
          have hie : i = s.size := by omega
          go_wp2
          refine bodyPost_ret (results_tmp3 rfl _ _ _) rfl ?_
          rw [← HG.out, HE.out, hie]
          exact ⟨_, rfl, World.ownsRow_nil _ _ _ _, hb⟩
    · have hyb : ((y : Int) == 34) = false := by rw [beq_eq_false_iff_ne]; omega
      have HV : Hid (bV s = ([], 0, 11)) := by rw [Hid, bV, q34]; simp [h34]
      rw [HV.out]
      clear HV h34 hy
      go_enter Try.func41, Try.ntmps41
      go_wp2
      refine bodyPost_ret (results_tmp3 rfl _ _ _) rfl ?_
      exact ⟨_, rfl, World.ownsRow_nil _ _ _ _, Below.refl _ _⟩
  · have HV : Hid (bV s = ([], 0, 11)) := by rw [Hid, bV, q34]; simp [hz]
    have hz0 : s.size = 0 := by omega
    rw [HV.out]
    clear HV hz
    go_enter Try.func41, Try.ntmps41
    go_wp2
    refine bodyPost_ret (results_tmp3 rfl _ _ _) rfl ?_
    exact ⟨_, rfl, World.ownsRow_nil _ _ _ _, Below.refl _ _⟩
end Go.Proofs.Ytpndbbepfjocgaa
