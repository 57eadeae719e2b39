import Derived.Test.YtjggbdlmghembaaGreatCDLg
import Derived.Laws.AppendOwnNone
import Derived.Test.YtjggbdlmghembaaGreatCIRi5
namespace Go.Proofs.YtjggbdlmghembaaGreat
open Go.RowKit Go.WideShapes
set_option maxRecDepth 100000

theorem sub_take {L : List (Nat × Nat)} {a n m : Nat} (h : n ≤ m) : (L.drop a).take n = ((L.drop a).take m).take n := by rw [List.take_take, Nat.min_eq_left h]
/-- what abides in the loops: the result's cells -/
structure RlS (w wr : World) : Prop where
  bw : Below w.heap.size w wr
  ob : wr.heap[w.heap.size]? = some (.cells (pcA 0 (0, 0, 0)) 27)
theorem RlS.next {w wr w' : World} (h : RlS w wr) (hb : Below wr.heap.size wr w') : RlS w w' := ⟨h.bw.trans (hb.mono h.bw.size), (hb.block _ (Array.getElem?_eq_some_iff.1 h.ob).1).trans h.ob⟩
set_option maxHeartbeats 4000000 in
theorem rLongest_any (ao : Option Addr) (cap a e : Nat) (L : List (Nat × Nat)) (w : World) (hL : L.length ≤ 140737488355328) (ha : a < 4294967296) (he : e < 4294967296) (hwf : Wfc L) (hr : CRd w ao L w.heap.size) :
    Calls Tryz.prog 6 #[.slice ao L.length cap, .int .u32 (a : Int), .int .u32 (e : Int)] w fun x w' => x = .returned (.tuple #[.agg (pcA (lnP L a e).1 (lnP L a e).2), .int .i64 (lnE L a e : Int)]) ∧ Below w.heap.size w w' := by
  by_cases hae : a < e
  · have d1 : decide ((e : Int) ≤ (a : Int)) = false := by simp; omega
    by_cases hel : e ≤ L.length
    · have d2 : decide ((L.length : Int) < (e : Int)) = false := by simp; omega
      obtain ⟨b, off, rfl, hbl, hc⟩ := hr (by omega)
      have x0 := (hc a (by omega)).1
      have x1 := (hc a (by omega)).2
      obtain ⟨hop, harg⟩ := hwf.at (k := a) (by omega)
      have hi : (a : Int) < L.length := by omega
      rw [show lnE L a e = erV (L.getD a (0, 0)).1 (L.getD a (0, 0)).2 by simp [lnE, hae, hel]]
      rw [show lnP L a e = if erV (L.getD a (0, 0)).1 (L.getD a (0, 0)).2 = 0 then (a, lgV ((L.drop a).take (e - a))) else (0, 0, 0, 0) by simp [lnP, hae, hel]]
      have HKN := dhid (fun j (hj : j < e - a) w' => known_any (L.getD (a + j) (0, 0)).1 w' (hwf.at (k := a + j) (by omega)).1)
      have HPL := dhid (fun n (hn : n ≤ e - a) w' (hb : Below w.heap.size w w') => played_any (some ⟨b, off, none⟩) cap a n L w' hL (by omega) hwf ((hr.below hb).mono hb.size))
      have hMl : ((L.drop a).take (e - a)).length = e - a := by simp; omega
      have hMg : ∀ i, i < e - a → ((L.drop a).take (e - a)).getD i (0, 0) = L.getD (a + i) (0, 0) := fun i h => sub_getD h
      have hMw : ∀ p ∈ (L.drop a).take (e - a), p.1 < 256 := fun p hp => (wfc_sub hwf a (e - a) p hp).1
      have hMt : ∀ n, n ≤ e - a → (L.drop a).take n = ((L.drop a).take (e - a)).take n := fun n h => sub_take h
      generalize (L.drop a).take (e - a) = M at *
      have HLC := dhid (fun j (hj : j < e - a) V (hh : Below w.heap.size w V) => (hh.cell (p := ⟨b, off + (a + j) * 2, none⟩) hbl).trans (hc (a + j) (by omega)).1)
      have hpp : Hid (L.getD a (0, 0) = L.getD (a + 0) (0, 0)) := dhid rfl
      generalize hq : L.getD a (0, 0) = pp at *
      obtain ⟨op, arg⟩ := pp
      simp only at x0 x1 hop harg ⊢
      have HC := dhid (fun w' => rcheck_any op arg w' hop)
      have hbd : Below w.heap.size w w := Below.refl _ _
      have HA := dhid (fun o => hbd.alloc (Nat.le_refl _) o)
      clear hc hr hwf hq hpp
      by_cases her : erV op arg = 0
      · rw [if_pos her, her]
        rw [her] at HC
        go_enter Tryz.func6, Tryz.ntmps6
        go_wp2_with (go_at_call 13; with_reducible refine (HC.out _).mono ?_; rintro x w1 ⟨rfl, hb1⟩
                     have S1 : RlS w w1 := ⟨(HA.out _).trans (hb1.mono (by simp)), (hb1.block w.heap.size (by simp)).trans (heap_alloc_new w _)⟩)
        go_loopw [9] (fun v wr => ∃ m : Nat, v = .int .i64 m ∧ m ≤ e - a ∧ RlS w wr)
          (fun v _ => e - a - (intOf v).toNat)
        case atStart => exact ⟨0, rfl, Nat.zero_le _, S1⟩
        case round =>
          obtain ⟨m, rfl, hm, SX⟩ := hrel
          have q0 : ((e : Int) - (a : Int)) % 4294967296 = (e : Int) - (a : Int) := by omega
          have q00 : m < 4294967296 := by omega
          by_cases hlt : m < e - a
          · have hltI : (m : Int) < (e : Int) - (a : Int) := by omega
            have t0 : (a : Int) + (m : Int) < (L.length : Int) := by omega
            have t1 : (0 : Int) ≤ (a : Int) + (m : Int) := by omega
            have t2 : ((a : Int) + (m : Int)).toNat = a + m := by omega
            have t3 : IntKind.i64.wrap ((a : Int) + (m : Int)) = (a : Int) + (m : Int) := by rw [IntKind.wrap_i64]; omega
            have y0 := HLC.out m hlt wr SX.bw
            have hg := hMg m hlt
            have HK := dhid (HKN.out m hlt wr)
            generalize L.getD (a + m) (0, 0) = p at *
            cases hk : kn p.1 with
            | true =>
              rw [hk] at HK
              go_wp2_with fail
              refine HK.out.mono ?_
              rintro x w2 ⟨rfl, hb2⟩
              have S2 := SX.next hb2
              go_wp2
              go_roundw
              case rel => exact ⟨m + 1, by go_num, by omega, S2⟩
              case measure => simp [intOf]; omega
            | false =>
              rw [hk] at HK
              have hfar : ∀ n, m < n → n ≤ M.length → plD (M.take n) [] = none := fun n h1 h2 => plD_far (by omega) (by rw [hg]; exact hk) h1 h2 []
              clear hg hk
              go_wp2_with fail
              refine HK.out.mono ?_
              rintro x w2 ⟨rfl, hb2⟩
              replace SX := SX.next hb2
              clear hb2 HK
              have hml := dhid (srch_lgV hMw (show m ≤ M.length by omega) hfar)
              clear hfar HKN HLC HC HA hMg
              go_wp2_with fail
              go_loopw [10] (fun v wr => ∃ n : Nat, v = .int .i64 n ∧ n ≤ m ∧ srch M m = srch M n ∧ RlS w wr)
                (fun v _ => (intOf v).toNat)
              case atStart => exact ⟨m, rfl, Nat.le_refl _, rfl, SX⟩
              case round =>
                obtain ⟨n, rfl, hn, hsr, S2⟩ := hrel
                have HS2 := dhid S2.ob
                have HB2 := dhid S2.bw
                by_cases hn2 : 2 ≤ n
                · have q1 : (2 : Int) ≤ (n : Int) := by omega
                  have q2 : IntKind.i64.wrap (a : Int) = (a : Int) := by rw [IntKind.wrap_i64]; omega
                  have HP := dhid (HPL.out n (by omega) wr S2.bw)
                  rw [hMt n (by omega)] at HP
                  cases hpd : plD (M.take n) [] with
                  | none =>
                    rw [hpd] at HP
                    have hsr' := hsr.trans (show srch M n = srch M (n - 1) by
                      obtain ⟨j, rfl⟩ : ∃ j, n = j + 1 := ⟨n - 1, by omega⟩
                      exact srch_miss hpd (by omega))
                    clear hsr hpd HPL
                    go_wp2_with fail
                    refine HP.out.mono ?_
                    rintro x w3 ⟨⟨kk, vv, -, rfl⟩ | ⟨kk, vv, hk0, -⟩, hb3⟩
                    · have S3 := S2.next hb3
                      have q3 : IntKind.i64.wrap ((n : Int) - 1) = ((n - 1 : Nat) : Int) := by rw [IntKind.wrap_i64]; omega
                      go_wp2
                      go_roundw
                      case rel => exact ⟨n - 1, by go_num, by omega, hsr', S3⟩
                      case measure => simp [intOf]; omega
                    · cases hk0
                  | some q =>
                    obtain ⟨kk, vv⟩ := q
                    rw [hpd] at HP
                    have HG : Hid (lgV M = (n, kk, vv)) := dhid (by rw [← hml.out, hsr]; exact srch_hit hn2 hpd)
                    clear hsr hpd HPL
                    go_wp2_with fail
                    refine HP.out.mono ?_
                    rintro x w3 ⟨⟨k0, v0, hk0, -⟩ | ⟨k0, v0, hk0, rfl⟩, hb3⟩
                    · cases hk0
                    · cases hk0
                      have S3 := S2.next hb3
                      have o3 := dhid S3.ob
                      have hB3 := dhid S3.bw
                      have q4 : n < 4294967296 := by omega
                      go_wp2_with (refine wpList_store_rowD rfl _ _ _ rfl w.heap.size _ (pcA a (n, kk, vv)) rfl rfl o3.out (by rw [sizeDPc]; rfl) rfl (by simp [pcA, Value.oneCell']) ?_)
                      refine bodyPost_ret (resEPc (p := 6) (u := 7) (by kernel_rfl) _ _ w.heap.size (pcA a (n, kk, vv)) rfl (setRow_heap _ _ _ _ _ _ o3.out) _ rfl rfl) rfl ⟨by rw [HG.out]; rfl, hB3.out.trans ((KpSetRow (S := fun k => k = w.heap.size) _ w.heap.size _ rfl).below hB3.out.size (fun i e => by omega))⟩
                · have q1 : ¬ (2 : Int) ≤ (n : Int) := by omega
                  have HG : Hid (lgV M = (1, 1, 0)) := dhid (by
                    rw [← hml.out, hsr]
                    rcases Nat.eq_zero_or_pos n with rfl | h
                    · rfl
                    · obtain rfl : n = 1 := by omega
                      rfl)
                  clear hsr HPL
                  go_wp2_with (refine wpList_store_rowD rfl _ _ _ rfl w.heap.size _ (pcA a (1, 1, 0)) rfl rfl HS2.out (by rw [sizeDPc]; rfl) rfl (by simp [pcA, Value.oneCell']) ?_)
                  refine bodyPost_ret (resEPc (p := 6) (u := 7) (by kernel_rfl) _ _ w.heap.size (pcA a (1, 1, 0)) rfl (setRow_heap _ _ _ _ _ _ HS2.out) _ rfl rfl) rfl ⟨by rw [HG.out]; rfl, HB2.out.trans ((KpSetRow (S := fun k => k = w.heap.size) _ w.heap.size _ rfl).below HB2.out.size (fun i e => by omega))⟩
          · have hltI : ¬ (m : Int) < (e : Int) - (a : Int) := by omega
            have hfar : ∀ n, m < n → n ≤ M.length → plD (M.take n) [] = none := fun n h1 h2 => absurd h1 (by omega)
            have hml := dhid (srch_lgV hMw (show m ≤ M.length by omega) hfar)
            clear hfar HKN HLC HC HA hMg
            go_wp2_with fail
            go_loopw [10] (fun v wr => ∃ n : Nat, v = .int .i64 n ∧ n ≤ m ∧ srch M m = srch M n ∧ RlS w wr)
              (fun v _ => (intOf v).toNat)
            case atStart => exact ⟨m, rfl, Nat.le_refl _, rfl, SX⟩
            case round =>
              obtain ⟨n, rfl, hn, hsr, S2⟩ := hrel
              have HS2 := dhid S2.ob
              have HB2 := dhid S2.bw
              by_cases hn2 : 2 ≤ n
              · have q1 : (2 : Int) ≤ (n : Int) := by omega
                have q2 : IntKind.i64.wrap (a : Int) = (a : Int) := by rw [IntKind.wrap_i64]; omega
                have HP := dhid (HPL.out n (by omega) wr S2.bw)
                rw [hMt n (by omega)] at HP
                cases hpd : plD (M.take n) [] with
                | none =>
                  rw [hpd] at HP
                  have hsr' := hsr.trans (show srch M n = srch M (n - 1) by
                    obtain ⟨j, rfl⟩ : ∃ j, n = j + 1 := ⟨n - 1, by omega⟩
                    exact srch_miss hpd (by omega))
                  clear hsr hpd HPL
                  go_wp2_with fail
                  refine HP.out.mono ?_
                  rintro x w3 ⟨⟨kk, vv, -, rfl⟩ | ⟨kk, vv, hk0, -⟩, hb3⟩
                  · have S3 := S2.next hb3
                    have q3 : IntKind.i64.wrap ((n : Int) - 1) = ((n - 1 : Nat) : Int) := by rw [IntKind.wrap_i64]; omega
                    go_wp2
                    go_roundw
                    case rel => exact ⟨n - 1, by go_num, by omega, hsr', S3⟩
                    case measure => simp [intOf]; omega
                  · cases hk0
                | some q =>
                  obtain ⟨kk, vv⟩ := q
                  rw [hpd] at HP
                  have HG : Hid (lgV M = (n, kk, vv)) := dhid (by rw [← hml.out, hsr]; exact srch_hit hn2 hpd)
                  clear hsr hpd HPL
                  go_wp2_with fail
                  refine HP.out.mono ?_
                  rintro x w3 ⟨⟨k0, v0, hk0, -⟩ | ⟨k0, v0, hk0, rfl⟩, hb3⟩
                  · cases hk0
                  · cases hk0
                    have S3 := S2.next hb3
                    have o3 := dhid S3.ob
                    have hB3 := dhid S3.bw
                    have q4 : n < 4294967296 := by omega
                    go_wp2_with (refine wpList_store_rowD rfl _ _ _ rfl w.heap.size _ (pcA a (n, kk, vv)) rfl rfl o3.out (by rw [sizeDPc]; rfl) rfl (by simp [pcA, Value.oneCell']) ?_)
                    refine bodyPost_ret (resEPc (p := 6) (u := 7) (by kernel_rfl) _ _ w.heap.size (pcA a (n, kk, vv)) rfl (setRow_heap _ _ _ _ _ _ o3.out) _ rfl rfl) rfl ⟨by rw [HG.out]; rfl, hB3.out.trans ((KpSetRow (S := fun k => k = w.heap.size) _ w.heap.size _ rfl).below hB3.out.size (fun i e => by omega))⟩
              · have q1 : ¬ (2 : Int) ≤ (n : Int) := by omega
                have HG : Hid (lgV M = (1, 1, 0)) := dhid (by
                  rw [← hml.out, hsr]
                  rcases Nat.eq_zero_or_pos n with rfl | h
                  · rfl
                  · obtain rfl : n = 1 := by omega
                    rfl)
                clear hsr HPL
                go_wp2_with (refine wpList_store_rowD rfl _ _ _ rfl w.heap.size _ (pcA a (1, 1, 0)) rfl rfl HS2.out (by rw [sizeDPc]; rfl) rfl (by simp [pcA, Value.oneCell']) ?_)
                refine bodyPost_ret (resEPc (p := 6) (u := 7) (by kernel_rfl) _ _ w.heap.size (pcA a (1, 1, 0)) rfl (setRow_heap _ _ _ _ _ _ HS2.out) _ rfl rfl) rfl ⟨by rw [HG.out]; rfl, HB2.out.trans ((KpSetRow (S := fun k => k = w.heap.size) _ w.heap.size _ rfl).below HB2.out.size (fun i e => by omega))⟩
      · rw [if_neg her]
        have hE1 : ((erV op arg : Int) != 0) = true := by simp; omega
        have hE2 : ¬ (erV op arg : Int) = 0 := by omega
        go_enter Tryz.func6, Tryz.ntmps6
        go_wp2_with (first
          | (go_at_call 13; with_reducible refine (HC.out _).mono ?_; rintro x w1 ⟨rfl, hb1⟩
             have o1 := dhid ((hb1.block w.heap.size (by simp)).trans (heap_alloc_new w _))
             have hB1 := dhid ((HA.out _).trans (hb1.mono (by simp))))
          | (refine wpList_store_rowD rfl _ _ _ rfl w.heap.size _ (pcA 0 (0, 0, 0)) rfl rfl o1.out (by rw [sizeDPc]; rfl) rfl (by simp [pcA, Value.oneCell']) ?_))
        refine bodyPost_ret (resEPc (p := 6) (u := 7) (by kernel_rfl) _ _ w.heap.size (pcA 0 (0, 0, 0)) rfl (setRow_heap _ _ _ _ _ _ o1.out) _ rfl rfl) rfl ⟨rfl, hB1.out.trans ((KpSetRow (S := fun k => k = w.heap.size) _ w.heap.size _ rfl).below hB1.out.size (fun i e => by omega))⟩
    · have d2 : decide ((L.length : Int) < (e : Int)) = true := by simp; omega
      rw [show lnE L a e = 2 by simp [lnE, hae, hel], show lnP L a e = (0, 0, 0, 0) by simp [lnP, hae, hel]]
      clear hr
      go_enter Tryz.func6, Tryz.ntmps6
      go_wp2
      exact bodyPost_ret (resEPc (p := 6) (u := 7) (by kernel_rfl) _ _ w.heap.size (pcA 0 (0, 0, 0)) rfl (heap_alloc_last w _) _ rfl rfl) rfl ⟨rfl, bel (Below.refl _ _)⟩
  · have d1 : decide ((e : Int) ≤ (a : Int)) = true := by simp; omega
    rw [show lnE L a e = 2 by simp [lnE, hae], show lnP L a e = (0, 0, 0, 0) by simp [lnP, hae]]
    clear hr
    go_enter Tryz.func6, Tryz.ntmps6
    go_wp2
    exact bodyPost_ret (resEPc (p := 6) (u := 7) (by kernel_rfl) _ _ w.heap.size (pcA 0 (0, 0, 0)) rfl (heap_alloc_last w _) _ rfl rfl) rfl ⟨rfl, bel (Below.refl _ _)⟩
end Go.Proofs.YtjggbdlmghembaaGreat
namespace Go.Proofs.YtjggbdlmghembaaGreat
open Go.RowKit Go.WideShapes
set_option maxRecDepth 100000

theorem cvD_get (L : List (Nat × Nat)) : ∀ j, j < L.length → (cv L)[j * 2]? = some (.int .u8 (L.getD j (0, 0)).1) ∧ (cv L)[j * 2 + 1]? = some (.int .u32 (L.getD j (0, 0)).2) := by
  induction L with
  | nil => intro j hj; simp at hj
  | cons p L ih =>
    intro j hj
    cases j with
    | zero => exact ⟨rfl, rfl⟩
    | succ j =>
      have := ih j (by simpa using hj)
      rw [show cv (p :: L) = .int .u8 p.1 :: .int .u32 p.2 :: cv L from rfl, show (j + 1) * 2 = j * 2 + 1 + 1 by omega, show (p :: L).getD (j + 1) (0, 0) = L.getD j (0, 0) from rfl]
      exact this
/-- code that lies in a block of its own is read -/
theorem crd_blkD {w : World} {b : Nat} {cs : Array Value} {t : TypeId} {L : List (Nat × Nat)} (h : w.heap[b]? = some (.cells cs t)) (hcs : cs.toList = cv L) : CRd w (some ⟨b, 0, none⟩) L w.heap.size := by
  intro _
  refine ⟨b, 0, rfl, (Array.getElem?_eq_some_iff.1 h).1, fun j hj => ?_⟩
  have := cvD_get L j hj
  rw [← hcs] at this
  rw [Nat.zero_add, obj_cell h, obj_cell h]
  simpa using this
def awL : List (Nat × Nat) := [(8, 2), (8, 3), (41, 0), (38, 0), (31, 0)]
theorem awL_wf : Wfc awL := by unfold Wfc awL; decide +kernel
theorem aw1 : lnP awL 0 5 = (0, 4, 2, 4294967290) ∧ lnE awL 0 5 = 0 := by decide +kernel
theorem aw2 : lnP awL 4 5 = (4, 1, 1, 0) ∧ lnE awL 4 5 = 0 := by decide +kernel
abbrev awC : Array Value := #[.int .u8 8, .int .u32 2, .int .u8 8, .int .u32 3, .int .u8 41, .int .u32 0, .int .u8 38, .int .u32 0, .int .u8 31, .int .u32 0]
theorem aw1_call (b : Nat) (w : World) (h : w.heap[b]? = some (.cells awC 34)) :
    Calls Tryz.prog 5 #[.slice (some ⟨b, 0, none⟩) 5 5, .int .u32 0, .int .u32 5] w fun x w' => x = .returned (.tuple #[.agg #[.int .u32 0, .int .u32 4, .int .u8 2, .int .u32 4294967290], .int .i64 0]) ∧ Below w.heap.size w w' := by
  have := Longest_any (some ⟨b, 0, none⟩) 5 0 5 awL w (by decide) (by decide) (by decide) (by decide) awL_wf (crd_blkD h rfl)
  rw [aw1.1, aw1.2] at this
  exact this
theorem aw2_call (b : Nat) (w : World) (h : w.heap[b]? = some (.cells awC 34)) :
    Calls Tryz.prog 5 #[.slice (some ⟨b, 0, none⟩) 5 5, .int .u32 4, .int .u32 5] w fun x w' => x = .returned (.tuple #[.agg #[.int .u32 4, .int .u32 1, .int .u8 1, .int .u32 0], .int .i64 0]) ∧ Below w.heap.size w w' := by
  have := Longest_any (some ⟨b, 0, none⟩) 5 4 5 awL w (by decide) (by decide) (by decide) (by decide) awL_wf (crd_blkD h rfl)
  rw [aw2.1, aw2.2] at this
  exact this
theorem at_pc {P : Program} {ops : Array Oper} {Q : Exit → Act → World → Prop} {rest : List Oper} {o : Oper} {a : Act} {w : World} {p q : Operand} (_ho : o.op = .store 27 p q) (h : wpList P ops Q (o :: rest) a w) : wpList P ops Q (o :: rest) a w := h
set_option maxHeartbeats 1000000 in
theorem fawake_any (w : World) : Calls Tryz.prog 9 #[] w fun x w' => x = .returned (.bool true) ∧ Below w.heap.size w w' := by
  have hbd : Below w.heap.size w w := Below.refl _ _
  have H1 := dhid (fun o => aw1_call w.heap.size (w.alloc o))
  go_enter Tryz.func9, Tryz.ntmps9
  go_wp2_with fail
  with_reducible refine (H1.out _ ?_).mono ?_
  · exact heap_alloc_new w _
  rintro x w1 ⟨rfl, hb1⟩
  have o1 := dhid ((hb1.block w.heap.size (by simp)).trans (heap_alloc_new w _))
  have hB1 := dhid ((hbd.alloc (Nat.le_refl _) _).trans (hb1.mono (by simp)))
  have hz1 := hb1.size
  simp at hz1
  have H2 := dhid (fun o => aw2_call w.heap.size (w1.alloc o) ((Below.heap_alloc _ _ _ (by omega)).trans o1.out))
  clear H1
  go_wp2_with fail
  with_reducible refine (H2.out _).mono ?_
  rintro x w2 ⟨rfl, hb2⟩
  have p2 := dhid ((hb2.block w1.heap.size (by simp)).trans (heap_alloc_new w1 _))
  have hB2 := dhid ((hB1.out.alloc hB1.out.size _).trans (hb2.mono (by simp; omega)))
  clear H2
  have p3 := setRow_heap w2 w1.heap.size _ #[.int .u32 4, .int .u32 1, .int .u8 1, .int .u32 0] _ _ p2.out
  have e0 := obj_cell p3 0
  have e1 := obj_cell p3 1
  have e2 := obj_cell p3 2
  have e3 := obj_cell p3 3
  simp only [List.getElem?_toArray, List.getElem?_cons_zero, List.getElem?_cons_succ] at e0 e1 e2 e3
  replace p3 := trivial
  go_wp2_with (refine wpList_store_rowD rfl _ _ _ rfl w1.heap.size _ #[.int .u32 4, .int .u32 1, .int .u8 1, .int .u32 0] rfl rfl p2.out (by rw [sizeDPc]; rfl) rfl (by simp [Value.oneCell']) ?_)
  go_ret
  exact ⟨rfl, hB2.out.trans ((KpSetRow (S := fun k => k = w1.heap.size) _ w1.heap.size _ rfl).below hB2.out.size (fun i e => by omega))⟩
end Go.Proofs.YtjggbdlmghembaaGreat
namespace Go.Proofs.YtjggbdlmghembaaGreat
open Go.RowKit Go.WideShapes
set_option maxRecDepth 100000

theorem infoDI : ∃ i : TypeInfo, Tryz.prog.info? 34 = some i ∧ i.zero = some (.agg #[.int .u8 0, .int .u32 0]) ∧ i.size = 2 ∧ i.bytes = 8 := by
  have h : (Tryz.prog.info? 34).map (fun i => (i.zero, i.size, i.bytes)) = some (some (.agg #[.int .u8 0, .int .u32 0]), 2, 8) := by kernel_rfl
  cases hi : Tryz.prog.info? 34 with
  | none => rw [hi] at h; simp at h
  | some i =>
    rw [hi] at h
    simp only [Option.map_some, Option.some.injEq, Prod.mk.injEq] at h
    exact ⟨i, rfl, h.1, h.2.1, h.2.2⟩
theorem cvD_one (L : List (Nat × Nat)) : ∀ u ∈ cv L, u.oneCell' = true := by
  intro u hu
  simp [cv] at hu
  obtain ⟨a, b, _, h | h⟩ := hu <;> subst h <;> rfl
/-- code that is read is put behind a row -/
theorem append_crd {w : World} {ops : Array Oper} {rest : List Oper} {o : Oper} {a : Act} {Q : Exit → Act → World → Prop} (hgd : o.guard = none) (s x : Operand)
    (ho : o.op = .call { callee := .builtin .append, args := #[s, x], argTypes := #[22, 22] })
    (base : Nat) (v : Value) (A : List (Nat × Nat)) (hs : a.eval s = v) (hown : w.ownsRow base 34 2 v A.length (cv A))
    (ao : Option Addr) (cap : Nat) (L : List (Nat × Nat)) (hx : a.eval x = .slice ao L.length cap) (hn : ao = none → cap = 0) (hr : CRd w ao L w.heap.size)
    (hb : A.length + L.length ≤ 4000000) (hbase : base ≤ w.heap.size)
    (h : ∀ v' w', w'.ownsRow base 34 2 v' (A ++ L).length (cv (A ++ L)) → w.grownBy w' v.ownBlock → wpList Tryz.prog ops Q rest (a.put o.dst v') w') : wpList Tryz.prog ops Q (o :: rest) a w := by
  obtain ⟨i, hi, hz0, hz1, hz2⟩ := infoDI
  cases ao with
  | none =>
    have hL : L = [] := by
      cases L with
      | nil => rfl
      | cons p L => obtain ⟨b, off, e, _⟩ := hr (by simp); cases e
    subst hL
    rw [hn rfl] at hx
    refine wpList_append_own_none hgd s x 22 ho base 34 i 2 Tryz.underlying22 hi v A.length (cv A) hs hown hx ?_
    exact h v w (by simpa using hown) (World.grownBy.refl _ _)
  | some ad =>
    refine wpList_append_own w hgd s x 22 ho base 34 i (.agg #[.int .u8 0, .int .u32 0]) 2 8 Tryz.underlying22 hi hz0 hz1 hz2 rfl (by decide) v A.length (cv A) hs hown ad L.length cap (cv L) hx (cv_len L) ?_ (cvD_one L) (by unfold maxLen; omega) (by omega) hbase (fun v' w' h1 h2 _ => h v' w' (by rw [List.length_append, cv_append]; exact h1) h2)
    intro j u hj
    have hjl : j < L.length * 2 := by
      have := (List.getElem?_eq_some_iff.1 hj).1
      rwa [cv_len] at this
    obtain ⟨b, off, e, hlt, hc⟩ := hr (by omega)
    cases e
    have hd := hc (j / 2) (by omega)
    have hg := cvD_get L (j / 2) (by omega)
    rw [show w.cell? ((⟨b, off, none⟩ : Addr).add j) = w.cell? ⟨b, off + j, none⟩ by rw [Go.WideShapes.add_plain]]
    rcases Nat.mod_two_eq_zero_or_one j with hm | hm
    · rw [show (cv L)[j]? = (cv L)[j / 2 * 2]? from congrArg (fun k => (cv L)[k]?) (by omega), hg.1] at hj
      cases hj
      rw [show off + j = off + j / 2 * 2 by omega]
      exact hd.1
    · rw [show (cv L)[j]? = (cv L)[j / 2 * 2 + 1]? from congrArg (fun k => (cv L)[k]?) (by omega), hg.2] at hj
      cases hj
      rw [show off + j = off + j / 2 * 2 + 1 by omega]
      exact hd.2
/-- a row that is owned is read -/
theorem own_crdD {w : World} {B : Nat} {v : Value} {L : List (Nat × Nat)} (h : w.ownsRow B 34 2 v L.length (cv L)) : ∃ ao cap, v = .slice ao L.length cap ∧ L.length ≤ cap ∧ CRd w ao L w.heap.size := by
  rcases h.2 with ⟨rfl, h0⟩ | ⟨g, cap, cur, rfl, hh⟩
  · exact ⟨none, 0, by rw [h0], by omega, fun hp => absurd hp (by omega)⟩
  · refine ⟨some ⟨g, 0, none⟩, cap, rfl, ?_, fun _ => ⟨g, 0, rfl, (h.lt g rfl).2, fun j hj => ?_⟩⟩
    · exact hh.2.2.1
    · obtain ⟨c0, c1⟩ := cvD_get L j hj
      have a0 := h.cells (g := g) rfl _ _ c0
      have a1 := h.cells (g := g) rfl _ _ c1
      rw [Go.WideShapes.add_plain] at a0 a1
      exact ⟨a0, by rw [Nat.add_assoc]; exact a1⟩
theorem lnE_mid (X Y Z : List (Nat × Nat)) (h : 0 < Y.length) : lnE (X ++ Y ++ Z) X.length (X.length + Y.length) = lnE Y 0 Y.length := by
  have e : (X ++ Y ++ Z).getD X.length (0, 0) = Y.getD 0 (0, 0) := by
    simp only [List.getD]
    rw [List.append_assoc, List.getElem?_append_right (Nat.le_refl _), Nat.sub_self, List.getElem?_append_left h]
  simp only [lnE, e]
  rw [if_pos ⟨by omega, by simp⟩, if_pos ⟨h, Nat.le_refl _⟩]
theorem lnP_mid (X Y Z : List (Nat × Nat)) (h : 0 < Y.length) (h0 : lnE Y 0 Y.length = 0) : lnP (X ++ Y ++ Z) X.length (X.length + Y.length) = (X.length, (lnP Y 0 Y.length).2) := by
  have e : (X ++ Y ++ Z).getD X.length (0, 0) = Y.getD 0 (0, 0) := by
    simp only [List.getD]
    rw [List.append_assoc, List.getElem?_append_right (Nat.le_refl _), Nat.sub_self, List.getElem?_append_left h]
  have hE : erV (Y.getD 0 (0, 0)).1 (Y.getD 0 (0, 0)).2 = 0 := by
    rw [lnE, if_pos ⟨h, Nat.le_refl _⟩] at h0; exact h0
  have e2 : ((X ++ Y ++ Z).drop X.length).take (X.length + Y.length - X.length) = Y := by
    rw [List.append_assoc, List.drop_left, Nat.add_sub_cancel_left, List.take_left]
  simp only [lnP, e, e2]
  rw [if_pos ⟨by omega, by simp, hE⟩, if_pos ⟨h, Nat.le_refl _, hE⟩]
  simp
theorem lnP_bad (L : List (Nat × Nat)) (a e : Nat) (h0 : ¬ lnE L a e = 0) : lnP L a e = (0, 0, 0, 0) := by
  unfold lnP
  rw [if_neg]
  rintro ⟨h1, h2, h3⟩
  exact h0 (by rw [lnE, if_pos ⟨h1, h2⟩]; exact h3)
end Go.Proofs.YtjggbdlmghembaaGreat
namespace Go.Proofs.YtjggbdlmghembaaGreat
open Go.RowKit
set_option maxRecDepth 100000

theorem own_lower {w : World} {B B' e sz : Nat} {v : Value} {n : Nat} {xs : List Value} (h : w.ownsRow B e sz v n xs) (hle : B' ≤ B) : w.ownsRow B' e sz v n xs :=
  ⟨h.1, h.2.imp id (fun ⟨g, cap, cur, a, b, c⟩ => ⟨g, cap, cur, a, Nat.le_trans hle b, c⟩)⟩
end Go.Proofs.YtjggbdlmghembaaGreat
