import Derived.Test.YtibhlcfligfhdaaGreatCDLg
import Derived.Test.YtibhlcfligfhdaaGreatCIInf
import Derived.Deep.RegionHeld3
namespace Go.Proofs.YtibhlcfligfhdaaGreat
open Go.RowKit Go.WideShapes
set_option maxRecDepth 100000
theorem sub_take {L : List (Nat × Nat)} {a n m : Nat} (h : n ≤ m) : (L.drop a).take n = ((L.drop a).take m).take n := by rw [List.take_take, Nat.min_eq_left h]
structure RlS (w wr : World) : Prop where
 bw : Below w.heap.size w wr
 ob : wr.heap[w.heap.size]? = some (.cells (pcA 0 (0, 0, 0)) 70)
theorem RlS.next {w wr w' : World} (h : RlS w wr) (hb : Below wr.heap.size wr w') : RlS w w' := ⟨h.bw.trans (hb.mono h.bw.size), (hb.block _ (Array.getElem?_eq_some_iff.1 h.ob).1).trans h.ob⟩
set_option maxHeartbeats 4000000 in
theorem rLongest_any (ao : Option Addr) (cap a e : Nat) (L : List (Nat × Nat)) (w : World) (hL : L.length ≤ 140737488355328) (ha : a < 4294967296) (he : e < 4294967296) (hwf : Wfc L) (hr : CRd w ao L w.heap.size) :
   Calls Tryz.prog 43 #[.slice ao L.length cap, .int .u32 (a : Int), .int .u32 (e : Int)] w fun x w' => x = .returned (.tuple #[.agg (pcA (lnP L a e).1 (lnP L a e).2), .int .i64 (lnE L a e : Int)]) ∧ Below w.heap.size w w' := by
 by_cases hae : a < e
 · have d1 : decide ((e : Int) ≤ (a : Int)) = false := by simp; omega
   by_cases hel : e ≤ L.length
   · have d2 : decide ((L.length : Int) < (e : Int)) = false := by simp; omega
     obtain ⟨b, off, rfl, hbl, hc⟩ := hr (by omega)
     have x0 := (hc a (by omega)).1
     have x1 := (hc a (by omega)).2
     obtain ⟨hop, harg⟩ := hwf.at (k := a) (by omega)
     have hi : (a : Int) < L.length := by omega
     rw [show lnE L a e = erV (L.getD a (0, 0)).1 (L.getD a (0, 0)).2 by simp [lnE, hae, hel]]
     rw [show lnP L a e = if erV (L.getD a (0, 0)).1 (L.getD a (0, 0)).2 = 0 then (a, lgV ((L.drop a).take (e - a))) else (0, 0, 0, 0) by simp [lnP, hae, hel]]
     have HKN := dhid (fun j (hj : j < e - a) w' => known_any (L.getD (a + j) (0, 0)).1 w' (hwf.at (k := a + j) (by omega)).1)
     have HPL := dhid (fun n (hn : n ≤ e - a) w' (hb : Below w.heap.size w w') => played_any (some ⟨b, off, none⟩) cap a n L w' hL (by omega) hwf ((hr.below hb).mono hb.size))
     have hMl : ((L.drop a).take (e - a)).length = e - a := by simp; omega
     have hMg : ∀ i, i < e - a → ((L.drop a).take (e - a)).getD i (0, 0) = L.getD (a + i) (0, 0) := fun i h => sub_getD h
     have hMw : ∀ p ∈ (L.drop a).take (e - a), p.1 < 256 := fun p hp => (wfc_sub hwf a (e - a) p hp).1
     have hMt : ∀ n, n ≤ e - a → (L.drop a).take n = ((L.drop a).take (e - a)).take n := fun n h => sub_take h
     generalize (L.drop a).take (e - a) = M at *
     have HLC := dhid (fun j (hj : j < e - a) V (hh : Below w.heap.size w V) => (hh.cell (p := ⟨b, off + (a + j) * 2, none⟩) hbl).trans (hc (a + j) (by omega)).1)
     have hpp : Hid (L.getD a (0, 0) = L.getD (a + 0) (0, 0)) := dhid rfl
     generalize hq : L.getD a (0, 0) = pp at *
     obtain ⟨op, arg⟩ := pp
     simp only at x0 x1 hop harg ⊢
     have HC := dhid (fun w' => rcheck_any op arg w' hop)
     have hbd : Below w.heap.size w w := Below.refl _ _
     have HA := dhid (fun o => hbd.alloc (Nat.le_refl _) o)
     clear hc hr hwf hq hpp
     by_cases her : erV op arg = 0
     · rw [if_pos her, her]
       rw [her] at HC
       go_enter Tryz.func43, Tryz.ntmps43
       go_wp2_with (go_at_call 25; with_reducible refine (HC.out _).mono ?_; rintro x w1 ⟨rfl, hb1⟩
                    have S1 : RlS w w1 := ⟨(HA.out _).trans (hb1.mono (by simp)), (hb1.block w.heap.size (by simp)).trans (heap_alloc_new w _)⟩)
       go_loopw [9] (fun v wr => ∃ m : Nat, v = .int .i64 m ∧ m ≤ e - a ∧ RlS w wr)
         (fun v _ => e - a - (intOf v).toNat)
       case atStart => exact ⟨0, rfl, Nat.zero_le _, S1⟩
       case round =>
         obtain ⟨m, rfl, hm, SX⟩ := hrel
         have q0 : ((e : Int) - (a : Int)) % 4294967296 = (e : Int) - (a : Int) := by omega
         have q00 : m < 4294967296 := by omega
         by_cases hlt : m < e - a
         · have hltI : (m : Int) < (e : Int) - (a : Int) := by omega
           have t0 : (a : Int) + (m : Int) < (L.length : Int) := by omega
           have t1 : (0 : Int) ≤ (a : Int) + (m : Int) := by omega
           have t2 : ((a : Int) + (m : Int)).toNat = a + m := by omega
           have t3 : IntKind.i64.wrap ((a : Int) + (m : Int)) = (a : Int) + (m : Int) := by rw [IntKind.wrap_i64]; omega
           have y0 := HLC.out m hlt wr SX.bw
           have hg := hMg m hlt
           have HK := dhid (HKN.out m hlt wr)
           generalize L.getD (a + m) (0, 0) = p at *
           cases hk : kn p.1 with
           | true =>
             rw [hk] at HK
             go_wp2_with fail
             refine HK.out.mono ?_
             rintro x w2 ⟨rfl, hb2⟩
             have S2 := SX.next hb2
             go_wp2
             go_roundw
             case rel => exact ⟨m + 1, by go_num, by omega, S2⟩
             case measure => simp [intOf]; omega
           | false =>
             rw [hk] at HK
             have hfar : ∀ n, m < n → n ≤ M.length → plD (M.take n) [] = none := fun n h1 h2 => plD_far (by omega) (by rw [hg]; exact hk) h1 h2 []
             clear hg hk
             go_wp2_with fail
             refine HK.out.mono ?_
             rintro x w2 ⟨rfl, hb2⟩
             replace SX := SX.next hb2
             clear hb2 HK
             have hml := dhid (srch_lgV hMw (show m ≤ M.length by omega) hfar)
             clear hfar HKN HLC HC HA hMg
             go_wp2_with fail
             go_loopw [10] (fun v wr => ∃ n : Nat, v = .int .i64 n ∧ n ≤ m ∧ srch M m = srch M n ∧ RlS w wr)
               (fun v _ => (intOf v).toNat)
             case atStart => exact ⟨m, rfl, Nat.le_refl _, rfl, SX⟩
             case round =>
               obtain ⟨n, rfl, hn, hsr, S2⟩ := hrel
               have HS2 := dhid S2.ob
               have HB2 := dhid S2.bw
               by_cases hn2 : 2 ≤ n
               · have q1 : (2 : Int) ≤ (n : Int) := by omega
                 have q2 : IntKind.i64.wrap (a : Int) = (a : Int) := by rw [IntKind.wrap_i64]; omega
                 have HP := dhid (HPL.out n (by omega) wr S2.bw)
                 rw [hMt n (by omega)] at HP
                 cases hpd : plD (M.take n) [] with
                 | none =>
                   rw [hpd] at HP
                   have hsr' := hsr.trans (show srch M n = srch M (n - 1) by
                     obtain ⟨j, rfl⟩ : ∃ j, n = j + 1 := ⟨n - 1, by omega⟩
                     exact srch_miss hpd (by omega))
                   clear hsr hpd HPL
                   go_wp2_with fail
                   refine HP.out.mono ?_
                   rintro x w3 ⟨⟨kk, vv, -, rfl⟩ | ⟨kk, vv, hk0, -⟩, hb3⟩
                   · have S3 := S2.next hb3
                     have q3 : IntKind.i64.wrap ((n : Int) - 1) = ((n - 1 : Nat) : Int) := by rw [IntKind.wrap_i64]; omega
                     go_wp2
                     go_roundw
                     case rel => exact ⟨n - 1, by go_num, by omega, hsr', S3⟩
                     case measure => simp [intOf]; omega
                   · cases hk0
                 | some q =>
                   obtain ⟨kk, vv⟩ := q
                   rw [hpd] at HP
                   have HG : Hid (lgV M = (n, kk, vv)) := dhid (by rw [← hml.out, hsr]; exact srch_hit hn2 hpd)
                   clear hsr hpd HPL
                   go_wp2_with fail
                   refine HP.out.mono ?_
                   rintro x w3 ⟨⟨k0, v0, hk0, -⟩ | ⟨k0, v0, hk0, rfl⟩, hb3⟩
                   · cases hk0
                   · cases hk0
                     have S3 := S2.next hb3
                     have o3 := dhid S3.ob
                     have hB3 := dhid S3.bw
                     have q4 : n < 4294967296 := by omega
                     go_wp2_with (refine wpList_store_rowD rfl _ _ _ rfl w.heap.size _ (pcA a (n, kk, vv)) rfl rfl o3.out (by rw [sizeDPc]; rfl) rfl (by simp [pcA, Value.oneCell']) ?_)
                     refine bodyPost_ret (resEPc (p := 6) (u := 7) (by kernel_rfl) _ _ w.heap.size (pcA a (n, kk, vv)) rfl (setRow_heap _ _ _ _ _ _ o3.out) _ rfl rfl) rfl ⟨by rw [HG.out]; rfl, hB3.out.trans ((KpSetRow (S := fun k => k = w.heap.size) _ w.heap.size _ rfl).below hB3.out.size (fun i e => by omega))⟩
               · have q1 : ¬ (2 : Int) ≤ (n : Int) := by omega
                 have HG : Hid (lgV M = (1, 1, 0)) := dhid (by
                   rw [← hml.out, hsr]
                   rcases Nat.eq_zero_or_pos n with rfl | h
                   · rfl
                   · obtain rfl : n = 1 := by omega
                     rfl)
                 clear hsr HPL
                 go_wp2_with (refine wpList_store_rowD rfl _ _ _ rfl w.heap.size _ (pcA a (1, 1, 0)) rfl rfl HS2.out (by rw [sizeDPc]; rfl) rfl (by simp [pcA, Value.oneCell']) ?_)
                 refine bodyPost_ret (resEPc (p := 6) (u := 7) (by kernel_rfl) _ _ w.heap.size (pcA a (1, 1, 0)) rfl (setRow_heap _ _ _ _ _ _ HS2.out) _ rfl rfl) rfl ⟨by rw [HG.out]; rfl, HB2.out.trans ((KpSetRow (S := fun k => k = w.heap.size) _ w.heap.size _ rfl).below HB2.out.size (fun i e => by omega))⟩
         · have hltI : ¬ (m : Int) < (e : Int) - (a : Int) := by omega
           have hfar : ∀ n, m < n → n ≤ M.length → plD (M.take n) [] = none := fun n h1 h2 => absurd h1 (by omega)
           have hml := dhid (srch_lgV hMw (show m ≤ M.length by omega) hfar)
           clear hfar HKN HLC HC HA hMg
           go_wp2_with fail
           go_loopw [10] (fun v wr => ∃ n : Nat, v = .int .i64 n ∧ n ≤ m ∧ srch M m = srch M n ∧ RlS w wr)
             (fun v _ => (intOf v).toNat)
           case atStart => exact ⟨m, rfl, Nat.le_refl _, rfl, SX⟩
           case round =>
             obtain ⟨n, rfl, hn, hsr, S2⟩ := hrel
             have HS2 := dhid S2.ob
             have HB2 := dhid S2.bw
             by_cases hn2 : 2 ≤ n
             · have q1 : (2 : Int) ≤ (n : Int) := by omega
               have q2 : IntKind.i64.wrap (a : Int) = (a : Int) := by rw [IntKind.wrap_i64]; omega
               have HP := dhid (HPL.out n (by omega) wr S2.bw)
               rw [hMt n (by omega)] at HP
               cases hpd : plD (M.take n) [] with
               | none =>
                 rw [hpd] at HP
                 have hsr' := hsr.trans (show srch M n = srch M (n - 1) by
                   obtain ⟨j, rfl⟩ : ∃ j, n = j + 1 := ⟨n - 1, by omega⟩
                   exact srch_miss hpd (by omega))
                 clear hsr hpd HPL
                 go_wp2_with fail
                 refine HP.out.mono ?_
                 rintro x w3 ⟨⟨kk, vv, -, rfl⟩ | ⟨kk, vv, hk0, -⟩, hb3⟩
                 · have S3 := S2.next hb3
                   have q3 : IntKind.i64.wrap ((n : Int) - 1) = ((n - 1 : Nat) : Int) := by rw [IntKind.wrap_i64]; omega
                   go_wp2
                   go_roundw
                   case rel => exact ⟨n - 1, by go_num, by omega, hsr', S3⟩
                   case measure => simp [intOf]; omega
                 · cases hk0
               | some q =>
                 obtain ⟨kk, vv⟩ := q
                 rw [hpd] at HP
                 have HG : Hid (lgV M = (n, kk, vv)) := dhid (by rw [← hml.out, hsr]; exact srch_hit hn2 hpd)
                 clear hsr hpd HPL
                 go_wp2_with fail
                 refine HP.out.mono ?_
                 rintro x w3 ⟨⟨k0, v0, hk0, -⟩ | ⟨k0, v0, hk0, rfl⟩, hb3⟩
                 · cases hk0
                 · cases hk0
                   have S3 := S2.next hb3
                   have o3 := dhid S3.ob
                   have hB3 := dhid S3.bw
                   have q4 : n < 4294967296 := by omega
                   go_wp2_with (refine wpList_store_rowD rfl _ _ _ rfl w.heap.size _ (pcA a (n, kk, vv)) rfl rfl o3.out (by rw [sizeDPc]; rfl) rfl (by simp [pcA, Value.oneCell']) ?_)
                   refine bodyPost_ret (resEPc (p := 6) (u := 7) (by kernel_rfl) _ _ w.heap.size (pcA a (n, kk, vv)) rfl (setRow_heap _ _ _ _ _ _ o3.out) _ rfl rfl) rfl ⟨by rw [HG.out]; rfl, hB3.out.trans ((KpSetRow (S := fun k => k = w.heap.size) _ w.heap.size _ rfl).below hB3.out.size (fun i e => by omega))⟩
             · have q1 : ¬ (2 : Int) ≤ (n : Int) := by omega
               have HG : Hid (lgV M = (1, 1, 0)) := dhid (by
                 rw [← hml.out, hsr]
                 rcases Nat.eq_zero_or_pos n with rfl | h
                 · rfl
                 · obtain rfl : n = 1 := by omega
                   rfl)
               clear hsr HPL
               go_wp2_with (refine wpList_store_rowD rfl _ _ _ rfl w.heap.size _ (pcA a (1, 1, 0)) rfl rfl HS2.out (by rw [sizeDPc]; rfl) rfl (by simp [pcA, Value.oneCell']) ?_)
               refine bodyPost_ret (resEPc (p := 6) (u := 7) (by kernel_rfl) _ _ w.heap.size (pcA a (1, 1, 0)) rfl (setRow_heap _ _ _ _ _ _ HS2.out) _ rfl rfl) rfl ⟨by rw [HG.out]; rfl, HB2.out.trans ((KpSetRow (S := fun k => k = w.heap.size) _ w.heap.size _ rfl).below HB2.out.size (fun i e => by omega))⟩
     · rw [if_neg her]
       have hE1 : ((erV op arg : Int) != 0) = true := by simp; omega
       have hE2 : ¬ (erV op arg : Int) = 0 := by omega
       go_enter Tryz.func43, Tryz.ntmps43
       go_wp2_with (first
         | (go_at_call 25; with_reducible refine (HC.out _).mono ?_; rintro x w1 ⟨rfl, hb1⟩
            have o1 := dhid ((hb1.block w.heap.size (by simp)).trans (heap_alloc_new w _))
            have hB1 := dhid ((HA.out _).trans (hb1.mono (by simp))))
         | (refine wpList_store_rowD rfl _ _ _ rfl w.heap.size _ (pcA 0 (0, 0, 0)) rfl rfl o1.out (by rw [sizeDPc]; rfl) rfl (by simp [pcA, Value.oneCell']) ?_))
       refine bodyPost_ret (resEPc (p := 6) (u := 7) (by kernel_rfl) _ _ w.heap.size (pcA 0 (0, 0, 0)) rfl (setRow_heap _ _ _ _ _ _ o1.out) _ rfl rfl) rfl ⟨rfl, hB1.out.trans ((KpSetRow (S := fun k => k = w.heap.size) _ w.heap.size _ rfl).below hB1.out.size (fun i e => by omega))⟩
   · have d2 : decide ((L.length : Int) < (e : Int)) = true := by simp; omega
     rw [show lnE L a e = 2 by simp [lnE, hae, hel], show lnP L a e = (0, 0, 0, 0) by simp [lnP, hae, hel]]
     clear hr
     go_enter Tryz.func43, Tryz.ntmps43
     go_wp2
     exact bodyPost_ret (resEPc (p := 6) (u := 7) (by kernel_rfl) _ _ w.heap.size (pcA 0 (0, 0, 0)) rfl (heap_alloc_last w _) _ rfl rfl) rfl ⟨rfl, bel (Below.refl _ _)⟩
 · have d1 : decide ((e : Int) ≤ (a : Int)) = true := by simp; omega
   rw [show lnE L a e = 2 by simp [lnE, hae], show lnP L a e = (0, 0, 0, 0) by simp [lnP, hae]]
   clear hr
   go_enter Tryz.func43, Tryz.ntmps43
   go_wp2
   exact bodyPost_ret (resEPc (p := 6) (u := 7) (by kernel_rfl) _ _ w.heap.size (pcA 0 (0, 0, 0)) rfl (heap_alloc_last w _) _ rfl rfl) rfl ⟨rfl, bel (Below.refl _ _)⟩
end Go.Proofs.YtibhlcfligfhdaaGreat
namespace Go.Proofs.YtibhlcfligfhdaaGreat
open Go.RowKit Go.WideShapes
set_option maxRecDepth 100000
theorem cvD_get (L : List (Nat × Nat)) : ∀ j, j < L.length → (cv L)[j * 2]? = some (.int .u8 (L.getD j (0, 0)).1) ∧ (cv L)[j * 2 + 1]? = some (.int .u32 (L.getD j (0, 0)).2) := by
 induction L with
 | nil => intro j hj; simp at hj
 | cons p L ih =>
   intro j hj
   cases j with
   | zero => exact ⟨rfl, rfl⟩
   | succ j =>
     have := ih j (by simpa using hj)
     rw [show cv (p :: L) = .int .u8 p.1 :: .int .u32 p.2 :: cv L from rfl, show (j + 1) * 2 = j * 2 + 1 + 1 by omega, show (p :: L).getD (j + 1) (0, 0) = L.getD j (0, 0) from rfl]
     exact this
end Go.Proofs.YtibhlcfligfhdaaGreat
namespace Go.Proofs.YtibhlcfligfhdaaGreat
open Go.RowKit Go.WideShapes
set_option maxRecDepth 100000
structure Fz where
 at_ : Nat
 len : Nat
 kind : Nat
 op : Nat
 a : Nat
 b : Nat
def fz0 : Fz := ⟨0, 0, 0, 0, 0, 0⟩
def fzA (f : Fz) : Array Value := #[.int .u32 (f.at_ : Int), .int .u32 (f.len : Int), .int .u8 (f.kind : Int), .int .u8 (f.op : Int), .int .u32 (f.a : Int), .int .u32 (f.b : Int)]
theorem sizeFz : (Tryz.prog.info? 28).map (·.size) = some 6 := by kernel_rfl
theorem undFz : ∃ fs, Tryz.prog.underlying 28 = some (.struct fs) := by
 have h : (match Tryz.prog.underlying 28 with | some (.struct _) => true | _ => false) = true := by kernel_rfl
 split at h
 · exact ⟨_, by assumption⟩
 · cases h
theorem resFz {fn : Func} {p : Tmp} (hf : fn.results = #[.cell p 28]) (W : World) (b : Nat) (cs : Array Value) (hs : cs.size = 6) (hb : W.heap[b]? = some (.cells cs 28)) (tmps : Array Value) (h2 : tmps.getD p undef = .pointer (some ⟨b, 0, none⟩)) :
   (results fn tmps).run Tryz.prog W = .ok (.agg cs) W := by
 obtain ⟨fs, hu⟩ := undFz
 exact results_cell_row (p := p) (ty := 28) hf tmps W b 28 cs (0, 0) _ h2 hb hu rfl (by rw [sizeFz, hs])
theorem resFzB {fn : Func} {p u : Tmp} (hf : fn.results = #[.cell p 28, .tmp u]) (t2 : Value) (W : World) (b : Nat) (cs : Array Value) (hs : cs.size = 6) (hb : W.heap[b]? = some (.cells cs 28)) (tmps : Array Value) (h2 : tmps.getD p undef = .pointer (some ⟨b, 0, none⟩)) (h3 : tmps.getD u undef = t2) :
   (results fn tmps).run Tryz.prog W = .ok (.tuple #[.agg cs, t2]) W := by
 obtain ⟨fs, hu⟩ := undFz
 rw [results_cell_tmp hf, h2, h3]
 have := run_loadVar_row (P := Tryz.prog) W b 28 28 cs (0, 0) _ hb hu rfl (by rw [sizeFz, hs])
 simp only [asAddr, Sem.run_pure, Result.andThen, this]
abbrev Lk := Nat × Nat → Fz → Fz × Bool
def lkLocal : Lk := fun p f => ({ f with a := p.2 }, decide (p.1 = 9))
end Go.Proofs.YtibhlcfligfhdaaGreat
