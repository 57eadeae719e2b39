import Derived.Test.YtibhlcfligfhdaaGreatCZDl14
import Derived.Test.YtibhlcfligfhdaaGreatCZDl15b
import Derived.Test.YtibhlcfligfhdaaGreatCZDl1542
import Derived.Test.YtibhlcfligfhdaaGreatCZDl1543
import Derived.Test.YtibhlcfligfhdaaGreatCZDl15op3
import Derived.Test.YtibhlcfligfhdaaGreatCZDd
import Derived.Test.YtibhlcfligfhdaaGreatCZDi6
import Derived.Test.YtibhlcfligfhdaaGreatCZDi9
import Derived.Test.YtibhlcfligfhdaaGreatCZDl11
import Derived.Test.YtibhlcfligfhdaaGreatCZDl13
import Derived.Test.YtibhlcfligfhdaaGreatCDRl
import Derived.Laws.AppendOwnNone
import Derived.Test.YtibhlcfligfhdaaGreatCIRef
import Derived.Test.YtibhlcfligfhdaaGreatCDPl
import Derived.Deep.RegionHeld3
namespace Go.Proofs.YtibhlcfligfhdaaGreat
open Go.RowKit Go.WideShapes Go.Shelf
set_option maxRecDepth 100000
theorem dloc15_any (ao : Option Addr) (cap a e : Nat) (L : List (Nat × Nat)) (w : World) (hL : L.length ≤ 140737488355328) (hae : a < e) (he : e ≤ L.length) (he32 : e < 4294967296) (hwf : Wfc L) (hr : CRd w ao L w.heap.size) :
   Calls Tryz.prog 46 #[.slice ao L.length cap, .int .i64 (a : Int), .int .i64 (e : Int), .agg (fzA ⟨a, e - a, 15, 0, 0, 0⟩)] w fun x w' => LcP L a e 15 x ∧ Below w.heap.size w w' := by
 by_cases h9 : (L.getD a (0, 0)).1 = 9
 · by_cases hn : e < a + 6
   · exact dloc15a_any ao cap a e L w hL hae he he32 hwf hr h9 (fun g hg => by have := ((lc_15 g).1 hg).1; omega) hn
   by_cases hx : L.getD (a + 1) (0, 0) = L.getD a (0, 0)
   · by_cases h2 : (L.getD (a + 2) (0, 0)).1 = 31
     · by_cases h3 : (L.getD (e - 1) (0, 0)).1 = 34
       · cases hd : divB (L.getD (e - 2) (0, 0)).1 with
         | false => exact dloc15op3_any ao cap a e L w hL hae he he32 hwf hr h9 hn hx h2 h3 hd
         | true =>
           unfold divB at hd
           rcases of_decide_eq_true hd with h | h | h | h
           · exact dloc1542_any ao cap a e L w hL hae he he32 hwf hr h9 hn hx h2 h3 h
           · exact dloc1543_any ao cap a e L w hL hae he he32 hwf hr h9 hn hx h2 h3 h
           · exact dloc1544_any ao cap a e L w hL hae he he32 hwf hr h9 hn hx h2 h3 h
           · exact dloc1545_any ao cap a e L w hL hae he he32 hwf hr h9 hn hx h2 h3 h
       · exact dloc15d_any ao cap a e L w hL hae he he32 hwf hr h9 (fun g hg => h3 ((lc_15 g).1 hg).2.2.2.2.1) hn hx h2 h3
     · exact dloc15c_any ao cap a e L w hL hae he he32 hwf hr h9 (fun g hg => h2 ((lc_15 g).1 hg).2.2.2.1) hn hx h2
   · exact dloc15b_any ao cap a e L w hL hae he he32 hwf hr h9 (fun g hg => hx ((lc_15 g).1 hg).2.2.1) hn hx
 · exact dlocN_any ao cap a e 15 L w hL hae he he32 hwf hr h9
end Go.Proofs.YtibhlcfligfhdaaGreat
namespace Go.Proofs.YtibhlcfligfhdaaGreat
open Go.RowKit Go.WideShapes Go.Shelf
set_option maxRecDepth 100000
def ShP (L : List (Nat × Nat)) (a e k : Nat) (x : Ending) : Prop := ∃ (f : Fz) (ok : Bool), x = .returned (.tuple #[.agg (fzA f), .bool ok]) ∧ if ok = true then ShD L a e k f else ∀ g, ¬ ShD L a e k g
theorem sh_no {L : List (Nat × Nat)} {a e k : Nat} (f : Fz) (h : ∀ g, ¬ ShD L a e k g) : ShP L a e k (.returned (.tuple #[.agg (fzA f), .bool false])) := ⟨f, false, rfl, h⟩
theorem sh_facts {ao : Option Addr} {cap a e : Nat} {L : List (Nat × Nat)} {w : World} (hL : L.length ≤ 140737488355328) (hae : a < e) (he : e ≤ L.length) (he32 : e < 4294967296) (hwf : Wfc L) (hr : CRd w ao L w.heap.size) :
   Hid (∀ W (_ : Below w.heap.size w W), Calls Tryz.prog 44 #[.slice ao L.length cap, .int .i64 (a : Int), .int .i64 (e : Int)] W fun x w' => x = .returned (.bool (mayD L a e)) ∧ Below W.heap.size W w') ∧ IntKind.u32.wrap (a : Int) = (a : Int) ∧ (e : Int) - (a : Int) = ((e - a : Nat) : Int) ∧ wrap64 ((e - a : Nat) : Int) = ((e - a : Nat) : Int) ∧ IntKind.i64.wrap ((e - a : Nat) : Int) = ((e - a : Nat) : Int) ∧ IntKind.u32.wrap ((e - a : Nat) : Int) = ((e - a : Nat) : Int) :=
 ⟨dhid (fun W hW => dmay_any ao cap a e L W (by omega) he hwf ((hr.below hW).mono hW.size)), by rw [IntKind.wrap_u32]; omega, by omega, by unfold wrap64; omega, by rw [IntKind.wrap_i64]; omega, by rw [IntKind.wrap_u32]; omega⟩
theorem hy_last {L : List (Nat × Nat)} {a e k : Nat} (h5 : 5 ≤ k) (h10 : k ≤ 10) (hn : ¬ e < a + 2) (hm : mayD L a e = true) (x : Ending) (h : LsP a (e - a) k (cnO ((L.drop a).take (e - 1 - a))) (L.getD (e - 1) (0, 0)) x) :
   ∃ f0 f1 f2 f3 f4 f5 ok, x = .returned (.tuple #[.agg (fzA ⟨f0, f1, f2, f3, f4, f5⟩), .bool ok]) ∧ ShP L a e k (.returned (.tuple #[.agg (fzA ⟨f0, f1, f2, f3, f4, f5⟩), .bool ok])) := by
 obtain ⟨⟨f0, f1, f2, f3, f4, f5⟩, ok, rfl, h⟩ := h
 refine ⟨f0, f1, f2, f3, f4, f5, ok, rfl, _, ok, rfl, ?_⟩
 unfold ShD ShC
 cases ok with
 | true =>
   rw [if_pos rfl] at h ⊢
   rw [if_neg (by omega), if_pos ⟨h5, h10⟩]
   obtain ⟨v, h1, h2⟩ := h
   exact ⟨hm, by omega, v, h1, h2⟩
 | false =>
   rw [if_neg (by decide)] at h ⊢
   intro g hg
   rw [if_neg (by omega), if_pos ⟨h5, h10⟩] at hg
   obtain ⟨-, -, v, h1, h2⟩ := hg
   rw [h v h1] at h2
   cases h2
theorem hy_loc {L : List (Nat × Nat)} {a e k : Nat} (h5 : 11 ≤ k) (h10 : k ≤ 15) (hm : mayD L a e = true) (x : Ending) (h : LcP L a e k x) :
   ∃ f0 f1 f2 f3 f4 f5 ok, x = .returned (.tuple #[.agg (fzA ⟨f0, f1, f2, f3, f4, f5⟩), .bool ok]) ∧ ShP L a e k (.returned (.tuple #[.agg (fzA ⟨f0, f1, f2, f3, f4, f5⟩), .bool ok])) := by
 obtain ⟨⟨f0, f1, f2, f3, f4, f5⟩, ok, rfl, h⟩ := h
 refine ⟨f0, f1, f2, f3, f4, f5, ok, rfl, _, ok, rfl, ?_⟩
 unfold ShD ShC
 cases ok with
 | true => rw [if_pos rfl] at h ⊢; rw [if_neg (by omega), if_neg (by omega), if_pos ⟨h5, h10⟩]; exact ⟨hm, h⟩
 | false =>
   rw [if_neg (by decide)] at h ⊢
   intro g hg
   rw [if_neg (by omega), if_neg (by omega), if_pos ⟨h5, h10⟩] at hg
   exact h g hg.2
theorem Bs.setopr {w V : World} {f r : Fz} (h : Bs w V f r) (v : Nat) : Bs w (V.setCell ⟨w.heap.size + 1, 3, none⟩ (.int .u8 (v : Int))) f { r with op := v } := by
 have h3 := heap_setCell_same V (w.heap.size + 1) 3 _ _ (.int .u8 (v : Int)) h.c1
 have hk := Kp.setCell (S := fun i => i = w.heap.size + 1) V ⟨w.heap.size + 1, 3, none⟩ (.int .u8 (v : Int)) rfl
 have hl := h.lt
 exact ⟨h.bw.trans (hk.below (by omega) (fun i e => by omega)), (hk.block _ (by omega) (by omega)).trans h.c0, h3⟩
theorem Bs.setar {w V : World} {f r : Fz} (h : Bs w V f r) (v : Nat) : Bs w (V.setCell ⟨w.heap.size + 1, 4, none⟩ (.int .u32 (v : Int))) f { r with a := v } := by
 have h3 := heap_setCell_same V (w.heap.size + 1) 4 _ _ (.int .u32 (v : Int)) h.c1
 have hk := Kp.setCell (S := fun i => i = w.heap.size + 1) V ⟨w.heap.size + 1, 4, none⟩ (.int .u32 (v : Int)) rfl
 have hl := h.lt
 exact ⟨h.bw.trans (hk.below (by omega) (fun i e => by omega)), (hk.block _ (by omega) (by omega)).trans h.c0, h3⟩
theorem Bs.put0 {w V : World} {f r f' : Fz} (h : Bs w V f r) : Below w.heap.size w (V.setRow w.heap.size (fzA f')) := h.bw.trans ((KpSetRow (S := fun i => i = w.heap.size) _ _ _ rfl).below h.bw.size (fun i e => by omega))
set_option maxHeartbeats 8000000 in
theorem dshapeN_any (ao : Option Addr) (cap a e k : Nat) (L : List (Nat × Nat)) (w : World) (hL : L.length ≤ 140737488355328) (hae : a < e) (he : e ≤ L.length) (he32 : e < 4294967296) (hwf : Wfc L) (hr : CRd w ao L w.heap.size) (hm : mayD L a e = false) :
   Calls Tryz.prog 22 #[.slice ao L.length cap, .int .i64 (a : Int), .int .i64 (e : Int), .int .u8 (k : Int)] w fun x w' => ShP L a e k x ∧ Below w.heap.size w w' := by
 obtain ⟨HM, v1, hsub, hwn, hwo, v2⟩ := sh_facts (ao := ao) (cap := cap) hL hae he he32 hwf hr
 have HN := dhid (fun f => sh_no (L := L) (a := a) (e := e) (k := k) f (fun g h => by rw [h.1] at hm; cases hm))
 generalize ShP L a e k = PP at HN ⊢
 rw [hm] at HM
 clear hr hwf hL he he32 hae
 generalize e - a = n at *
 go_enter Tryz.func22, Tryz.ntmps22
 go_wp2_with fail
 refine (HM.out _ (zbel2 w _ _)).mono ?_
 rintro en w2 ⟨rfl, hb2⟩
 have HB := dhid ((Bs.new w fz0 ⟨a, n, k, 0, 0, 0⟩).next hb2)
 obtain ⟨z0, z1, z2, z3, z4, z5⟩ := fz_cells HB.out.c1
 simp only at z0 z1 z2 z3 z4 z5
 clear hb2 HM
 go_wp2_with (refine wpList_storeF rfl _ _ rfl w.heap.size fz0 ⟨a, n, k, 0, 0, 0⟩ rfl rfl HB.out.c0 ?_)
 exact bodyPost_ret (resFzB (p := 8) (u := 9) (by kernel_rfl) _ _ w.heap.size _ rfl (setRow_heap _ _ _ _ _ _ HB.out.c0) _ rfl rfl) rfl ⟨HN.out _, HB.out.put0⟩
set_option maxHeartbeats 8000000 in
theorem dshapeZ_any (ao : Option Addr) (cap a e k : Nat) (L : List (Nat × Nat)) (w : World) (hL : L.length ≤ 140737488355328) (hae : a < e) (he : e ≤ L.length) (he32 : e < 4294967296) (hwf : Wfc L) (hr : CRd w ao L w.heap.size) (hm : mayD L a e = true) (hk : ¬ k = 1 ∧ (k < 5 ∨ 15 < k)) :
   Calls Tryz.prog 22 #[.slice ao L.length cap, .int .i64 (a : Int), .int .i64 (e : Int), .int .u8 (k : Int)] w fun x w' => ShP L a e k x ∧ Below w.heap.size w w' := by
 obtain ⟨HM, v1, hsub, hwn, hwo, v2⟩ := sh_facts (ao := ao) (cap := cap) hL hae he he32 hwf hr
 have HN := dhid (fun f => sh_no (L := L) (a := a) (e := e) (k := k) f (fun g h => by
   have h2 := h.2
   unfold ShC at h2
   rw [if_neg hk.1, if_neg (by omega), if_neg (by omega)] at h2
   exact h2))
 generalize ShP L a e k = PP at HN ⊢
 rw [hm] at HM
 have g1 : ((k : Int) == 1) = false := by rw [beq_eq_false_iff_ne]; omega
 have g5 : ((k : Int) == 5) = false := by rw [beq_eq_false_iff_ne]; omega
 have g6 : ((k : Int) == 6) = false := by rw [beq_eq_false_iff_ne]; omega
 have g7 : ((k : Int) == 7) = false := by rw [beq_eq_false_iff_ne]; omega
 have g8 : ((k : Int) == 8) = false := by rw [beq_eq_false_iff_ne]; omega
 have g9 : ((k : Int) == 9) = false := by rw [beq_eq_false_iff_ne]; omega
 have g10 : ((k : Int) == 10) = false := by rw [beq_eq_false_iff_ne]; omega
 have g11 : ((k : Int) == 11) = false := by rw [beq_eq_false_iff_ne]; omega
 have g12 : ((k : Int) == 12) = false := by rw [beq_eq_false_iff_ne]; omega
 have g13 : ((k : Int) == 13) = false := by rw [beq_eq_false_iff_ne]; omega
 have g14 : ((k : Int) == 14) = false := by rw [beq_eq_false_iff_ne]; omega
 have g15 : ((k : Int) == 15) = false := by rw [beq_eq_false_iff_ne]; omega
 clear hk
 clear hr hwf hL he he32 hae
 generalize e - a = n at *
 go_enter Tryz.func22, Tryz.ntmps22
 go_wp2_with fail
 refine (HM.out _ (zbel2 w _ _)).mono ?_
 rintro en w2 ⟨rfl, hb2⟩
 have HB := dhid ((Bs.new w fz0 ⟨a, n, k, 0, 0, 0⟩).next hb2)
 obtain ⟨z0, z1, z2, z3, z4, z5⟩ := fz_cells HB.out.c1
 simp only at z0 z1 z2 z3 z4 z5
 clear hb2 HM
 go_wp2_with (refine wpList_storeF rfl _ _ rfl w.heap.size fz0 ⟨a, n, k, 0, 0, 0⟩ rfl rfl HB.out.c0 ?_)
 exact bodyPost_ret (resFzB (p := 8) (u := 9) (by kernel_rfl) _ _ w.heap.size _ rfl (setRow_heap _ _ _ _ _ _ HB.out.c0) _ rfl rfl) rfl ⟨HN.out _, HB.out.put0⟩
set_option maxHeartbeats 8000000 in
theorem dshape1_any (ao : Option Addr) (cap a e : Nat) (L : List (Nat × Nat)) (w : World) (hL : L.length ≤ 140737488355328) (hae : a < e) (he : e ≤ L.length) (he32 : e < 4294967296) (hwf : Wfc L) (hr : CRd w ao L w.heap.size) (hm : mayD L a e = true) :
   Calls Tryz.prog 22 #[.slice ao L.length cap, .int .i64 (a : Int), .int .i64 (e : Int), .int .u8 1] w fun x w' => ShP L a e 1 x ∧ Below w.heap.size w w' := by
 obtain ⟨HM, v1, hsub, hwn, hwo, v2⟩ := sh_facts (ao := ao) (cap := cap) hL hae he he32 hwf hr
 obtain ⟨b, off, rfl, hbl, hc⟩ := hr (by omega)
 have X0 := dhid (fun (W : World) (hW : Below w.heap.size w W) => (hW.cell (p := ⟨b, off + a * 2, none⟩) hbl).trans (hc a (by omega)).1)
 have X1 := dhid (fun (W : World) (hW : Below w.heap.size w W) => (hW.cell (p := ⟨b, off + a * 2 + 1, none⟩) hbl).trans (hc a (by omega)).2)
 have HY : Hid (ShP L a e 1 (.returned (.tuple #[.agg (fzA ⟨a, e - a, 1, (L.getD a (0, 0)).1, (L.getD a (0, 0)).2, 0⟩), .bool (((e - a : Nat) : Int) == 1)]))) := dhid (by
   rw [show (((e - a : Nat) : Int) == 1) = decide (e - a = 1) from beqN _ 1]
   refine ⟨_, _, rfl, ?_⟩
   by_cases h : e - a = 1
   · rw [decide_eq_true h, if_pos rfl, h]
     exact ⟨hm, by unfold ShC; rw [if_pos rfl]; exact ⟨by omega, rfl⟩⟩
   · rw [decide_eq_false h, if_neg (by decide)]
     intro g hg
     have h2 := hg.2
     unfold ShC at h2
     rw [if_pos rfl] at h2
     exact h (by omega))
 have haL : (a : Int) < (L.length : Int) := by omega
 generalize ShP L a e 1 = PP at HY ⊢
 generalize L.getD a (0, 0) = q at X0 X1 HY
 obtain ⟨op, arg⟩ := q
 simp only at X0 X1 HY
 rw [hm] at HM
 clear hc
 clear hwf hL he he32 hae
 generalize e - a = n at *
 go_enter Tryz.func22, Tryz.ntmps22
 go_wp2_with fail
 refine (HM.out _ (zbel2 w _ _)).mono ?_
 rintro en w2 ⟨rfl, hb2⟩
 have HB := dhid ((Bs.new w fz0 ⟨a, n, 1, 0, 0, 0⟩).next hb2)
 obtain ⟨z0, z1, z2, z3, z4, z5⟩ := fz_cells HB.out.c1
 simp only at z0 z1 z2 z3 z4 z5
 clear hb2 HM
 have y0 := X0.out w2 HB.out.bw
 have y1 := X1.out w2 HB.out.bw
 have hneb : ¬ b = w.heap.size + 1 := by omega
 have hlt2 : w.heap.size + 1 < w2.heap.size := HB.out.lt
 obtain ⟨u0, u1, u2, u3, u4, u5⟩ := fz_frozen HB.out.c1
 have HB3 : Hid (Bs w ((w2.setCell ⟨w.heap.size + 1, 3, none⟩ (.int .u8 (op : Int))).setCell ⟨w.heap.size + 1, 4, none⟩ (.int .u32 (arg : Int))) fz0 ⟨a, n, 1, op, arg, 0⟩) := dhid ((HB.out.setopr op).setar arg)
 go_wp2_with (refine wpList_storeF rfl _ _ rfl w.heap.size fz0 ⟨a, n, 1, op, arg, 0⟩ rfl rfl HB3.out.c0 ?_)
 exact bodyPost_ret (resFzB (p := 8) (u := 9) (by kernel_rfl) _ _ w.heap.size _ rfl (setRow_heap _ _ _ _ _ _ HB3.out.c0) _ rfl rfl) rfl ⟨HY.out, HB3.out.put0⟩
set_option maxRecDepth 100000 in
set_option maxHeartbeats 40000000 in
theorem shB :
   (∀ (ao : Option Addr) (cap a e : Nat) (L : List (Nat × Nat)) (w : World), (L.length ≤ 140737488355328) → (a < e) → (e ≤ L.length) → (e < 4294967296) → (Wfc L) → (CRd w ao L w.heap.size) → (mayD L a e = true) → Calls Tryz.prog 22 #[.slice ao L.length cap, .int .i64 (a : Int), .int .i64 (e : Int), .int .u8 5] w fun x w' => ShP L a e 5 x ∧ Below w.heap.size w w') ∧
   (∀ (ao : Option Addr) (cap a e : Nat) (L : List (Nat × Nat)) (w : World), (L.length ≤ 140737488355328) → (a < e) → (e ≤ L.length) → (e < 4294967296) → (Wfc L) → (CRd w ao L w.heap.size) → (mayD L a e = true) → Calls Tryz.prog 22 #[.slice ao L.length cap, .int .i64 (a : Int), .int .i64 (e : Int), .int .u8 6] w fun x w' => ShP L a e 6 x ∧ Below w.heap.size w w') ∧
   (∀ (ao : Option Addr) (cap a e : Nat) (L : List (Nat × Nat)) (w : World), (L.length ≤ 140737488355328) → (a < e) → (e ≤ L.length) → (e < 4294967296) → (Wfc L) → (CRd w ao L w.heap.size) → (mayD L a e = true) → Calls Tryz.prog 22 #[.slice ao L.length cap, .int .i64 (a : Int), .int .i64 (e : Int), .int .u8 7] w fun x w' => ShP L a e 7 x ∧ Below w.heap.size w w') ∧
   (∀ (ao : Option Addr) (cap a e : Nat) (L : List (Nat × Nat)) (w : World), (L.length ≤ 140737488355328) → (a < e) → (e ≤ L.length) → (e < 4294967296) → (Wfc L) → (CRd w ao L w.heap.size) → (mayD L a e = true) → Calls Tryz.prog 22 #[.slice ao L.length cap, .int .i64 (a : Int), .int .i64 (e : Int), .int .u8 8] w fun x w' => ShP L a e 8 x ∧ Below w.heap.size w w') ∧
   (∀ (ao : Option Addr) (cap a e : Nat) (L : List (Nat × Nat)) (w : World), (L.length ≤ 140737488355328) → (a < e) → (e ≤ L.length) → (e < 4294967296) → (Wfc L) → (CRd w ao L w.heap.size) → (mayD L a e = true) → Calls Tryz.prog 22 #[.slice ao L.length cap, .int .i64 (a : Int), .int .i64 (e : Int), .int .u8 9] w fun x w' => ShP L a e 9 x ∧ Below w.heap.size w w') ∧
   (∀ (ao : Option Addr) (cap a e : Nat) (L : List (Nat × Nat)) (w : World), (L.length ≤ 140737488355328) → (a < e) → (e ≤ L.length) → (e < 4294967296) → (Wfc L) → (CRd w ao L w.heap.size) → (mayD L a e = true) → Calls Tryz.prog 22 #[.slice ao L.length cap, .int .i64 (a : Int), .int .i64 (e : Int), .int .u8 10] w fun x w' => ShP L a e 10 x ∧ Below w.heap.size w w') := by
 refine ⟨?_, ?_, ?_, ?_, ?_, ?_⟩
 all_goals intro ao cap a e L w hL hae he he32 hwf hr hm
 all_goals (obtain ⟨HM, v1, hsub, hwn, hwo, v2⟩ := sh_facts (ao := ao) (cap := cap) hL hae he he32 hwf hr)
 all_goals (by_cases hn : e < a + 2)
 focus
   · have HN := dhid (fun f => sh_no (L := L) (a := a) (e := e) (k := 5) f (fun g h => by
       have h2 := h.2
       unfold ShC at h2
       rw [if_neg (by decide), if_pos (by decide)] at h2
       omega))
     generalize ShP L a e 5 = PP at HN ⊢
     rw [hm] at HM
     have gn : ((e - a : Nat) : Int) < 2 := by omega
     clear hn
     clear hr hwf hL he he32 hae
     generalize e - a = n at *
     go_enter Tryz.func22, Tryz.ntmps22
     go_wp2_with fail
     refine (HM.out _ (zbel2 w _ _)).mono ?_
     rintro en w2 ⟨rfl, hb2⟩
     have HB := dhid ((Bs.new w fz0 ⟨a, n, 5, 0, 0, 0⟩).next hb2)
     obtain ⟨z0, z1, z2, z3, z4, z5⟩ := fz_cells HB.out.c1
     simp only at z0 z1 z2 z3 z4 z5
     clear hb2 HM
     go_wp2_with (refine wpList_storeF rfl _ _ rfl w.heap.size fz0 ⟨a, n, 5, 0, 0, 0⟩ rfl rfl HB.out.c0 ?_)
     exact bodyPost_ret (resFzB (p := 8) (u := 9) (by kernel_rfl) _ _ w.heap.size _ rfl (setRow_heap _ _ _ _ _ _ HB.out.c0) _ rfl rfl) rfl ⟨HN.out _, HB.out.put0⟩
 focus
   · have HLS := dhid (fun W (hW : Below w.heap.size w W) => dlast5_any ao cap a e (e - a) L W hL (by omega) he he32 hwf ((hr.below hW).mono hW.size))
     have HY := dhid (hy_last (L := L) (a := a) (e := e) (k := 5) (by decide) (by decide) hn hm)
     generalize LsP a (e - a) 5 (cnO ((L.drop a).take (e - 1 - a))) (L.getD (e - 1) (0, 0)) = LL at HLS HY
     generalize ShP L a e 5 = PP at HY ⊢
     rw [hm] at HM
     have gn : ¬ ((e - a : Nat) : Int) < 2 := by omega
     clear hn hm
     clear hr hwf hL he he32 hae
     generalize e - a = n at *
     go_enter Tryz.func22, Tryz.ntmps22
     go_wp2_with fail
     refine (HM.out _ (zbel2 w _ _)).mono ?_
     rintro en w2 ⟨rfl, hb2⟩
     have HB := dhid ((Bs.new w fz0 ⟨a, n, 5, 0, 0, 0⟩).next hb2)
     obtain ⟨z0, z1, z2, z3, z4, z5⟩ := fz_cells HB.out.c1
     simp only at z0 z1 z2 z3 z4 z5
     clear hb2 HM
     go_wp2_with fail
     refine (HLS.out w2 HB.out.bw).mono ?_
     rintro en w3 ⟨hls, hb3⟩
     obtain ⟨f0, f1, f2, f3, f4, f5, ok, rfl, HP⟩ := HY.out _ hls
     replace HP := dhid HP
     have HB3 := dhid (HB.out.next hb3)
     simp only [fzA] at HP
     clear hls hb3 HLS HY HB z0 z1 z2 z3 z4 z5
     go_wp2_with (refine wpList_storeF rfl _ _ rfl w.heap.size fz0 ⟨f0, f1, f2, f3, f4, f5⟩ rfl rfl HB3.out.c0 ?_)
     exact bodyPost_ret (resFzB (p := 8) (u := 9) (by kernel_rfl) _ _ w.heap.size _ rfl (setRow_heap _ _ _ _ _ _ HB3.out.c0) _ rfl rfl) rfl ⟨HP.out, HB3.out.put0⟩
 focus
   · have HN := dhid (fun f => sh_no (L := L) (a := a) (e := e) (k := 6) f (fun g h => by
       have h2 := h.2
       unfold ShC at h2
       rw [if_neg (by decide), if_pos (by decide)] at h2
       omega))
     generalize ShP L a e 6 = PP at HN ⊢
     rw [hm] at HM
     have gn : ((e - a : Nat) : Int) < 2 := by omega
     clear hn
     clear hr hwf hL he he32 hae
     generalize e - a = n at *
     go_enter Tryz.func22, Tryz.ntmps22
     go_wp2_with fail
     refine (HM.out _ (zbel2 w _ _)).mono ?_
     rintro en w2 ⟨rfl, hb2⟩
     have HB := dhid ((Bs.new w fz0 ⟨a, n, 6, 0, 0, 0⟩).next hb2)
     obtain ⟨z0, z1, z2, z3, z4, z5⟩ := fz_cells HB.out.c1
     simp only at z0 z1 z2 z3 z4 z5
     clear hb2 HM
     go_wp2_with (refine wpList_storeF rfl _ _ rfl w.heap.size fz0 ⟨a, n, 6, 0, 0, 0⟩ rfl rfl HB.out.c0 ?_)
     exact bodyPost_ret (resFzB (p := 8) (u := 9) (by kernel_rfl) _ _ w.heap.size _ rfl (setRow_heap _ _ _ _ _ _ HB.out.c0) _ rfl rfl) rfl ⟨HN.out _, HB.out.put0⟩
 focus
   · have HLS := dhid (fun W (hW : Below w.heap.size w W) => dlast6_any ao cap a e (e - a) L W hL (by omega) he he32 hwf ((hr.below hW).mono hW.size))
     have HY := dhid (hy_last (L := L) (a := a) (e := e) (k := 6) (by decide) (by decide) hn hm)
     generalize LsP a (e - a) 6 (cnO ((L.drop a).take (e - 1 - a))) (L.getD (e - 1) (0, 0)) = LL at HLS HY
     generalize ShP L a e 6 = PP at HY ⊢
     rw [hm] at HM
     have gn : ¬ ((e - a : Nat) : Int) < 2 := by omega
     clear hn hm
     clear hr hwf hL he he32 hae
     generalize e - a = n at *
     go_enter Tryz.func22, Tryz.ntmps22
     go_wp2_with fail
     refine (HM.out _ (zbel2 w _ _)).mono ?_
     rintro en w2 ⟨rfl, hb2⟩
     have HB := dhid ((Bs.new w fz0 ⟨a, n, 6, 0, 0, 0⟩).next hb2)
     obtain ⟨z0, z1, z2, z3, z4, z5⟩ := fz_cells HB.out.c1
     simp only at z0 z1 z2 z3 z4 z5
     clear hb2 HM
     go_wp2_with fail
     refine (HLS.out w2 HB.out.bw).mono ?_
     rintro en w3 ⟨hls, hb3⟩
     obtain ⟨f0, f1, f2, f3, f4, f5, ok, rfl, HP⟩ := HY.out _ hls
     replace HP := dhid HP
     have HB3 := dhid (HB.out.next hb3)
     simp only [fzA] at HP
     clear hls hb3 HLS HY HB z0 z1 z2 z3 z4 z5
     go_wp2_with (refine wpList_storeF rfl _ _ rfl w.heap.size fz0 ⟨f0, f1, f2, f3, f4, f5⟩ rfl rfl HB3.out.c0 ?_)
     exact bodyPost_ret (resFzB (p := 8) (u := 9) (by kernel_rfl) _ _ w.heap.size _ rfl (setRow_heap _ _ _ _ _ _ HB3.out.c0) _ rfl rfl) rfl ⟨HP.out, HB3.out.put0⟩
 focus
   · have HN := dhid (fun f => sh_no (L := L) (a := a) (e := e) (k := 7) f (fun g h => by
       have h2 := h.2
       unfold ShC at h2
       rw [if_neg (by decide), if_pos (by decide)] at h2
       omega))
     generalize ShP L a e 7 = PP at HN ⊢
     rw [hm] at HM
     have gn : ((e - a : Nat) : Int) < 2 := by omega
     clear hn
     clear hr hwf hL he he32 hae
     generalize e - a = n at *
     go_enter Tryz.func22, Tryz.ntmps22
     go_wp2_with fail
     refine (HM.out _ (zbel2 w _ _)).mono ?_
     rintro en w2 ⟨rfl, hb2⟩
     have HB := dhid ((Bs.new w fz0 ⟨a, n, 7, 0, 0, 0⟩).next hb2)
     obtain ⟨z0, z1, z2, z3, z4, z5⟩ := fz_cells HB.out.c1
     simp only at z0 z1 z2 z3 z4 z5
     clear hb2 HM
     go_wp2_with (refine wpList_storeF rfl _ _ rfl w.heap.size fz0 ⟨a, n, 7, 0, 0, 0⟩ rfl rfl HB.out.c0 ?_)
     exact bodyPost_ret (resFzB (p := 8) (u := 9) (by kernel_rfl) _ _ w.heap.size _ rfl (setRow_heap _ _ _ _ _ _ HB.out.c0) _ rfl rfl) rfl ⟨HN.out _, HB.out.put0⟩
 focus
   · have HLS := dhid (fun W (hW : Below w.heap.size w W) => dlast7_any ao cap a e (e - a) L W hL (by omega) he he32 hwf ((hr.below hW).mono hW.size))
     have HY := dhid (hy_last (L := L) (a := a) (e := e) (k := 7) (by decide) (by decide) hn hm)
     generalize LsP a (e - a) 7 (cnO ((L.drop a).take (e - 1 - a))) (L.getD (e - 1) (0, 0)) = LL at HLS HY
     generalize ShP L a e 7 = PP at HY ⊢
     rw [hm] at HM
     have gn : ¬ ((e - a : Nat) : Int) < 2 := by omega
     clear hn hm
     clear hr hwf hL he he32 hae
     generalize e - a = n at *
     go_enter Tryz.func22, Tryz.ntmps22
     go_wp2_with fail
     refine (HM.out _ (zbel2 w _ _)).mono ?_
     rintro en w2 ⟨rfl, hb2⟩
     have HB := dhid ((Bs.new w fz0 ⟨a, n, 7, 0, 0, 0⟩).next hb2)
     obtain ⟨z0, z1, z2, z3, z4, z5⟩ := fz_cells HB.out.c1
     simp only at z0 z1 z2 z3 z4 z5
     clear hb2 HM
     go_wp2_with fail
     refine (HLS.out w2 HB.out.bw).mono ?_
     rintro en w3 ⟨hls, hb3⟩
     obtain ⟨f0, f1, f2, f3, f4, f5, ok, rfl, HP⟩ := HY.out _ hls
     replace HP := dhid HP
     have HB3 := dhid (HB.out.next hb3)
     simp only [fzA] at HP
     clear hls hb3 HLS HY HB z0 z1 z2 z3 z4 z5
     go_wp2_with (refine wpList_storeF rfl _ _ rfl w.heap.size fz0 ⟨f0, f1, f2, f3, f4, f5⟩ rfl rfl HB3.out.c0 ?_)
     exact bodyPost_ret (resFzB (p := 8) (u := 9) (by kernel_rfl) _ _ w.heap.size _ rfl (setRow_heap _ _ _ _ _ _ HB3.out.c0) _ rfl rfl) rfl ⟨HP.out, HB3.out.put0⟩
 focus
   · have HN := dhid (fun f => sh_no (L := L) (a := a) (e := e) (k := 8) f (fun g h => by
       have h2 := h.2
       unfold ShC at h2
       rw [if_neg (by decide), if_pos (by decide)] at h2
       omega))
     generalize ShP L a e 8 = PP at HN ⊢
     rw [hm] at HM
     have gn : ((e - a : Nat) : Int) < 2 := by omega
     clear hn
     clear hr hwf hL he he32 hae
     generalize e - a = n at *
     go_enter Tryz.func22, Tryz.ntmps22
     go_wp2_with fail
     refine (HM.out _ (zbel2 w _ _)).mono ?_
     rintro en w2 ⟨rfl, hb2⟩
     have HB := dhid ((Bs.new w fz0 ⟨a, n, 8, 0, 0, 0⟩).next hb2)
     obtain ⟨z0, z1, z2, z3, z4, z5⟩ := fz_cells HB.out.c1
     simp only at z0 z1 z2 z3 z4 z5
     clear hb2 HM
     go_wp2_with (refine wpList_storeF rfl _ _ rfl w.heap.size fz0 ⟨a, n, 8, 0, 0, 0⟩ rfl rfl HB.out.c0 ?_)
     exact bodyPost_ret (resFzB (p := 8) (u := 9) (by kernel_rfl) _ _ w.heap.size _ rfl (setRow_heap _ _ _ _ _ _ HB.out.c0) _ rfl rfl) rfl ⟨HN.out _, HB.out.put0⟩
 focus
   · have HLS := dhid (fun W (hW : Below w.heap.size w W) => dlast8_any ao cap a e (e - a) L W hL (by omega) he he32 hwf ((hr.below hW).mono hW.size))
     have HY := dhid (hy_last (L := L) (a := a) (e := e) (k := 8) (by decide) (by decide) hn hm)
     generalize LsP a (e - a) 8 (cnO ((L.drop a).take (e - 1 - a))) (L.getD (e - 1) (0, 0)) = LL at HLS HY
     generalize ShP L a e 8 = PP at HY ⊢
     rw [hm] at HM
     have gn : ¬ ((e - a : Nat) : Int) < 2 := by omega
     clear hn hm
     clear hr hwf hL he he32 hae
     generalize e - a = n at *
     go_enter Tryz.func22, Tryz.ntmps22
     go_wp2_with fail
     refine (HM.out _ (zbel2 w _ _)).mono ?_
     rintro en w2 ⟨rfl, hb2⟩
     have HB := dhid ((Bs.new w fz0 ⟨a, n, 8, 0, 0, 0⟩).next hb2)
     obtain ⟨z0, z1, z2, z3, z4, z5⟩ := fz_cells HB.out.c1
     simp only at z0 z1 z2 z3 z4 z5
     clear hb2 HM
     go_wp2_with fail
     refine (HLS.out w2 HB.out.bw).mono ?_
     rintro en w3 ⟨hls, hb3⟩
     obtain ⟨f0, f1, f2, f3, f4, f5, ok, rfl, HP⟩ := HY.out _ hls
     replace HP := dhid HP
     have HB3 := dhid (HB.out.next hb3)
     simp only [fzA] at HP
     clear hls hb3 HLS HY HB z0 z1 z2 z3 z4 z5
     go_wp2_with (refine wpList_storeF rfl _ _ rfl w.heap.size fz0 ⟨f0, f1, f2, f3, f4, f5⟩ rfl rfl HB3.out.c0 ?_)
     exact bodyPost_ret (resFzB (p := 8) (u := 9) (by kernel_rfl) _ _ w.heap.size _ rfl (setRow_heap _ _ _ _ _ _ HB3.out.c0) _ rfl rfl) rfl ⟨HP.out, HB3.out.put0⟩
 focus
   · have HN := dhid (fun f => sh_no (L := L) (a := a) (e := e) (k := 9) f (fun g h => by
       have h2 := h.2
       unfold ShC at h2
       rw [if_neg (by decide), if_pos (by decide)] at h2
       omega))
     generalize ShP L a e 9 = PP at HN ⊢
     rw [hm] at HM
     have gn : ((e - a : Nat) : Int) < 2 := by omega
     clear hn
     clear hr hwf hL he he32 hae
     generalize e - a = n at *
     go_enter Tryz.func22, Tryz.ntmps22
     go_wp2_with fail
     refine (HM.out _ (zbel2 w _ _)).mono ?_
     rintro en w2 ⟨rfl, hb2⟩
     have HB := dhid ((Bs.new w fz0 ⟨a, n, 9, 0, 0, 0⟩).next hb2)
     obtain ⟨z0, z1, z2, z3, z4, z5⟩ := fz_cells HB.out.c1
     simp only at z0 z1 z2 z3 z4 z5
     clear hb2 HM
     go_wp2_with (refine wpList_storeF rfl _ _ rfl w.heap.size fz0 ⟨a, n, 9, 0, 0, 0⟩ rfl rfl HB.out.c0 ?_)
     exact bodyPost_ret (resFzB (p := 8) (u := 9) (by kernel_rfl) _ _ w.heap.size _ rfl (setRow_heap _ _ _ _ _ _ HB.out.c0) _ rfl rfl) rfl ⟨HN.out _, HB.out.put0⟩
 focus
   · have HLS := dhid (fun W (hW : Below w.heap.size w W) => dlast9_any ao cap a e (e - a) L W hL (by omega) he he32 hwf ((hr.below hW).mono hW.size))
     have HY := dhid (hy_last (L := L) (a := a) (e := e) (k := 9) (by decide) (by decide) hn hm)
     generalize LsP a (e - a) 9 (cnO ((L.drop a).take (e - 1 - a))) (L.getD (e - 1) (0, 0)) = LL at HLS HY
     generalize ShP L a e 9 = PP at HY ⊢
     rw [hm] at HM
     have gn : ¬ ((e - a : Nat) : Int) < 2 := by omega
     clear hn hm
     clear hr hwf hL he he32 hae
     generalize e - a = n at *
     go_enter Tryz.func22, Tryz.ntmps22
     go_wp2_with fail
     refine (HM.out _ (zbel2 w _ _)).mono ?_
     rintro en w2 ⟨rfl, hb2⟩
     have HB := dhid ((Bs.new w fz0 ⟨a, n, 9, 0, 0, 0⟩).next hb2)
     obtain ⟨z0, z1, z2, z3, z4, z5⟩ := fz_cells HB.out.c1
     simp only at z0 z1 z2 z3 z4 z5
     clear hb2 HM
     go_wp2_with fail
     refine (HLS.out w2 HB.out.bw).mono ?_
     rintro en w3 ⟨hls, hb3⟩
     obtain ⟨f0, f1, f2, f3, f4, f5, ok, rfl, HP⟩ := HY.out _ hls
     replace HP := dhid HP
     have HB3 := dhid (HB.out.next hb3)
     simp only [fzA] at HP
     clear hls hb3 HLS HY HB z0 z1 z2 z3 z4 z5
     go_wp2_with (refine wpList_storeF rfl _ _ rfl w.heap.size fz0 ⟨f0, f1, f2, f3, f4, f5⟩ rfl rfl HB3.out.c0 ?_)
     exact bodyPost_ret (resFzB (p := 8) (u := 9) (by kernel_rfl) _ _ w.heap.size _ rfl (setRow_heap _ _ _ _ _ _ HB3.out.c0) _ rfl rfl) rfl ⟨HP.out, HB3.out.put0⟩
 focus
   · have HN := dhid (fun f => sh_no (L := L) (a := a) (e := e) (k := 10) f (fun g h => by
       have h2 := h.2
       unfold ShC at h2
       rw [if_neg (by decide), if_pos (by decide)] at h2
       omega))
     generalize ShP L a e 10 = PP at HN ⊢
     rw [hm] at HM
     have gn : ((e - a : Nat) : Int) < 2 := by omega
     clear hn
     clear hr hwf hL he he32 hae
     generalize e - a = n at *
     go_enter Tryz.func22, Tryz.ntmps22
     go_wp2_with fail
     refine (HM.out _ (zbel2 w _ _)).mono ?_
     rintro en w2 ⟨rfl, hb2⟩
     have HB := dhid ((Bs.new w fz0 ⟨a, n, 10, 0, 0, 0⟩).next hb2)
     obtain ⟨z0, z1, z2, z3, z4, z5⟩ := fz_cells HB.out.c1
     simp only at z0 z1 z2 z3 z4 z5
     clear hb2 HM
     go_wp2_with (refine wpList_storeF rfl _ _ rfl w.heap.size fz0 ⟨a, n, 10, 0, 0, 0⟩ rfl rfl HB.out.c0 ?_)
     exact bodyPost_ret (resFzB (p := 8) (u := 9) (by kernel_rfl) _ _ w.heap.size _ rfl (setRow_heap _ _ _ _ _ _ HB.out.c0) _ rfl rfl) rfl ⟨HN.out _, HB.out.put0⟩
 focus
   · have HLS := dhid (fun W (hW : Below w.heap.size w W) => dlast10_any ao cap a e (e - a) L W hL (by omega) he he32 hwf ((hr.below hW).mono hW.size))
     have HY := dhid (hy_last (L := L) (a := a) (e := e) (k := 10) (by decide) (by decide) hn hm)
     generalize LsP a (e - a) 10 (cnO ((L.drop a).take (e - 1 - a))) (L.getD (e - 1) (0, 0)) = LL at HLS HY
     generalize ShP L a e 10 = PP at HY ⊢
     rw [hm] at HM
     have gn : ¬ ((e - a : Nat) : Int) < 2 := by omega
     clear hn hm
     clear hr hwf hL he he32 hae
     generalize e - a = n at *
     go_enter Tryz.func22, Tryz.ntmps22
     go_wp2_with fail
     refine (HM.out _ (zbel2 w _ _)).mono ?_
     rintro en w2 ⟨rfl, hb2⟩
     have HB := dhid ((Bs.new w fz0 ⟨a, n, 10, 0, 0, 0⟩).next hb2)
     obtain ⟨z0, z1, z2, z3, z4, z5⟩ := fz_cells HB.out.c1
     simp only at z0 z1 z2 z3 z4 z5
     clear hb2 HM
     go_wp2_with fail
     refine (HLS.out w2 HB.out.bw).mono ?_
     rintro en w3 ⟨hls, hb3⟩
     obtain ⟨f0, f1, f2, f3, f4, f5, ok, rfl, HP⟩ := HY.out _ hls
     replace HP := dhid HP
     have HB3 := dhid (HB.out.next hb3)
     simp only [fzA] at HP
     clear hls hb3 HLS HY HB z0 z1 z2 z3 z4 z5
     go_wp2_with (refine wpList_storeF rfl _ _ rfl w.heap.size fz0 ⟨f0, f1, f2, f3, f4, f5⟩ rfl rfl HB3.out.c0 ?_)
     exact bodyPost_ret (resFzB (p := 8) (u := 9) (by kernel_rfl) _ _ w.heap.size _ rfl (setRow_heap _ _ _ _ _ _ HB3.out.c0) _ rfl rfl) rfl ⟨HP.out, HB3.out.put0⟩
abbrev dshape5_any := shB.1
abbrev dshape6_any := shB.2.1
abbrev dshape7_any := shB.2.2.1
abbrev dshape8_any := shB.2.2.2.1
abbrev dshape9_any := shB.2.2.2.2.1
abbrev dshape10_any := shB.2.2.2.2.2
set_option maxRecDepth 100000 in
set_option maxHeartbeats 40000000 in
theorem shA :
   (∀ (ao : Option Addr) (cap a e : Nat) (L : List (Nat × Nat)) (w : World), (L.length ≤ 140737488355328) → (a < e) → (e ≤ L.length) → (e < 4294967296) → (Wfc L) → (CRd w ao L w.heap.size) → (mayD L a e = true) → Calls Tryz.prog 22 #[.slice ao L.length cap, .int .i64 (a : Int), .int .i64 (e : Int), .int .u8 11] w fun x w' => ShP L a e 11 x ∧ Below w.heap.size w w') ∧
   (∀ (ao : Option Addr) (cap a e : Nat) (L : List (Nat × Nat)) (w : World), (L.length ≤ 140737488355328) → (a < e) → (e ≤ L.length) → (e < 4294967296) → (Wfc L) → (CRd w ao L w.heap.size) → (mayD L a e = true) → Calls Tryz.prog 22 #[.slice ao L.length cap, .int .i64 (a : Int), .int .i64 (e : Int), .int .u8 12] w fun x w' => ShP L a e 12 x ∧ Below w.heap.size w w') ∧
   (∀ (ao : Option Addr) (cap a e : Nat) (L : List (Nat × Nat)) (w : World), (L.length ≤ 140737488355328) → (a < e) → (e ≤ L.length) → (e < 4294967296) → (Wfc L) → (CRd w ao L w.heap.size) → (mayD L a e = true) → Calls Tryz.prog 22 #[.slice ao L.length cap, .int .i64 (a : Int), .int .i64 (e : Int), .int .u8 13] w fun x w' => ShP L a e 13 x ∧ Below w.heap.size w w') ∧
   (∀ (ao : Option Addr) (cap a e : Nat) (L : List (Nat × Nat)) (w : World), (L.length ≤ 140737488355328) → (a < e) → (e ≤ L.length) → (e < 4294967296) → (Wfc L) → (CRd w ao L w.heap.size) → (mayD L a e = true) → Calls Tryz.prog 22 #[.slice ao L.length cap, .int .i64 (a : Int), .int .i64 (e : Int), .int .u8 14] w fun x w' => ShP L a e 14 x ∧ Below w.heap.size w w') ∧
   (∀ (ao : Option Addr) (cap a e : Nat) (L : List (Nat × Nat)) (w : World), (L.length ≤ 140737488355328) → (a < e) → (e ≤ L.length) → (e < 4294967296) → (Wfc L) → (CRd w ao L w.heap.size) → (mayD L a e = true) → Calls Tryz.prog 22 #[.slice ao L.length cap, .int .i64 (a : Int), .int .i64 (e : Int), .int .u8 15] w fun x w' => ShP L a e 15 x ∧ Below w.heap.size w w') := by
 refine ⟨?_, ?_, ?_, ?_, ?_⟩
 all_goals intro ao cap a e L w hL hae he he32 hwf hr hm
 all_goals (obtain ⟨HM, v1, hsub, hwn, hwo, v2⟩ := sh_facts (ao := ao) (cap := cap) hL hae he he32 hwf hr)
 have HLS := dhid (fun W (hW : Below w.heap.size w W) => dloc11_any ao cap a e L W hL hae he he32 hwf ((hr.below hW).mono hW.size))
 have HY := dhid (hy_loc (L := L) (a := a) (e := e) (k := 11) (by decide) (by decide) hm)
 generalize LcP L a e 11 = LL at HLS HY
 generalize ShP L a e 11 = PP at HY ⊢
 rotate_left
 have HLS := dhid (fun W (hW : Below w.heap.size w W) => dloc12_any ao cap a e L W hL hae he he32 hwf ((hr.below hW).mono hW.size))
 have HY := dhid (hy_loc (L := L) (a := a) (e := e) (k := 12) (by decide) (by decide) hm)
 generalize LcP L a e 12 = LL at HLS HY
 generalize ShP L a e 12 = PP at HY ⊢
 rotate_left
 have HLS := dhid (fun W (hW : Below w.heap.size w W) => dloc13_any ao cap a e L W hL hae he he32 hwf ((hr.below hW).mono hW.size))
 have HY := dhid (hy_loc (L := L) (a := a) (e := e) (k := 13) (by decide) (by decide) hm)
 generalize LcP L a e 13 = LL at HLS HY
 generalize ShP L a e 13 = PP at HY ⊢
 rotate_left
 have HLS := dhid (fun W (hW : Below w.heap.size w W) => dloc14_any ao cap a e L W hL hae he he32 hwf ((hr.below hW).mono hW.size))
 have HY := dhid (hy_loc (L := L) (a := a) (e := e) (k := 14) (by decide) (by decide) hm)
 generalize LcP L a e 14 = LL at HLS HY
 generalize ShP L a e 14 = PP at HY ⊢
 rotate_left
 have HLS := dhid (fun W (hW : Below w.heap.size w W) => dloc15_any ao cap a e L W hL hae he he32 hwf ((hr.below hW).mono hW.size))
 have HY := dhid (hy_loc (L := L) (a := a) (e := e) (k := 15) (by decide) (by decide) hm)
 generalize LcP L a e 15 = LL at HLS HY
 generalize ShP L a e 15 = PP at HY ⊢
 rotate_left
 all_goals (rw [hm] at HM)
 all_goals (clear hm)
 all_goals (clear hr hwf hL he he32 hae)
 all_goals (generalize e - a = n at *)
 all_goals (go_enter Tryz.func22, Tryz.ntmps22)
 all_goals (go_wp2_with fail)
 all_goals (refine (HM.out _ (zbel2 w _ _)).mono ?_)
 all_goals (rintro en w2 ⟨rfl, hb2⟩)
 have HB := dhid ((Bs.new w fz0 ⟨a, n, 11, 0, 0, 0⟩).next hb2)
 rotate_left
 have HB := dhid ((Bs.new w fz0 ⟨a, n, 12, 0, 0, 0⟩).next hb2)
 rotate_left
 have HB := dhid ((Bs.new w fz0 ⟨a, n, 13, 0, 0, 0⟩).next hb2)
 rotate_left
 have HB := dhid ((Bs.new w fz0 ⟨a, n, 14, 0, 0, 0⟩).next hb2)
 rotate_left
 have HB := dhid ((Bs.new w fz0 ⟨a, n, 15, 0, 0, 0⟩).next hb2)
 rotate_left
 all_goals (obtain ⟨z0, z1, z2, z3, z4, z5⟩ := fz_cells HB.out.c1)
 all_goals (simp only at z0 z1 z2 z3 z4 z5)
 all_goals (clear hb2 HM)
 all_goals (go_wp2_with fail)
 all_goals (refine (HLS.out w2 HB.out.bw).mono ?_)
 all_goals (rintro en w3 ⟨hls, hb3⟩)
 all_goals (obtain ⟨f0, f1, f2, f3, f4, f5, ok, rfl, HP⟩ := HY.out _ hls)
 all_goals (replace HP := dhid HP)
 all_goals (have HB3 := dhid (HB.out.next hb3))
 all_goals (simp only [fzA] at HP)
 all_goals (clear hls hb3 HLS HY HB z0 z1 z2 z3 z4 z5)
 all_goals (go_wp2_with (refine wpList_storeF rfl _ _ rfl w.heap.size fz0 ⟨f0, f1, f2, f3, f4, f5⟩ rfl rfl HB3.out.c0 ?_))
 all_goals (exact bodyPost_ret (resFzB (p := 8) (u := 9) (by kernel_rfl) _ _ w.heap.size _ rfl (setRow_heap _ _ _ _ _ _ HB3.out.c0) _ rfl rfl) rfl ⟨HP.out, HB3.out.put0⟩)
abbrev dshape11_any := shA.1
abbrev dshape12_any := shA.2.1
abbrev dshape13_any := shA.2.2.1
abbrev dshape14_any := shA.2.2.2.1
abbrev dshape15_any := shA.2.2.2.2
theorem dshape_any (ao : Option Addr) (cap a e k : Nat) (L : List (Nat × Nat)) (w : World) (hL : L.length ≤ 140737488355328) (hae : a < e) (he : e ≤ L.length) (he32 : e < 4294967296) (hwf : Wfc L) (hr : CRd w ao L w.heap.size) :
   Calls Tryz.prog 22 #[.slice ao L.length cap, .int .i64 (a : Int), .int .i64 (e : Int), .int .u8 (k : Int)] w fun x w' => ShP L a e k x ∧ Below w.heap.size w w' := by
 cases hm : mayD L a e with
 | false => exact dshapeN_any ao cap a e k L w hL hae he he32 hwf hr hm
 | true =>
   by_cases hz : ¬ k = 1 ∧ (k < 5 ∨ 15 < k)
   · exact dshapeZ_any ao cap a e k L w hL hae he he32 hwf hr hm hz
   have hc : k = 1 ∨ k = 5 ∨ k = 6 ∨ k = 7 ∨ k = 8 ∨ k = 9 ∨ k = 10 ∨ k = 11 ∨ k = 12 ∨ k = 13 ∨ k = 14 ∨ k = 15 := by omega
   rcases hc with h1 | h5 | h6 | h7 | h8 | h9 | h10 | h11 | h12 | h13 | h14 | h15
   · subst h1; exact dshape1_any ao cap a e L w hL hae he he32 hwf hr hm
   · subst h5; exact dshape5_any ao cap a e L w hL hae he he32 hwf hr hm
   · subst h6; exact dshape6_any ao cap a e L w hL hae he he32 hwf hr hm
   · subst h7; exact dshape7_any ao cap a e L w hL hae he he32 hwf hr hm
   · subst h8; exact dshape8_any ao cap a e L w hL hae he he32 hwf hr hm
   · subst h9; exact dshape9_any ao cap a e L w hL hae he he32 hwf hr hm
   · subst h10; exact dshape10_any ao cap a e L w hL hae he he32 hwf hr hm
   · subst h11; exact dshape11_any ao cap a e L w hL hae he he32 hwf hr hm
   · subst h12; exact dshape12_any ao cap a e L w hL hae he he32 hwf hr hm
   · subst h13; exact dshape13_any ao cap a e L w hL hae he he32 hwf hr hm
   · subst h14; exact dshape14_any ao cap a e L w hL hae he he32 hwf hr hm
   · subst h15; exact dshape15_any ao cap a e L w hL hae he he32 hwf hr hm
end Go.Proofs.YtibhlcfligfhdaaGreat
namespace Go.Proofs.YtibhlcfligfhdaaGreat
open Go.RowKit Go.WideShapes Go.Shelf
set_option maxRecDepth 100000
theorem shd_k {L : List (Nat × Nat)} {a e k : Nat} {f : Fz} (h : ShD L a e k f) : k = 1 ∨ 5 ≤ k ∧ k ≤ 15 := by
 have h2 := h.2
 unfold ShC at h2
 split at h2
 · exact .inl (by assumption)
 · split at h2
   · rename_i q; exact .inr ⟨q.1, by omega⟩
   · split at h2
     · rename_i q; exact .inr ⟨by omega, q.2⟩
     · exact h2.elim
theorem ft_hit {L : List (Nat × Nat)} (hwf : Wfc L) {a e e' k : Nat} {f : Fz} (h : ShD L a e' k f) (h1 : a < e') (h2 : e' ≤ e) (h3 : e ≤ L.length) : ftV L a e k = (f, true) := by
 have hk := shd_k h
 unfold ftV
 rw [if_pos ⟨⟨by omega, h3⟩, by omega, by omega⟩]
 exact shd_A hwf h h1 h2 h3
theorem ft_miss {L : List (Nat × Nat)} (hwf : Wfc L) {a e k : Nat} (hk : k ≠ 2 ∧ k ≠ 3 ∧ k ≠ 4) (h : ∀ e', a < e' → e' ≤ e → e' ≤ a + 30 → ∀ g, ¬ ShD L a e' k g) : ftV L a e k = (fz0, false) := by
 unfold ftV
 split
 · rename_i q
   have hB := fun f => shd_B hwf (f := f) q.1.1 q.1.2 (k := k) (by omega)
   unfold fkV fitV at hB ⊢
   by_cases h0 : (shK k ((L.drop a).take (e - a))).len = 0
   · rw [if_pos h0]
   · exfalso
     obtain ⟨e', h1, h2, h3, h4⟩ := hB _ (if_neg h0)
     exact h e' h1 h2 h3 _ h4
 · rfl
def FtP (L : List (Nat × Nat)) (a e k : Nat) (en : Ending) : Prop := en = .returned (.tuple #[.agg (fzA (ftV L a e k).1), .bool (ftV L a e k).2])
theorem ftp_of {L : List (Nat × Nat)} {a e k : Nat} {f : Fz} {ok : Bool} (h : ftV L a e k = (f, ok)) : FtP L a e k (.returned (.tuple #[.agg (fzA f), .bool ok])) := by unfold FtP; rw [h]
structure FtS (w wr : World) : Prop where
 bw : Below w.heap.size w wr
 ob : wr.heap[w.heap.size]? = some (.cells (fzA fz0) 28)
theorem FtS.next {w wr w' : World} (h : FtS w wr) (hb : Below wr.heap.size wr w') : FtS w w' := ⟨h.bw.trans (hb.mono h.bw.size), (hb.block _ (Array.getElem?_eq_some_iff.1 h.ob).1).trans h.ob⟩
theorem FtS.new (w : World) : FtS w (w.alloc (.cells (fzA fz0) 28)) := ⟨bel1 w _, heap_alloc_new w _⟩
theorem FtS.put {w wr : World} (h : FtS w wr) (f : Fz) : Below w.heap.size w (wr.setRow w.heap.size (fzA f)) := h.bw.trans ((KpSetRow (S := fun i => i = w.heap.size) _ _ _ rfl).below h.bw.size (fun i e => by omega))
set_option maxHeartbeats 8000000 in
theorem dfitsN_any (ao : Option Addr) (cap a e k : Nat) (L : List (Nat × Nat)) (w : World) (hL : L.length ≤ 140737488355328) (ha32 : a < 4294967296) (he32 : e < 4294967296) (hl : ¬ (a < e ∧ e ≤ L.length)) :
   Calls Tryz.prog 8 #[.slice ao L.length cap, .int .u32 (a : Int), .int .u32 (e : Int), .int .u8 (k : Int)] w fun en w' => FtP L a e k en ∧ Below w.heap.size w w' := by
 have HL := dhid (fun W => dlies_any ao cap L.length a e W (by omega) ha32 he32)
 rw [show liB L.length a e = false from decide_eq_false hl] at HL
 have HY := dhid (ftp_of (L := L) (a := a) (e := e) (k := k) (if_neg (fun q => hl q.1)))
 generalize FtP L a e k = PP at HY ⊢
 have HN := dhid (FtS.new w)
 clear hL ha32 he32 hl
 go_enter Tryz.func8, Tryz.ntmps8
 go_wp2_with (first
   | (go_at_call 20; refine (HL.out _).mono ?_; rintro en w1 ⟨rfl, hw1⟩; subst hw1)
   | (refine wpList_storeF rfl _ _ rfl w.heap.size fz0 fz0 rfl rfl HN.out.ob ?_))
 exact bodyPost_ret (resFzB (p := 8) (u := 9) (by kernel_rfl) _ _ w.heap.size _ rfl (setRow_heap _ _ _ _ _ _ HN.out.ob) _ rfl rfl) rfl ⟨HY.out, HN.out.put _⟩
set_option maxHeartbeats 8000000 in
theorem dfits2_any (ao : Option Addr) (cap a e : Nat) (L : List (Nat × Nat)) (w : World) (hL : L.length ≤ 140737488355328) (ha32 : a < 4294967296) (he32 : e < 4294967296) (hwf : Wfc L) (hr : CRd w ao L w.heap.size) (hl : a < e ∧ e ≤ L.length) :
   Calls Tryz.prog 8 #[.slice ao L.length cap, .int .u32 (a : Int), .int .u32 (e : Int), .int .u8 2] w fun en w' => FtP L a e 2 en ∧ Below w.heap.size w w' := by
 have HL := dhid (fun W => dlies_any ao cap L.length a e W (by omega) ha32 he32)
 rw [show liB L.length a e = true from decide_eq_true hl] at HL
 have HF := dhid (fun W (hW : Below w.heap.size w W) => dfold_any ao cap a e 2 L W hL ha32 he32 hwf ((hr.below hW).mono hW.size))
 have HY : Hid (∀ x, FdP a 2 (lnE L a e) (lnP L a e) x → ∃ f0 f1 f2 f3 f4 f5 ok, x = .returned (.tuple #[.agg (fzA ⟨f0, f1, f2, f3, f4, f5⟩), .bool ok]) ∧ (ok = true → FtP L a e 2 (.returned (.tuple #[.agg (fzA ⟨f0, f1, f2, f3, f4, f5⟩), .bool true]))) ∧ (ok = false → FtP L a e 2 (.returned (.tuple #[.agg (fzA fz0), .bool false])))) := dhid (by
   rintro x ⟨⟨f0, f1, f2, f3, f4, f5⟩, ok, rfl, hok, hf⟩
   refine ⟨f0, f1, f2, f3, f4, f5, ok, rfl, fun h => ftp_of ?_, fun h => ftp_of ?_⟩
   · rw [hf h]
     unfold ftV
     rw [if_pos ⟨hl, by decide, by decide⟩, fold_eq hwf hl (k := 2) (by omega), ← hok, if_pos h]
   · unfold ftV
     rw [if_pos ⟨hl, by decide, by decide⟩, fold_eq hwf hl (k := 2) (by omega), ← hok, if_neg (by rw [h]; decide)])
 generalize FdP a 2 (lnE L a e) (lnP L a e) = LL at HF HY
 generalize FtP L a e 2 = PP at HY ⊢
 have HN := dhid (FtS.new w)
 have q4 : IntKind.i64.wrap (a : Int) = (a : Int) := by rw [IntKind.wrap_i64]; omega
 have q5 : wrap64 (a : Int) = (a : Int) := by unfold wrap64; omega
 have q6 : IntKind.i64.wrap (e : Int) = (e : Int) := by rw [IntKind.wrap_i64]; omega
 have q7 : wrap64 (e : Int) = (e : Int) := by unfold wrap64; omega
 clear hwf hr hl hL ha32 he32
 go_enter Tryz.func8, Tryz.ntmps8
 go_wp2_with (go_at_call 20; refine (HL.out _).mono ?_; rintro en w1 ⟨rfl, hw1⟩; subst hw1)
 refine (HF.out _ HN.out.bw).mono ?_
 rintro en w3 ⟨hls, hb3⟩
 obtain ⟨f0, f1, f2, f3, f4, f5, ok, rfl, HT, HU⟩ := HY.out _ hls
 replace HT := dhid HT
 replace HU := dhid HU
 have S3 := dhid (HN.out.next hb3)
 have S4 := dhid (fun o => S3.out.next (bel1 w3 o))
 clear hls hb3 HF HY HN HL S3
 simp only [fzA]
 cases ok with
 | true =>
   go_wp2_with (refine wpList_storeF rfl _ _ rfl w.heap.size fz0 ⟨f0, f1, f2, f3, f4, f5⟩ rfl rfl (S4.out _).ob ?_)
   exact bodyPost_ret (resFzB (p := 8) (u := 9) (by kernel_rfl) _ _ w.heap.size _ rfl (setRow_heap _ _ _ _ _ _ (S4.out _).ob) _ rfl rfl) rfl ⟨(by first | exact HT.out rfl | exact HT.out trivial | exact HT.out), (S4.out _).put _⟩
 | false =>
   go_wp2_with (refine wpList_storeF rfl _ _ rfl w.heap.size fz0 fz0 rfl rfl (S4.out _).ob ?_)
   exact bodyPost_ret (resFzB (p := 8) (u := 9) (by kernel_rfl) _ _ w.heap.size _ rfl (setRow_heap _ _ _ _ _ _ (S4.out _).ob) _ rfl rfl) rfl ⟨(by first | exact HU.out rfl | exact HU.out trivial | exact HU.out), (S4.out _).put _⟩
set_option maxHeartbeats 8000000 in
theorem dfits3_any (ao : Option Addr) (cap a e : Nat) (L : List (Nat × Nat)) (w : World) (hL : L.length ≤ 140737488355328) (ha32 : a < 4294967296) (he32 : e < 4294967296) (hwf : Wfc L) (hr : CRd w ao L w.heap.size) (hl : a < e ∧ e ≤ L.length) :
   Calls Tryz.prog 8 #[.slice ao L.length cap, .int .u32 (a : Int), .int .u32 (e : Int), .int .u8 3] w fun en w' => FtP L a e 3 en ∧ Below w.heap.size w w' := by
 have HL := dhid (fun W => dlies_any ao cap L.length a e W (by omega) ha32 he32)
 rw [show liB L.length a e = true from decide_eq_true hl] at HL
 have HF := dhid (fun W (hW : Below w.heap.size w W) => dfold_any ao cap a e 3 L W hL ha32 he32 hwf ((hr.below hW).mono hW.size))
 have HY : Hid (∀ x, FdP a 3 (lnE L a e) (lnP L a e) x → ∃ f0 f1 f2 f3 f4 f5 ok, x = .returned (.tuple #[.agg (fzA ⟨f0, f1, f2, f3, f4, f5⟩), .bool ok]) ∧ (ok = true → FtP L a e 3 (.returned (.tuple #[.agg (fzA ⟨f0, f1, f2, f3, f4, f5⟩), .bool true]))) ∧ (ok = false → FtP L a e 3 (.returned (.tuple #[.agg (fzA fz0), .bool false])))) := dhid (by
   rintro x ⟨⟨f0, f1, f2, f3, f4, f5⟩, ok, rfl, hok, hf⟩
   refine ⟨f0, f1, f2, f3, f4, f5, ok, rfl, fun h => ftp_of ?_, fun h => ftp_of ?_⟩
   · rw [hf h]
     unfold ftV
     rw [if_pos ⟨hl, by decide, by decide⟩, fold_eq hwf hl (k := 3) (by omega), ← hok, if_pos h]
   · unfold ftV
     rw [if_pos ⟨hl, by decide, by decide⟩, fold_eq hwf hl (k := 3) (by omega), ← hok, if_neg (by rw [h]; decide)])
 generalize FdP a 3 (lnE L a e) (lnP L a e) = LL at HF HY
 generalize FtP L a e 3 = PP at HY ⊢
 have HN := dhid (FtS.new w)
 have q4 : IntKind.i64.wrap (a : Int) = (a : Int) := by rw [IntKind.wrap_i64]; omega
 have q5 : wrap64 (a : Int) = (a : Int) := by unfold wrap64; omega
 have q6 : IntKind.i64.wrap (e : Int) = (e : Int) := by rw [IntKind.wrap_i64]; omega
 have q7 : wrap64 (e : Int) = (e : Int) := by unfold wrap64; omega
 clear hwf hr hl hL ha32 he32
 go_enter Tryz.func8, Tryz.ntmps8
 go_wp2_with (go_at_call 20; refine (HL.out _).mono ?_; rintro en w1 ⟨rfl, hw1⟩; subst hw1)
 refine (HF.out _ HN.out.bw).mono ?_
 rintro en w3 ⟨hls, hb3⟩
 obtain ⟨f0, f1, f2, f3, f4, f5, ok, rfl, HT, HU⟩ := HY.out _ hls
 replace HT := dhid HT
 replace HU := dhid HU
 have S3 := dhid (HN.out.next hb3)
 have S4 := dhid (fun o => S3.out.next (bel1 w3 o))
 clear hls hb3 HF HY HN HL S3
 simp only [fzA]
 cases ok with
 | true =>
   go_wp2_with (refine wpList_storeF rfl _ _ rfl w.heap.size fz0 ⟨f0, f1, f2, f3, f4, f5⟩ rfl rfl (S4.out _).ob ?_)
   exact bodyPost_ret (resFzB (p := 8) (u := 9) (by kernel_rfl) _ _ w.heap.size _ rfl (setRow_heap _ _ _ _ _ _ (S4.out _).ob) _ rfl rfl) rfl ⟨(by first | exact HT.out rfl | exact HT.out trivial | exact HT.out), (S4.out _).put _⟩
 | false =>
   go_wp2_with (refine wpList_storeF rfl _ _ rfl w.heap.size fz0 fz0 rfl rfl (S4.out _).ob ?_)
   exact bodyPost_ret (resFzB (p := 8) (u := 9) (by kernel_rfl) _ _ w.heap.size _ rfl (setRow_heap _ _ _ _ _ _ (S4.out _).ob) _ rfl rfl) rfl ⟨(by first | exact HU.out rfl | exact HU.out trivial | exact HU.out), (S4.out _).put _⟩
set_option maxHeartbeats 8000000 in
theorem dfits4_any (ao : Option Addr) (cap a e : Nat) (L : List (Nat × Nat)) (w : World) (hL : L.length ≤ 140737488355328) (ha32 : a < 4294967296) (he32 : e < 4294967296) (hwf : Wfc L) (hr : CRd w ao L w.heap.size) (hl : a < e ∧ e ≤ L.length) :
   Calls Tryz.prog 8 #[.slice ao L.length cap, .int .u32 (a : Int), .int .u32 (e : Int), .int .u8 4] w fun en w' => FtP L a e 4 en ∧ Below w.heap.size w w' := by
 have HL := dhid (fun W => dlies_any ao cap L.length a e W (by omega) ha32 he32)
 rw [show liB L.length a e = true from decide_eq_true hl] at HL
 have HF := dhid (fun W (hW : Below w.heap.size w W) => dfold_any ao cap a e 4 L W hL ha32 he32 hwf ((hr.below hW).mono hW.size))
 have HY : Hid (∀ x, FdP a 4 (lnE L a e) (lnP L a e) x → ∃ f0 f1 f2 f3 f4 f5 ok, x = .returned (.tuple #[.agg (fzA ⟨f0, f1, f2, f3, f4, f5⟩), .bool ok]) ∧ (ok = true → FtP L a e 4 (.returned (.tuple #[.agg (fzA ⟨f0, f1, f2, f3, f4, f5⟩), .bool true]))) ∧ (ok = false → FtP L a e 4 (.returned (.tuple #[.agg (fzA fz0), .bool false])))) := dhid (by
   rintro x ⟨⟨f0, f1, f2, f3, f4, f5⟩, ok, rfl, hok, hf⟩
   refine ⟨f0, f1, f2, f3, f4, f5, ok, rfl, fun h => ftp_of ?_, fun h => ftp_of ?_⟩
   · rw [hf h]
     unfold ftV
     rw [if_pos ⟨hl, by decide, by decide⟩, fold_eq hwf hl (k := 4) (by omega), ← hok, if_pos h]
   · unfold ftV
     rw [if_pos ⟨hl, by decide, by decide⟩, fold_eq hwf hl (k := 4) (by omega), ← hok, if_neg (by rw [h]; decide)])
 generalize FdP a 4 (lnE L a e) (lnP L a e) = LL at HF HY
 generalize FtP L a e 4 = PP at HY ⊢
 have HN := dhid (FtS.new w)
 have q4 : IntKind.i64.wrap (a : Int) = (a : Int) := by rw [IntKind.wrap_i64]; omega
 have q5 : wrap64 (a : Int) = (a : Int) := by unfold wrap64; omega
 have q6 : IntKind.i64.wrap (e : Int) = (e : Int) := by rw [IntKind.wrap_i64]; omega
 have q7 : wrap64 (e : Int) = (e : Int) := by unfold wrap64; omega
 clear hwf hr hl hL ha32 he32
 go_enter Tryz.func8, Tryz.ntmps8
 go_wp2_with (go_at_call 20; refine (HL.out _).mono ?_; rintro en w1 ⟨rfl, hw1⟩; subst hw1)
 refine (HF.out _ HN.out.bw).mono ?_
 rintro en w3 ⟨hls, hb3⟩
 obtain ⟨f0, f1, f2, f3, f4, f5, ok, rfl, HT, HU⟩ := HY.out _ hls
 replace HT := dhid HT
 replace HU := dhid HU
 have S3 := dhid (HN.out.next hb3)
 have S4 := dhid (fun o => S3.out.next (bel1 w3 o))
 clear hls hb3 HF HY HN HL S3
 simp only [fzA]
 cases ok with
 | true =>
   go_wp2_with (refine wpList_storeF rfl _ _ rfl w.heap.size fz0 ⟨f0, f1, f2, f3, f4, f5⟩ rfl rfl (S4.out _).ob ?_)
   exact bodyPost_ret (resFzB (p := 8) (u := 9) (by kernel_rfl) _ _ w.heap.size _ rfl (setRow_heap _ _ _ _ _ _ (S4.out _).ob) _ rfl rfl) rfl ⟨(by first | exact HT.out rfl | exact HT.out trivial | exact HT.out), (S4.out _).put _⟩
 | false =>
   go_wp2_with (refine wpList_storeF rfl _ _ rfl w.heap.size fz0 fz0 rfl rfl (S4.out _).ob ?_)
   exact bodyPost_ret (resFzB (p := 8) (u := 9) (by kernel_rfl) _ _ w.heap.size _ rfl (setRow_heap _ _ _ _ _ _ (S4.out _).ob) _ rfl rfl) rfl ⟨(by first | exact HU.out rfl | exact HU.out trivial | exact HU.out), (S4.out _).put _⟩
set_option maxHeartbeats 8000000 in
theorem dfitsS_any (ao : Option Addr) (cap a e k : Nat) (L : List (Nat × Nat)) (w : World) (hL : L.length ≤ 140737488355328) (ha32 : a < 4294967296) (he32 : e < 4294967296) (hwf : Wfc L) (hr : CRd w ao L w.heap.size) (hl : a < e ∧ e ≤ L.length) (hk : k ≠ 2 ∧ k ≠ 3 ∧ k ≠ 4) :
   Calls Tryz.prog 8 #[.slice ao L.length cap, .int .u32 (a : Int), .int .u32 (e : Int), .int .u8 (k : Int)] w fun en w' => FtP L a e k en ∧ Below w.heap.size w w' := by
 have HL := dhid (fun W => dlies_any ao cap L.length a e W (by omega) ha32 he32)
 rw [show liB L.length a e = true from decide_eq_true hl] at HL
 have HS := dhid (fun j (h0 : 0 < j) (hj : a + j ≤ e) W (hW : Below w.heap.size w W) => dshape_any ao cap a (a + j) k L W hL (by omega) (by omega) (by omega) hwf ((hr.below hW).mono hW.size))
 have HH := dhid (fun e' (f : Fz) (h : ShD L a e' k f) (h1 : a < e') (h2 : e' ≤ e) => ftp_of (ft_hit hwf h h1 h2 hl.2))
 have HM := dhid (fun (h : ∀ e', a < e' → e' ≤ e → e' ≤ a + 30 → ∀ g, ¬ ShD L a e' k g) => ftp_of (ft_miss hwf hk h))
 have g2 : ((k : Int) == 2) = false := by rw [beq_eq_false_iff_ne]; omega
 have g3 : ((k : Int) == 3) = false := by rw [beq_eq_false_iff_ne]; omega
 have g4 : ((k : Int) == 4) = false := by rw [beq_eq_false_iff_ne]; omega
 have g2' : ¬ (k : Int) = 2 := by omega
 have g3' : ¬ (k : Int) = 3 := by omega
 have g4' : ¬ (k : Int) = 4 := by omega
 generalize FtP L a e k = PP at HH HM ⊢
 have HN := dhid (FtS.new w)
 have hsub : (e : Int) - (a : Int) = ((e - a : Nat) : Int) := by omega
 have q0 : ((e - a : Nat) : Int) % 4294967296 = ((e - a : Nat) : Int) := by omega
 have q1 : IntKind.u32.wrap ((e - a : Nat) : Int) = ((e - a : Nat) : Int) := by rw [IntKind.wrap_u32]; omega
 have q2 : IntKind.i64.wrap ((e - a : Nat) : Int) = ((e - a : Nat) : Int) := by rw [IntKind.wrap_i64]; omega
 have q3 : wrap64 ((e - a : Nat) : Int) = ((e - a : Nat) : Int) := by unfold wrap64; omega
 have q4 : IntKind.i64.wrap (a : Int) = (a : Int) := by rw [IntKind.wrap_i64]; omega
 have q5 : wrap64 (a : Int) = (a : Int) := by unfold wrap64; omega
 have hea : a + (e - a) = e := by omega
 have hle : Hid (e < 4294967296) := dhid he32
 have hn0 : Hid (0 < e - a) := dhid (Nat.sub_pos_of_lt hl.1)
 generalize hn : e - a = n at *
 clear hl hk hwf hr hL ha32 he32 hn
 by_cases h30 : 30 < n
 · have g30 : (30 : Int) < (n : Int) := by omega
   go_enter Tryz.func8, Tryz.ntmps8
   go_wp2_with (go_at_call 20; refine (HL.out _).mono ?_; rintro en w1 ⟨rfl, hw1⟩; subst hw1)
   clear q0 q1 q2 q3 hsub
   go_loopw [12] (fun u wr => ∃ j : Nat, u = .int .i64 (j : Int) ∧ j ≤ 30 ∧ Hid (∀ e', a + j < e' → e' ≤ a + 30 → ∀ g, ¬ ShD L a e' k g) ∧ Hid (FtS w wr)) (fun u _ => (intOf u).toNat)
   case atStart => exact ⟨30, rfl, Nat.le_refl _, dhid (fun e' h1 h2 => absurd h1 (by omega)), HN⟩
   case round =>
     obtain ⟨j, rfl, hj, HX, HB⟩ := hrel
     by_cases h0 : 0 < j
     · have h0I : (0 : Int) < (j : Int) := by omega
       have hjn : j ≤ n := by omega
       have HSj := dhid (HS.out j h0 (Nat.le_trans (Nat.add_le_add_left hjn a) (Nat.le_of_eq hea)) wr HB.out.bw)
       obtain ⟨p, hp⟩ : ∃ p, Hid (p = a + j) := ⟨_, dhid rfl⟩
       have hpe : p ≤ e := by rw [hp.out]; exact Nat.le_trans (Nat.add_le_add_left hjn a) (Nat.le_of_eq hea)
       rw [← hp.out] at HSj
       have p1 : (a : Int) + (j : Int) = (p : Int) := by have := hp.out; omega
       have p2 : IntKind.i64.wrap (p : Int) = (p : Int) := by have := hle.out; rw [IntKind.wrap_i64]; omega
       have p3 : wrap64 (p : Int) = (p : Int) := by have := hle.out; unfold wrap64; omega
       have p4 : (j : Int) - 1 = ((j - 1 : Nat) : Int) := by omega
       have p5 : IntKind.i64.wrap ((j - 1 : Nat) : Int) = ((j - 1 : Nat) : Int) := by have := hle.out; rw [IntKind.wrap_i64]; omega
       have p6 : wrap64 ((j - 1 : Nat) : Int) = ((j - 1 : Nat) : Int) := by have := hle.out; unfold wrap64; omega
       go_wp2_with fail
       refine HSj.out.mono ?_
       rintro en w3 ⟨⟨⟨f0, f1, f2, f3, f4, f5⟩, ok, rfl, hok⟩, hb3⟩
       have S3 := dhid (HB.out.next hb3)
       have S4 := dhid (fun o => S3.out.next (bel1 w3 o))
       simp only [fzA]
       cases ok with
       | true =>
         have HZ := dhid (HH.out p ⟨f0, f1, f2, f3, f4, f5⟩ (by simpa using hok) (by rw [hp.out]; exact Nat.lt_add_of_pos_right h0) hpe)
         clear hok hb3 HS HH HM HX HB S3
         go_wp2_with (refine wpList_storeF rfl _ _ rfl w.heap.size fz0 ⟨f0, f1, f2, f3, f4, f5⟩ rfl rfl (S4.out _).ob ?_)
         exact bodyPost_ret (resFzB (p := 8) (u := 9) (by kernel_rfl) _ _ w.heap.size _ rfl (setRow_heap _ _ _ _ _ _ (S4.out _).ob) _ rfl rfl) rfl ⟨HZ.out, (S4.out _).put _⟩
       | false =>
         have HX2 : Hid (∀ e', a + (j - 1) < e' → e' ≤ a + 30 → ∀ g, ¬ ShD L a e' k g) := dhid (fun e' h1 h2 => by
           have hp' := hp.out
           by_cases h : e' = p
           · rw [h]; simpa using hok
           · exact HX.out e' (by omega) h2)
         clear hok hb3 HX HB S3
         go_wp2_with fail
         go_roundw
         case rel => exact ⟨j - 1, by first | rfl | go_num, Nat.le_trans (Nat.sub_le j 1) hj, HX2, S4.out _⟩
         case measure => clear p1 p2 p3 p4 p5 p6 q4 q5 hea; simp [intOf]; omega
     · have h0I : ¬ (0 : Int) < (j : Int) := by omega
       have HZ := dhid (HM.out (fun e' h1 h2 h3 => HX.out e' (by omega) (by omega)))
       go_wp2_with (refine wpList_storeF rfl _ _ rfl w.heap.size fz0 fz0 rfl rfl HB.out.ob ?_)
       exact bodyPost_ret (resFzB (p := 8) (u := 9) (by kernel_rfl) _ _ w.heap.size _ rfl (setRow_heap _ _ _ _ _ _ HB.out.ob) _ rfl rfl) rfl ⟨HZ.out, HB.out.put _⟩
 · have g30 : ¬ (30 : Int) < (n : Int) := by omega
   go_enter Tryz.func8, Tryz.ntmps8
   go_wp2_with (go_at_call 20; refine (HL.out _).mono ?_; rintro en w1 ⟨rfl, hw1⟩; subst hw1)
   clear q0 q1 q2 q3 hsub
   go_loopw [12] (fun u wr => ∃ j : Nat, u = .int .i64 (j : Int) ∧ j ≤ n ∧ Hid (∀ e', a + j < e' → e' ≤ a + n → ∀ g, ¬ ShD L a e' k g) ∧ Hid (FtS w wr)) (fun u _ => (intOf u).toNat)
   case atStart => exact ⟨n, rfl, Nat.le_refl _, dhid (fun e' h1 h2 => absurd h1 (by omega)), HN⟩
   case round =>
     obtain ⟨j, rfl, hj, HX, HB⟩ := hrel
     by_cases h0 : 0 < j
     · have h0I : (0 : Int) < (j : Int) := by omega
       have hjn : j ≤ n := by omega
       have HSj := dhid (HS.out j h0 (Nat.le_trans (Nat.add_le_add_left hjn a) (Nat.le_of_eq hea)) wr HB.out.bw)
       obtain ⟨p, hp⟩ : ∃ p, Hid (p = a + j) := ⟨_, dhid rfl⟩
       have hpe : p ≤ e := by rw [hp.out]; exact Nat.le_trans (Nat.add_le_add_left hjn a) (Nat.le_of_eq hea)
       rw [← hp.out] at HSj
       have p1 : (a : Int) + (j : Int) = (p : Int) := by have := hp.out; omega
       have p2 : IntKind.i64.wrap (p : Int) = (p : Int) := by have := hle.out; rw [IntKind.wrap_i64]; omega
       have p3 : wrap64 (p : Int) = (p : Int) := by have := hle.out; unfold wrap64; omega
       have p4 : (j : Int) - 1 = ((j - 1 : Nat) : Int) := by omega
       have p5 : IntKind.i64.wrap ((j - 1 : Nat) : Int) = ((j - 1 : Nat) : Int) := by have := hle.out; rw [IntKind.wrap_i64]; omega
       have p6 : wrap64 ((j - 1 : Nat) : Int) = ((j - 1 : Nat) : Int) := by have := hle.out; unfold wrap64; omega
       go_wp2_with fail
       refine HSj.out.mono ?_
       rintro en w3 ⟨⟨⟨f0, f1, f2, f3, f4, f5⟩, ok, rfl, hok⟩, hb3⟩
       have S3 := dhid (HB.out.next hb3)
       have S4 := dhid (fun o => S3.out.next (bel1 w3 o))
       simp only [fzA]
       cases ok with
       | true =>
         have HZ := dhid (HH.out p ⟨f0, f1, f2, f3, f4, f5⟩ (by simpa using hok) (by rw [hp.out]; exact Nat.lt_add_of_pos_right h0) hpe)
         clear hok hb3 HS HH HM HX HB S3
         go_wp2_with (refine wpList_storeF rfl _ _ rfl w.heap.size fz0 ⟨f0, f1, f2, f3, f4, f5⟩ rfl rfl (S4.out _).ob ?_)
         exact bodyPost_ret (resFzB (p := 8) (u := 9) (by kernel_rfl) _ _ w.heap.size _ rfl (setRow_heap _ _ _ _ _ _ (S4.out _).ob) _ rfl rfl) rfl ⟨HZ.out, (S4.out _).put _⟩
       | false =>
         have HX2 : Hid (∀ e', a + (j - 1) < e' → e' ≤ a + n → ∀ g, ¬ ShD L a e' k g) := dhid (fun e' h1 h2 => by
           have hp' := hp.out
           by_cases h : e' = p
           · rw [h]; simpa using hok
           · exact HX.out e' (by omega) h2)
         clear hok hb3 HX HB S3
         go_wp2_with fail
         go_roundw
         case rel => exact ⟨j - 1, by first | rfl | go_num, Nat.le_trans (Nat.sub_le j 1) hj, HX2, S4.out _⟩
         case measure => clear p1 p2 p3 p4 p5 p6 q4 q5 hea; simp [intOf]; omega
     · have h0I : ¬ (0 : Int) < (j : Int) := by omega
       have HZ := dhid (HM.out (fun e' h1 h2 h3 => HX.out e' (by omega) (by omega)))
       go_wp2_with (refine wpList_storeF rfl _ _ rfl w.heap.size fz0 fz0 rfl rfl HB.out.ob ?_)
       exact bodyPost_ret (resFzB (p := 8) (u := 9) (by kernel_rfl) _ _ w.heap.size _ rfl (setRow_heap _ _ _ _ _ _ HB.out.ob) _ rfl rfl) rfl ⟨HZ.out, HB.out.put _⟩
theorem dfits_any (ao : Option Addr) (cap a e k : Nat) (L : List (Nat × Nat)) (w : World) (hL : L.length ≤ 140737488355328) (ha32 : a < 4294967296) (he32 : e < 4294967296) (hwf : Wfc L) (hr : CRd w ao L w.heap.size) :
   Calls Tryz.prog 8 #[.slice ao L.length cap, .int .u32 (a : Int), .int .u32 (e : Int), .int .u8 (k : Int)] w fun en w' => en = .returned (.tuple #[.agg (fzA (ftV L a e k).1), .bool (ftV L a e k).2]) ∧ Below w.heap.size w w' := by
 show Calls _ _ _ _ fun en w' => FtP L a e k en ∧ Below w.heap.size w w'
 by_cases hl : a < e ∧ e ≤ L.length
 · by_cases h2 : k = 2
   · subst h2; exact dfits2_any ao cap a e L w hL ha32 he32 hwf hr hl
   by_cases h3 : k = 3
   · subst h3; exact dfits3_any ao cap a e L w hL ha32 he32 hwf hr hl
   by_cases h4 : k = 4
   · subst h4; exact dfits4_any ao cap a e L w hL ha32 he32 hwf hr hl
   exact dfitsS_any ao cap a e k L w hL ha32 he32 hwf hr hl ⟨h2, h3, h4⟩
 · exact dfitsN_any ao cap a e k L w hL ha32 he32 hl
end Go.Proofs.YtibhlcfligfhdaaGreat
namespace Go.Proofs.YtibhlcfligfhdaaGreat
open Go.RowKit Go.WideShapes
set_option maxRecDepth 100000
theorem own_crdD {w : World} {B : Nat} {v : Value} {L : List (Nat × Nat)} (h : w.ownsRow B 37 2 v L.length (cv L)) : ∃ ao cap, v = .slice ao L.length cap ∧ L.length ≤ cap ∧ CRd w ao L w.heap.size := by
 rcases h.2 with ⟨rfl, h0⟩ | ⟨g, cap, cur, rfl, hh⟩
 · exact ⟨none, 0, by rw [h0], by omega, fun hp => absurd hp (by omega)⟩
 · refine ⟨some ⟨g, 0, none⟩, cap, rfl, ?_, fun _ => ⟨g, 0, rfl, (h.lt g rfl).2, fun j hj => ?_⟩⟩
   · exact hh.2.2.1
   · obtain ⟨c0, c1⟩ := cvD_get L j hj
     have a0 := h.cells (g := g) rfl _ _ c0
     have a1 := h.cells (g := g) rfl _ _ c1
     rw [Go.WideShapes.add_plain] at a0 a1
     exact ⟨a0, by rw [Nat.add_assoc]; exact a1⟩
end Go.Proofs.YtibhlcfligfhdaaGreat
namespace Go.Proofs.YtibhlcfligfhdaaGreat
open Go.RowKit
set_option maxRecDepth 100000
end Go.Proofs.YtibhlcfligfhdaaGreat
namespace Go.Proofs.YtibhlcfligfhdaaGreat
open Go.RowKit
set_option maxRecDepth 100000
end Go.Proofs.YtibhlcfligfhdaaGreat
namespace Go.Proofs.YtibhlcfligfhdaaGreat
open Go.RowKit
set_option maxRecDepth 100000
theorem Tryz.infoC : (Tryz.prog.info? 37).map (fun i => (i.zero, i.size, i.bytes)) = some (some (.agg #[.int .u8 0, .int .u32 0]), 2, 8) := by kernel_rfl
end Go.Proofs.YtibhlcfligfhdaaGreat
namespace Go.Proofs.YtibhlcfligfhdaaGreat
open Go.RowKit
set_option maxRecDepth 100000
end Go.Proofs.YtibhlcfligfhdaaGreat
namespace Go.Proofs.YtibhlcfligfhdaaGreat
open Go.RowKit
set_option maxRecDepth 100000
theorem below_drew0 {w : World} (n : Nat) : Below w.heap.size w (w.drewN n) := below_drewN (Below.refl _ _) n
end Go.Proofs.YtibhlcfligfhdaaGreat
namespace Go.Proofs.YtibhlcfligfhdaaGreat
open Go.RowKit
set_option maxRecDepth 100000
def mk0 (i : Nat) : Nat × Nat := (200, 1000003 + i)
def mksC (m : Nat) : List (Nat × Nat) := (List.range m).map mk0
theorem mksC_succ (m : Nat) : mksC (m + 1) = mksC m ++ [mk0 m] := by unfold mksC; rw [List.range_succ, List.map_append]; rfl
theorem mksC_len (m : Nat) : (mksC m).length = m := by simp [mksC]
theorem infoI2 : (Tryz.prog.info? 37).map (·.size) = some 2 := by kernel_rfl
set_option maxRecDepth 100000 in
theorem undI2 : ∃ fs, Tryz.prog.underlying 37 = some (.struct fs) := by
 have h : (match Tryz.prog.underlying 37 with | some (.struct _) => true | _ => false) = true := by kernel_rfl
 split at h
 · exact ⟨_, by assumption⟩
 · cases h
set_option maxRecDepth 100000 in
set_option maxHeartbeats 1000000 in
theorem markc_any (i : Nat) (w : World) (hi : i ≤ 64) :
   Calls Tryz.prog 16 #[.int .i64 0, .int .i64 i] w fun e w' => e = .returned (.agg #[.int .u8 200, .int .u32 (1000003 + (i : Int))]) ∧ w' = w.alloc (.cells #[.int .u8 200, .int .u32 (1000003 + (i : Int))] 37) := by
 have hiI : (i : Int) ≤ 64 := by omega
 clear hi
 go_enter Tryz.func16, Tryz.ntmps16
 go_wp2
 obtain ⟨fs, hu⟩ := undI2
 exact bodyPost_ret (results_cell_row (p := 4) (ty := 37) (by kernel_rfl) _ _ w.heap.size 37 #[.int .u8 200, .int .u32 (1000003 + (i : Int))] (0, 0) _ rfl (heap_alloc_last w _) hu rfl (by rw [infoI2]; rfl)) rfl ⟨rfl, rfl⟩
set_option maxRecDepth 100000 in
set_option maxHeartbeats 2000000 in
theorem lentc_any (ao : Option Addr) (cap : Nat) (L : List (Nat × Nat)) (w : World) (hn : L.length ≤ 17592186044352) (hr : CRd w ao L w.heap.size) :
   Calls Tryz.prog 6 #[.slice ao L.length cap] w fun e w' => ∃ v, e = .returned v ∧ w'.ownsRow w.heap.size 37 2 v (L.length + 64) (cv (L ++ mksC 64)) ∧ Below w.heap.size w w' := by
 obtain ⟨i0, hi, hz0, hz1, hz2⟩ := info_parts Tryz.infoC
 go_enter Tryz.func6, Tryz.ntmps6
 go_wp2
 go_loopw [3, 4] (fun v i wr => ∃ k : Nat, k ≤ L.length ∧ i = .int .i64 k ∧ wr.ownsRow w.heap.size 37 2 v k (cv (L.take k)) ∧ Below w.heap.size w wr)
   (fun _ i _ => L.length - (intOf i).toNat)
 case atStart => exact ⟨0, Nat.zero_le _, rfl, World.ownsRow_nil _ _ _ _, Below.refl _ _⟩
 case round =>
   obtain ⟨k, hk, rfl, hown, hb⟩ := hrel
   by_cases hlt : k < L.length
   · obtain ⟨b, off, rfl, hbl, hc⟩ := (hr.below hb) (by omega)
     obtain ⟨x0, x1⟩ := hc k hlt
     have hB := hb.size
     clear hc
     have HS := hid_of (ptake (0, 0) L k hlt)
     generalize L.getD k (0, 0) = c at x0 x1 HS
     have hltI : (k : Int) < (L.length : Int) := by omega
     go_wp2_with (at_builtin; refine wpList_append_own _ rfl _ _ 22 rfl w.heap.size 37 i0 (.agg #[.int .u8 0, .int .u32 0]) 2 8 Tryz.underlying22 hi hz0 hz1 hz2 rfl (by decide) _ _ _ rfl (hown.alloc _) ⟨wr.heap.size, 0, none⟩ 1 1 [.int .u8 c.1, .int .u32 c.2] rfl rfl ?c1 ?c2 ?c3 ?c4 ?c5 ?_)
     case c1 =>
       intro j u hj
       match j, hj with
       | 0, hj => simp at hj; subst hj; simp [Addr.add]
       | 1, hj => simp at hj; subst hj; simp [Addr.add]
     case c2 => intro u hu; simp at hu; rcases hu with rfl | rfl <;> rfl
     case c3 => unfold maxLen; omega
     case c4 => omega
     case c5 => simp; omega
     intro v' w1 hown' hgrow _
     have R1 : w1.ownsRow w.heap.size 37 2 v' (k + 1) (cv (L.take (k + 1))) := by rw [HS.out, cv_append]; exact hown'
     have R2 := grown_below hb hB hown hgrow
     clear hown' hgrow hown x0 x1
     go_wp2
     go_roundw
     case rel => exact ⟨k + 1, by omega, by go_num, R1, R2⟩
     case measure => simp [intOf]; omega
   · go_wp2
     go_loopw [3, 5] (fun v i wr => ∃ k : Nat, k ≤ 64 ∧ i = .int .i64 k ∧ wr.ownsRow w.heap.size 37 2 v (L.length + k) (cv (L ++ mksC k)) ∧ Below w.heap.size w wr)
       (fun _ i _ => 64 - (intOf i).toNat)
     case atStart => exact ⟨0, by omega, rfl, by simpa [mksC, show k = L.length by omega] using hown, hb⟩
     case round =>
       clear hown hb
       obtain ⟨j, hj, rfl, hown, hb⟩ := hrel
       have hB := hb.size
       by_cases hlt2 : j < 64
       · have hltI : (j : Int) < 64 := by omega
         have hM := markc_any j wr (by omega)
         go_wp2_with (first
           | (go_at_call 16; with_reducible refine hM.mono ?_; rintro e wq ⟨rfl, hq⟩; subst wq)
           | (at_builtin; refine wpList_append_own _ rfl _ _ 22 rfl w.heap.size 37 i0 (.agg #[.int .u8 0, .int .u32 0]) 2 8 Tryz.underlying22 hi hz0 hz1 hz2 rfl (by decide) _ _ _ rfl ((hown.alloc _).alloc _) ⟨_, 0, none⟩ 1 1 [.int .u8 200, .int .u32 (1000003 + (j : Int))] rfl rfl ?d1 ?d2 ?d3 ?d4 ?d5 ?_))
         case d1 =>
           intro j u hj
           match j, hj with
           | 0, hj => simp at hj; subst hj; simp [Addr.add]
           | 1, hj => simp at hj; subst hj; simp [Addr.add]
         case d2 => intro u hu; simp at hu; rcases hu with rfl | rfl <;> rfl
         case d3 => unfold maxLen; omega
         case d4 => omega
         case d5 => simp; omega
         intro v' w1 hown' hgrow _
         have R1 : w1.ownsRow w.heap.size 37 2 v' (L.length + (j + 1)) (cv (L ++ mksC (j + 1))) := by
           rw [mksC_succ, ← List.append_assoc, cv_append]; exact hown'
         have R2 : Below w.heap.size w w1 := grown_below (bel hb) (bel hb).size (hown.alloc _) hgrow
         clear hown' hgrow hown hM
         go_wp2
         go_roundw
         case rel => exact ⟨j + 1, by omega, by go_num, R1, R2⟩
         case measure => simp [intOf]; omega
       · go_wp2
         go_ret
         obtain rfl : j = 64 := by omega
         exact ⟨_, rfl, hown, hb⟩
end Go.Proofs.YtibhlcfligfhdaaGreat
