import Derived.Test.YtibhlcfligfhdaaGreatCZDm
import Derived.Test.YtibhlcfligfhdaaGreatCDRl
import Derived.BigQuiet
namespace Go.Proofs.YtibhlcfligfhdaaGreat
open Go.RowKit Go.WideShapes Go.Shelf
set_option maxRecDepth 100000
theorem shIdx_lit (c0 c1 c2 c3 c4 c5 c6 c7 c8 c9 c10 c11 c12 c13 c14 c15 : Value) (w : World) : ∀ k : Nat, k < 16 → (Instr.index 52 (.agg #[c0, c1, c2, c3, c4, c5, c6, c7, c8, c9, c10, c11, c12, c13, c14, c15]) (.int .u8 (k : Int))).run Tryz.prog w = .ok (#[c0, c1, c2, c3, c4, c5, c6, c7, c8, c9, c10, c11, c12, c13, c14, c15].getD k .nilFunc) w
 | 0, _ => by kernel_rfl
 | 1, _ => by kernel_rfl
 | 2, _ => by kernel_rfl
 | 3, _ => by kernel_rfl
 | 4, _ => by kernel_rfl
 | 5, _ => by kernel_rfl
 | 6, _ => by kernel_rfl
 | 7, _ => by kernel_rfl
 | 8, _ => by kernel_rfl
 | 9, _ => by kernel_rfl
 | 10, _ => by kernel_rfl
 | 11, _ => by kernel_rfl
 | 12, _ => by kernel_rfl
 | 13, _ => by kernel_rfl
 | 14, _ => by kernel_rfl
 | 15, _ => by kernel_rfl
 | k + 16, h => absurd h (by omega)
theorem shIdx (cs : Array Value) (w : World) (k : Nat) (hs : cs.size = 16) (hk : k < 16) : (Instr.index 52 (.agg cs) (.int .u8 (k : Int))).run Tryz.prog w = .ok (cs.getD k .nilFunc) w := by
 obtain ⟨l⟩ := cs
 obtain _ | ⟨c0, l⟩ := l
 · simp at hs
 obtain _ | ⟨c1, l⟩ := l
 · simp at hs
 obtain _ | ⟨c2, l⟩ := l
 · simp at hs
 obtain _ | ⟨c3, l⟩ := l
 · simp at hs
 obtain _ | ⟨c4, l⟩ := l
 · simp at hs
 obtain _ | ⟨c5, l⟩ := l
 · simp at hs
 obtain _ | ⟨c6, l⟩ := l
 · simp at hs
 obtain _ | ⟨c7, l⟩ := l
 · simp at hs
 obtain _ | ⟨c8, l⟩ := l
 · simp at hs
 obtain _ | ⟨c9, l⟩ := l
 · simp at hs
 obtain _ | ⟨c10, l⟩ := l
 · simp at hs
 obtain _ | ⟨c11, l⟩ := l
 · simp at hs
 obtain _ | ⟨c12, l⟩ := l
 · simp at hs
 obtain _ | ⟨c13, l⟩ := l
 · simp at hs
 obtain _ | ⟨c14, l⟩ := l
 · simp at hs
 obtain _ | ⟨c15, l⟩ := l
 · simp at hs
 obtain _ | ⟨c16, l⟩ := l
 · exact shIdx_lit _ _ _ _ _ _ _ _ _ _ _ _ _ _ _ _ w k hk
 · simp at hs
def ftV (L : List (Nat × Nat)) (a e k : Nat) : Fz × Bool := if (a < e ∧ e ≤ L.length) ∧ 1 ≤ k ∧ k ≤ 15 then fkV ((L.drop a).take (e - a)) a k else (fz0, false)
set_option maxHeartbeats 8000000 in
theorem fits_any (ao : Option Addr) (cap a e k : Nat) (L : List (Nat × Nat)) (w : World) (hn : L.length ≤ 9223372036854775807) (hcap : L.length ≤ cap) (ha : a < 4294967296) (he : e < 4294967296) (hwf : Wfc L) (hr : CRd w ao L w.heap.size) :
   Calls Tryz.prog 7 #[.slice ao L.length cap, .int .u32 (a : Int), .int .u32 (e : Int), .int .u8 (k : Int)] w fun en w' => en = .returned (.tuple #[.agg (fzA (ftV L a e k).1), .bool (ftV L a e k).2]) ∧ Below w.heap.size w w' := by
 have HL := dhid (fun W => lies_any ao cap L.length a e W hn ha he)
 have hS := setRow_heap (w.alloc (.cells (fzA fz0) 28)) w.heap.size _ (fzA fz0) _ _ (heap_alloc_new w _)
 have hBf : Below w.heap.size w ((w.alloc (.cells (fzA fz0) 28)).setRow w.heap.size (fzA fz0)) := (bel1 w _).trans ((KpSetRow (S := fun i => i = w.heap.size) _ _ _ rfl).below (by simp) (fun i e => by omega))
 by_cases hl : a < e ∧ e ≤ L.length
 · rw [show liB L.length a e = true from decide_eq_true hl] at HL
   by_cases hk1 : 1 ≤ k
   · by_cases hk2 : k ≤ 15
     · have hV : ftV L a e k = fkV ((L.drop a).take (e - a)) a k := if_pos ⟨hl, hk1, hk2⟩
       rw [hV]
       obtain ⟨S, hS⟩ : ∃ S, S = (L.drop a).take (e - a) := ⟨_, rfl⟩
       have hSl : S.length = e - a := by rw [hS, List.length_take, List.length_drop]; omega
       rw [← hS]
       have hr' := hr
       obtain ⟨b, off, rfl, hbl, -⟩ := hr (by omega)
       have HSR := dhid (show CRd w (some ⟨b, off + a * 2, none⟩) S w.heap.size by rw [hS]; exact crd_takeZ (crd_drop hr' a) _)
       have HWS := dhid (show Wfc S by rw [hS]; exact wfc_takeZ (wfc_drop hwf a) _)
       have HFT := dhid (fun (w2 : World) (hb : Below w.heap.size w w2) (B : Nat) (fv : Value) (hv : ShS B w2 fv (shK k)) => fit_any (B := B) fv (shK k) k a (some ⟨b, off + a * 2, none⟩) (cap - a) S w2 w2 hv (Fr.of (Below.refl _ _)) (by omega) (by omega) (by omega) HWS.out ((HSR.out.below hb).mono hb.size))
       rw [hSl] at HFT
       have HFK := dhid (show fkV S a k = fitV (shK k) k S a from rfl)
       rw [← HFK.out] at HFT
       generalize fkV S a k = fk at HFT ⊢
       obtain ⟨⟨f0, f1, f2, f3, f4, f5⟩, ok⟩ := fk
       simp only [fzA] at HFT
       have hac : ¬ a = cap := by omega
       have hac' : ¬ cap = a := by omega
       have haeI : (a : Int) ≤ (e : Int) := by omega
       have hecI : (e : Int) ≤ (cap : Int) := by omega
       have g1 : ¬ (k : Int) < 1 := by omega
       have g2 : ¬ (15 : Int) < (k : Int) := by omega
       have HSP := dhid (fun W => shapes_any W)
       clear hS hSl hr' hr hV HFK HSR HWS
       go_enter Tryz.func7, Tryz.ntmps7
       go_wp2_with (go_at_call 17; refine (HL.out _).mono ?_; rintro en w1 ⟨rfl, hw1⟩; subst hw1)
       go_region_held3 (fun _ => True) (trivial)
         (first
           | (with_reducible refine (HSP.out _).mono ?_; rintro en w2 ⟨cs, rfl, hcs, hsh, hone, hb2⟩
              obtain ⟨fv, hfv⟩ : ∃ fv, cs.getD k .nilFunc = fv := ⟨_, rfl⟩
              have hix := shIdx cs w2 k hcs (by omega)
              rw [hfv] at hix
              have HV := dhid (hfv ▸ hsh k hk1 hk2)
              have HB2 := dhid hb2
              have D2 := dhid (show Below w.heap.size w w2 from (bel1 w (.cells #[.int .u32 0, .int .u32 0, .int .u8 0, .int .u8 0, .int .u32 0, .int .u32 0] 28)).trans ((show Below (w.alloc (.cells #[.int .u32 0, .int .u32 0, .int .u8 0, .int .u8 0, .int .u32 0, .int .u32 0] 28)).heap.size (w.alloc (.cells #[.int .u32 0, .int .u32 0, .int .u8 0, .int .u8 0, .int .u32 0, .int .u32 0] 28)) w2 from ⟨hb2.os, hb2.tape, hb2.output, hb2.size, hb2.block⟩).mono (by simp)))
              have O2 := dhid (show w2.heap[w.heap.size]? = some (.cells (fzA fz0) 28) from (hb2.block w.heap.size (by show w.heap.size < (w.alloc _).heap.size; simp)).trans (heap_alloc_new w (.cells #[.int .u32 0, .int .u32 0, .int .u8 0, .int .u8 0, .int .u32 0, .int .u32 0] 28)))
              clear hsh hone hb2 hfv)
           | (with_reducible refine (HFT.out _ D2.out _ _ HV.out).mono ?_; rintro en w3 ⟨rfl, hb3⟩
              have o3 := dhid ((hb3.block w.heap.size (Array.getElem?_eq_some_iff.1 O2.out).1).trans O2.out)
              obtain ⟨z0, z1, z2, z3, z4, z5⟩ := fz_cells (f := fz0) o3.out
              obtain ⟨v0, v1, v2, v3, v4, v5⟩ := fz_frozen (f := fz0) o3.out
              have P2 := dhid (put6_any (f := fz0) (f' := ⟨f0, f1, f2, f3, f4, f5⟩) o3.out)
              have D3 := dhid (D2.out.trans (hb3.mono D2.out.size))
              clear HFT HV D2 O2 HSP))
       generalize hFW : (((((w3.setCell ⟨w.heap.size, 0, none⟩ (.int .u32 (f0 : Int))).setCell ⟨w.heap.size, 1, none⟩ (.int .u32 (f1 : Int))).setCell ⟨w.heap.size, 2, none⟩ (.int .u8 (f2 : Int))).setCell ⟨w.heap.size, 3, none⟩ (.int .u8 (f3 : Int))).setCell ⟨w.heap.size, 4, none⟩ (.int .u32 (f4 : Int))).setCell ⟨w.heap.size, 5, none⟩ (.int .u32 (f5 : Int)) = FW
       have hP : FW.heap[w.heap.size]? = some (.cells (fzA ⟨f0, f1, f2, f3, f4, f5⟩) 28) ∧ Kp (fun i => i = w.heap.size) w3 FW := by rw [← hFW]; exact P2.out
       clear hFW z0 z1 z2 z3 z4 z5 v0 v1 v2 v3 v4 v5 P2
       go_wp2_with fail
       exact bodyPost_ret (resFzB (p := 8) (u := 9) (by kernel_rfl) _ _ w.heap.size _ rfl hP.1 _ rfl rfl) rfl ⟨rfl, D3.out.trans (hP.2.below D3.out.size (fun i e => by omega))⟩
     · have g1 : ¬ (k : Int) < 1 := by omega
       have g2 : (15 : Int) < (k : Int) := by omega
       rw [show ftV L a e k = (fz0, false) from if_neg (fun q => hk2 q.2.2)]
       go_enter Tryz.func7, Tryz.ntmps7
       go_wp2_with (first
         | (go_at_call 17; refine (HL.out _).mono ?_; rintro en w1 ⟨rfl, hw1⟩; subst hw1)
         | (refine wpList_storeF rfl _ _ rfl w.heap.size fz0 fz0 rfl rfl (heap_alloc_new w _) ?_))
       exact bodyPost_ret (resFzB (p := 8) (u := 9) (by kernel_rfl) _ _ w.heap.size _ rfl hS _ rfl rfl) rfl ⟨rfl, hBf⟩
   · have g1 : (k : Int) < 1 := by omega
     rw [show ftV L a e k = (fz0, false) from if_neg (fun q => hk1 q.2.1)]
     go_enter Tryz.func7, Tryz.ntmps7
     go_wp2_with (first
       | (go_at_call 17; refine (HL.out _).mono ?_; rintro en w1 ⟨rfl, hw1⟩; subst hw1)
       | (refine wpList_storeF rfl _ _ rfl w.heap.size fz0 fz0 rfl rfl (heap_alloc_new w _) ?_))
     exact bodyPost_ret (resFzB (p := 8) (u := 9) (by kernel_rfl) _ _ w.heap.size _ rfl hS _ rfl rfl) rfl ⟨rfl, hBf⟩
 · rw [show liB L.length a e = false from decide_eq_false hl] at HL
   rw [show ftV L a e k = (fz0, false) from if_neg (fun q => hl q.1)]
   go_enter Tryz.func7, Tryz.ntmps7
   go_wp2_with (first
     | (go_at_call 17; refine (HL.out _).mono ?_; rintro en w1 ⟨rfl, hw1⟩; subst hw1)
     | (refine wpList_storeF rfl _ _ rfl w.heap.size fz0 fz0 rfl rfl (heap_alloc_new w _) ?_))
   exact bodyPost_ret (resFzB (p := 8) (u := 9) (by kernel_rfl) _ _ w.heap.size _ rfl hS _ rfl rfl) rfl ⟨rfl, hBf⟩
end Go.Proofs.YtibhlcfligfhdaaGreat
namespace Go.Proofs.YtibhlcfligfhdaaGreat
open Go.RowKit Go.WideShapes Go.Shelf
set_option maxRecDepth 100000
def dBin (op : Nat) : Bool := isOp op && decide (opKi op = 1) && decide (opTa op = 2) && decide (opGi op = 1)
def dBra (op : Nat) : Bool := isOp op && decide (opKi op = 2)
def dLoa (op : Nat) : Bool := decide (op = 29) || decide (op = 30) || decide (op = 31)
def dSto (op : Nat) : Bool := decide (op = 32) || decide (op = 33) || decide (op = 34)
theorem dBin_eq : ∀ op, op < 256 → dBin op = (decide (39 ≤ op) && decide (op ≤ 57) && decide (opTa op = 2)) := by decide +kernel
theorem dBra_eq : ∀ op, op < 256 → dBra op = (decide (13 ≤ op) && decide (op ≤ 28)) := by decide +kernel
theorem dLoa_eq : ∀ op, op < 256 → dLoa op = (decide (29 ≤ op) && decide (op ≤ 31)) := by decide +kernel
theorem dSto_eq : ∀ op, op < 256 → dSto op = (decide (32 ≤ op) && decide (op ≤ 34)) := by decide +kernel
set_option maxHeartbeats 2000000 in
theorem dload_any (op : Nat) (w : World) : Calls Tryz.prog 63 #[.int .u8 (op : Int)] w fun e w' => e = .returned (.bool (dLoa op)) ∧ w' = w := by
 unfold dLoa
 by_cases h1 : op = 29
 · subst h1; go_enter Tryz.func63, Tryz.ntmps63; go_wp2; go_ret; exact ⟨rfl, rfl⟩
 by_cases h2 : op = 30
 · subst h2; go_enter Tryz.func63, Tryz.ntmps63; go_wp2; go_ret; exact ⟨rfl, rfl⟩
 have g1 : ((op : Int) == 29) = false := by rw [beq_eq_false_iff_ne]; omega
 have g2 : ((op : Int) == 30) = false := by rw [beq_eq_false_iff_ne]; omega
 by_cases h3 : op = 31
 · subst h3; go_enter Tryz.func63, Tryz.ntmps63; go_wp2; go_ret; exact ⟨rfl, rfl⟩
 have g3 : ((op : Int) == 31) = false := by rw [beq_eq_false_iff_ne]; omega
 rw [decide_eq_false h1, decide_eq_false h2, decide_eq_false h3]
 clear h1 h2 h3
 go_enter Tryz.func63, Tryz.ntmps63
 go_wp2
 go_ret
 exact ⟨rfl, rfl⟩
set_option maxHeartbeats 2000000 in
theorem dstore_any (op : Nat) (w : World) : Calls Tryz.prog 64 #[.int .u8 (op : Int)] w fun e w' => e = .returned (.bool (dSto op)) ∧ w' = w := by
 unfold dSto
 by_cases h1 : op = 32
 · subst h1; go_enter Tryz.func64, Tryz.ntmps64; go_wp2; go_ret; exact ⟨rfl, rfl⟩
 by_cases h2 : op = 33
 · subst h2; go_enter Tryz.func64, Tryz.ntmps64; go_wp2; go_ret; exact ⟨rfl, rfl⟩
 have g1 : ((op : Int) == 32) = false := by rw [beq_eq_false_iff_ne]; omega
 have g2 : ((op : Int) == 33) = false := by rw [beq_eq_false_iff_ne]; omega
 by_cases h3 : op = 34
 · subst h3; go_enter Tryz.func64, Tryz.ntmps64; go_wp2; go_ret; exact ⟨rfl, rfl⟩
 have g3 : ((op : Int) == 34) = false := by rw [beq_eq_false_iff_ne]; omega
 rw [decide_eq_false h1, decide_eq_false h2, decide_eq_false h3]
 clear h1 h2 h3
 go_enter Tryz.func64, Tryz.ntmps64
 go_wp2
 go_ret
 exact ⟨rfl, rfl⟩
def mayD (L : List (Nat × Nat)) (a e : Nat) : Bool := ((L.drop a).take (e - a)).all fun p => decide (erV p.1 p.2 = 0)
theorem mayD_end (L : List (Nat × Nat)) (a e : Nat) (h : e ≤ a) : mayD L a e = true := by simp [mayD, show e - a = 0 by omega]
theorem mayD_step (L : List (Nat × Nat)) (a e : Nat) (h : a < e) (hl : a < L.length) : mayD L a e = (decide (erV (L.getD a (0, 0)).1 (L.getD a (0, 0)).2 = 0) && mayD L (a + 1) e) := by
 unfold mayD
 rw [List.drop_eq_getElem_cons hl, show e - a = (e - (a + 1)) + 1 by omega, List.take_succ_cons, List.all_cons, List.getD_eq_getElem?_getD, List.getElem?_eq_getElem hl]
 rfl
set_option maxHeartbeats 4000000 in
theorem dmay_any (ao : Option Addr) (cap a e : Nat) (L : List (Nat × Nat)) (w : World) (hL : L.length ≤ 9223372036854775807) (he : e ≤ L.length) (hwf : Wfc L) (hr : CRd w ao L w.heap.size) :
   Calls Tryz.prog 44 #[.slice ao L.length cap, .int .i64 (a : Int), .int .i64 (e : Int)] w fun x w' => x = .returned (.bool (mayD L a e)) ∧ Below w.heap.size w w' := by
 have HR := dhid hr
 have HLL := dhid hL
 clear hr
 go_enter Tryz.func44, Tryz.ntmps44
 go_wp2
 go_loopw [7] (fun u wr => ∃ k : Nat, u = .int .i64 (k : Int) ∧ Hid (mayD L k e = mayD L a e) ∧ Hid (Below w.heap.size w wr)) (fun u _ => L.length - (intOf u).toNat)
 case atStart => exact ⟨a, rfl, dhid rfl, dhid (Below.refl _ _)⟩
 case round =>
   obtain ⟨k, rfl, HM, HB⟩ := hrel
   by_cases hk : k < e
   · have hkI : (k : Int) < (e : Int) := by omega
     have hlt : k < L.length := by omega
     have hltI : (k : Int) < (L.length : Int) := by omega
     have hst := mayD_step L k e hk hlt
     obtain ⟨b, off, rfl, hbl, hc⟩ := HR.out (by omega)
     have y0 := (HB.out.cell (p := ⟨b, off + k * 2, none⟩) hbl).trans (hc k hlt).1
     have y1 := (HB.out.cell (p := ⟨b, off + k * 2 + 1, none⟩) hbl).trans (hc k hlt).2
     obtain ⟨hop, harg⟩ := hwf.at hlt
     generalize L.getD k (0, 0) = pp at y0 y1 hst hop harg
     obtain ⟨op, arg⟩ := pp
     simp only at y0 y1 hst hop harg
     have HCK := dhid (fun W => rcheck_any op arg W hop)
     by_cases her : erV op arg = 0
     · have hd : ((erV op arg : Int) != 0) = false := by rw [her]; rfl
       have hd' : (erV op arg : Int) = 0 := by omega
       have HM2 := dhid (show mayD L (k + 1) e = mayD L a e by rw [← HM.out, hst, her]; simp)
       clear hst hc hwf her
       go_wp2_with (go_at_call 25; refine (HCK.out _).mono ?_; rintro en w2 ⟨rfl, hb2⟩)
       go_roundw
       case rel => exact ⟨k + 1, by go_num, HM2, dhid (HB.out.trans (hb2.mono HB.out.size))⟩
       case measure => simp [intOf]; omega
     · have hd : ((erV op arg : Int) != 0) = true := by simp; omega
       have hd' : ¬ (erV op arg : Int) = 0 := by omega
       have HM2 := dhid (show mayD L a e = false by rw [← HM.out, hst, decide_eq_false her]; rfl)
       clear hst hc hwf her
       go_wp2_with (go_at_call 25; refine (HCK.out _).mono ?_; rintro en w2 ⟨rfl, hb2⟩)
       go_ret
       exact ⟨by rw [HM2.out]; rfl, HB.out.trans (hb2.mono HB.out.size)⟩
   · have hkI : ¬ (k : Int) < (e : Int) := by omega
     have HM2 := dhid (show mayD L a e = true by rw [← HM.out, mayD_end L k e (by omega)])
     go_wp2
     go_ret
     exact ⟨by rw [HM2.out]; rfl, HB.out⟩
end Go.Proofs.YtibhlcfligfhdaaGreat
namespace Go.Proofs.YtibhlcfligfhdaaGreat
open Go.RowKit Go.WideShapes Go.Shelf
set_option maxRecDepth 100000
theorem beqN (n k : Nat) : ((n : Int) == (k : Int)) = decide (n = k) := by
 by_cases h : n = k
 · subst h; simp
 · rw [decide_eq_false h, beq_eq_false_iff_ne]; omega
set_option maxHeartbeats 4000000 in
theorem dbin_any (op : Nat) (w : World) (hop : op < 256) : Calls Tryz.prog 61 #[.int .u8 (op : Int)] w fun e w' => e = .returned (.bool (dBin op)) ∧ Below w.heap.size w w' := by
 have HI := dhid (fun W => rinfo_any op W hop)
 unfold dBin
 generalize isOp op = ok at HI ⊢
 generalize opWd op = wd at HI
 generalize opWi op = wi at HI
 generalize opMo op = mo at HI
 generalize opKi op = ki at HI ⊢
 generalize opTa op = ta at HI ⊢
 generalize opGi op = gi at HI ⊢
 clear hop
 have h1 := trivial
 cases ok with
 | false =>
   simp only [Bool.false_and]
   clear h1
   go_enter Tryz.func61, Tryz.ntmps61
   go_wp2_with (go_at_call 49; refine (HI.out _).mono ?_; rintro en w2 ⟨rfl, hb2⟩)
   go_ret
   exact ⟨rfl, hb2.trans ((bel1 w2 _).mono hb2.size)⟩
 | true =>
   simp only [Bool.true_and]
   by_cases q1 : ki = 1
   · subst q1
     by_cases q2 : ta = 2
     · subst q2
       by_cases q3 : gi = 1
       · subst q3
         clear h1
         go_enter Tryz.func61, Tryz.ntmps61
         go_wp2_with (go_at_call 49; refine (HI.out _).mono ?_; rintro en w2 ⟨rfl, hb2⟩)
         go_ret
         exact ⟨rfl, hb2.trans ((bel1 w2 _).mono hb2.size)⟩
       · have g3 : ((gi : Int) == 1) = false := by rw [beq_eq_false_iff_ne]; omega
         rw [decide_eq_false q3]
         clear q3
         clear h1
         go_enter Tryz.func61, Tryz.ntmps61
         go_wp2_with (go_at_call 49; refine (HI.out _).mono ?_; rintro en w2 ⟨rfl, hb2⟩)
         go_ret
         exact ⟨rfl, hb2.trans ((bel1 w2 _).mono hb2.size)⟩
     · have g2 : ((ta : Int) == 2) = false := by rw [beq_eq_false_iff_ne]; omega
       rw [decide_eq_false q2]
       clear q2
       clear h1
       go_enter Tryz.func61, Tryz.ntmps61
       go_wp2_with (go_at_call 49; refine (HI.out _).mono ?_; rintro en w2 ⟨rfl, hb2⟩)
       go_ret
       exact ⟨rfl, hb2.trans ((bel1 w2 _).mono hb2.size)⟩
   · have g1 : ((ki : Int) == 1) = false := by rw [beq_eq_false_iff_ne]; omega
     rw [decide_eq_false q1]
     clear q1
     clear h1
     go_enter Tryz.func61, Tryz.ntmps61
     go_wp2_with (go_at_call 49; refine (HI.out _).mono ?_; rintro en w2 ⟨rfl, hb2⟩)
     go_ret
     exact ⟨rfl, hb2.trans ((bel1 w2 _).mono hb2.size)⟩
set_option maxHeartbeats 4000000 in
theorem dbra_any (op : Nat) (w : World) (hop : op < 256) : Calls Tryz.prog 62 #[.int .u8 (op : Int)] w fun e w' => e = .returned (.bool (dBra op)) ∧ Below w.heap.size w w' := by
 have HI := dhid (fun W => rinfo_any op W hop)
 unfold dBra
 generalize isOp op = ok at HI ⊢
 generalize opWd op = wd at HI
 generalize opWi op = wi at HI
 generalize opMo op = mo at HI
 generalize opKi op = ki at HI ⊢
 generalize opTa op = ta at HI
 generalize opGi op = gi at HI
 clear hop
 have h1 := trivial
 cases ok with
 | false =>
   simp only [Bool.false_and]
   clear h1
   go_enter Tryz.func62, Tryz.ntmps62
   go_wp2_with (go_at_call 49; refine (HI.out _).mono ?_; rintro en w2 ⟨rfl, hb2⟩)
   go_ret
   exact ⟨rfl, hb2.trans ((bel1 w2 _).mono hb2.size)⟩
 | true =>
   simp only [Bool.true_and]
   by_cases q1 : ki = 2
   · subst q1
     clear h1
     go_enter Tryz.func62, Tryz.ntmps62
     go_wp2_with (go_at_call 49; refine (HI.out _).mono ?_; rintro en w2 ⟨rfl, hb2⟩)
     go_ret
     exact ⟨rfl, hb2.trans ((bel1 w2 _).mono hb2.size)⟩
   · have g1 : ((ki : Int) == 2) = false := by rw [beq_eq_false_iff_ne]; omega
     rw [decide_eq_false q1]
     clear q1
     clear h1
     go_enter Tryz.func62, Tryz.ntmps62
     go_wp2_with (go_at_call 49; refine (HI.out _).mono ?_; rintro en w2 ⟨rfl, hb2⟩)
     go_ret
     exact ⟨rfl, hb2.trans ((bel1 w2 _).mono hb2.size)⟩
end Go.Proofs.YtibhlcfligfhdaaGreat
namespace Go.Proofs.YtibhlcfligfhdaaGreat
open Go.RowKit Go.WideShapes Go.Shelf
set_option maxRecDepth 100000
def cnO (M : List (Nat × Nat)) : Option Nat :=
 if 1 ≤ M.length ∧ M.length ≤ 16 then (match plD M [] with | some (2, v) => some v | _ => none) else none
theorem cnO_some {M : List (Nat × Nat)} {v : Nat} : cnO M = some v ↔ 1 ≤ M.length ∧ M.length ≤ 16 ∧ plD M [] = some (2, v) := by
 unfold cnO
 by_cases h : 1 ≤ M.length ∧ M.length ≤ 16
 · rw [if_pos h]
   constructor
   · intro q
     split at q
     · rename_i v' hv; cases q; exact ⟨h.1, h.2, hv⟩
     · cases q
   · rintro ⟨-, -, q⟩
     simp only [q]
 · rw [if_neg h]
   constructor
   · intro q; cases q
   · rintro ⟨a, b, -⟩; exact absurd ⟨a, b⟩ h
theorem cnO_none {M : List (Nat × Nat)} (h : ∀ v, plD M [] = some (2, v) → False) : cnO M = none := by
 cases hc : cnO M with
 | none => rfl
 | some v => exact (h v (cnO_some.1 hc).2.2).elim
theorem plR_valid : ∀ (A : List (Nat × Nat)) (ws ws' : List Nat), plR A ws = some ws' → A.all (fun p => decide (erV p.1 p.2 = 0)) = true
 | [], _, _, _ => rfl
 | p :: r, ws, ws', h => by
   unfold plR at h
   split at h
   · rename_i h1
     split at h
     · cases h
     · rename_i wt _
       rw [List.all_cons, plR_valid r wt ws' h, decide_eq_true h1.1]
       rfl
   · cases h
theorem sub_len {L : List (Nat × Nat)} {a e : Nat} (he : e ≤ L.length) : ((L.drop a).take (e - a)).length = e - a := by rw [List.length_take, List.length_drop]; omega
theorem sub_one {L : List (Nat × Nat)} {a : Nat} (h : a < L.length) : (L.drop a).take 1 = [L.getD a (0, 0)] := by
 rw [List.drop_eq_getElem_cons h, List.take_succ_cons, List.take_zero, List.getD_eq_getElem?_getD, List.getElem?_eq_getElem h]
 rfl
theorem lnP_con {L : List (Nat × Nat)} (hwf : Wfc L) {a e : Nat} (h : a + 2 ≤ e) (he : e ≤ L.length) (hv : erV (L.getD a (0, 0)).1 (L.getD a (0, 0)).2 = 0) (v : Nat) :
   plD ((L.drop a).take (e - a)) [] = some (2, v) ↔ (lnP L a e).2.2.1 = 2 ∧ (lnP L a e).2.1 = e - a ∧ (lnP L a e).2.2.2 = v := by
 have hP : lnP L a e = (a, lgV ((L.drop a).take (e - a))) := if_pos ⟨by omega, he, hv⟩
 rw [hP]
 have hl := sub_len (L := L) (a := a) he
 have hb := lgF_bst ((L.drop a).take (e - a)) [] 0 (1, 1, 0) (fun p hp => (wfc_sub hwf a (e - a) p hp).1) (by decide) (fun _ => rfl)
 change Bst _ [] 0 (1, 1, 0) (lgV ((L.drop a).take (e - a))) at hb
 generalize (L.drop a).take (e - a) = M at *
 rcases hb with ⟨n, k, v', n1, n2, n3, n4, n5, n6⟩ | ⟨n1, n2⟩
 · rw [n5]
   simp only [Nat.zero_add]
   constructor
   · intro q
     have : n = M.length := by
       apply Decidable.byContradiction
       intro hne
       have := n6 M.length (by omega) (Nat.le_refl _)
       rw [List.take_of_length_le (Nat.le_refl _), q] at this
       cases this
     rw [this, List.take_of_length_le (Nat.le_refl _), q] at n4
     cases n4
     exact ⟨rfl, by omega, rfl⟩
   · rintro ⟨rfl, h2, rfl⟩
     rwa [h2, ← hl, List.take_of_length_le (Nat.le_refl _)] at n4
 · rw [n2]
   constructor
   · intro q
     have := n1 M.length (by omega) (Nat.le_refl _) (by omega)
     rw [List.take_of_length_le (Nat.le_refl _), q] at this
     cases this
   · rintro ⟨q, -, -⟩
     cases q
def DcP (M : List (Nat × Nat)) (x : Ending) : Prop := ∃ (v : Nat) (ok : Bool), x = .returned (.tuple #[.int .u32 (v : Int), .bool ok]) ∧ cnO M = if ok = true then some v else none
set_option maxHeartbeats 8000000 in
theorem dcon_any (ao : Option Addr) (cap a e : Nat) (L : List (Nat × Nat)) (w : World) (hL : L.length ≤ 140737488355328) (he : e ≤ L.length) (ha32 : a < 4294967296) (he32 : e < 4294967296) (hwf : Wfc L) (hr : CRd w ao L w.heap.size) :
   Calls Tryz.prog 60 #[.slice ao L.length cap, .int .i64 (a : Int), .int .i64 (e : Int)] w fun x w' => DcP ((L.drop a).take (e - a)) x ∧ Below w.heap.size w w' := by
 have HM := dhid (dmay_any ao cap a e L w (by omega) he hwf hr)
 have HR := dhid hr
 clear hr
 by_cases h1 : e ≤ a
 · have g1 : (e : Int) ≤ (a : Int) := by omega
   have HC := dhid (show cnO ((L.drop a).take (e - a)) = none by unfold cnO; rw [if_neg (by rw [sub_len he]; omega)])
   go_enter Tryz.func60, Tryz.ntmps60
   go_wp2_with fail
   go_ret2
   exact ⟨⟨0, false, rfl, HC.out⟩, Below.refl _ _⟩
 have g1 : ¬ (e : Int) ≤ (a : Int) := by omega
 by_cases h2 : 16 < e - a
 · have g2 : (16 : Int) < (e : Int) - (a : Int) := by omega
   have HC := dhid (show cnO ((L.drop a).take (e - a)) = none by unfold cnO; rw [if_neg (by rw [sub_len he]; omega)])
   clear h1
   go_enter Tryz.func60, Tryz.ntmps60
   go_wp2_with fail
   go_ret2
   exact ⟨⟨0, false, rfl, HC.out⟩, Below.refl _ _⟩
 have g2 : ¬ (16 : Int) < (e : Int) - (a : Int) := by omega
 cases hm : mayD L a e with
 | false =>
   rw [hm] at HM
   have HC := dhid (show cnO ((L.drop a).take (e - a)) = none from cnO_none (fun v q => by
     have := plR_valid _ _ _ (plD_word _ _ _ q)
     unfold mayD at hm
     rw [this] at hm
     cases hm))
   clear h1 h2
   go_enter Tryz.func60, Tryz.ntmps60
   go_wp2_with fail
   refine HM.out.mono ?_
   rintro en w2 ⟨rfl, hb2⟩
   go_wp2_with fail
   go_ret2
   exact ⟨⟨0, false, rfl, HC.out⟩, hb2⟩
 | true =>
   rw [hm] at HM
   have hlt : a < L.length := by omega
   have hv0 : erV (L.getD a (0, 0)).1 (L.getD a (0, 0)).2 = 0 := by
     have := mayD_step L a e (by omega) hlt
     rw [hm] at this
     have := this.symm
     rw [Bool.and_eq_true] at this
     exact of_decide_eq_true this.1
   by_cases h3 : e = a + 1
   · subst h3
     obtain ⟨b, off, rfl, hbl, hc⟩ := HR.out (by omega)
     have Y0 := dhid (fun W (hW : Below w.heap.size w W) => (hW.cell (p := ⟨b, off + a * 2, none⟩) hbl).trans (hc a hlt).1)
     have Y1 := dhid (fun W (hW : Below w.heap.size w W) => (hW.cell (p := ⟨b, off + a * 2 + 1, none⟩) hbl).trans (hc a hlt).2)
     have HC := dhid (show cnO ((L.drop a).take (a + 1 - a)) = if decide ((L.getD a (0, 0)).1 = 8) = true then some (L.getD a (0, 0)).2 else none by
       rw [show a + 1 - a = 1 by omega, sub_one hlt]
       by_cases h8 : (L.getD a (0, 0)).1 = 8
       · rw [decide_eq_true h8, if_pos rfl]
         exact cnO_some.2 ⟨by simp, by simp, cnD_one.2 ⟨hv0, h8, rfl⟩⟩
       · rw [decide_eq_false h8, if_neg (by decide)]
         exact cnO_none (fun v q => h8 (cnD_one.1 q).2.1))
     generalize L.getD a (0, 0) = pp at Y0 Y1 HC
     obtain ⟨op, arg⟩ := pp
     simp only at Y0 Y1 HC
     have haI : (a : Int) < (L.length : Int) := by omega
     have g3 : (((a + 1 : Nat) : Int) - (a : Int) == 1) = true := by rw [beq_iff_eq]; omega
     have g4 : ((a + 1 : Nat) : Int) - (a : Int) = 1 := by omega
     clear h1 h2 hc hv0 hwf
     go_enter Tryz.func60, Tryz.ntmps60
     go_wp2_with fail
     refine HM.out.mono ?_
     rintro en w2 ⟨rfl, hb2⟩
     have y0 := Y0.out w2 hb2
     have y1 := Y1.out w2 hb2
     have y0d := Y0.out w2.drew ⟨hb2.os, hb2.tape, hb2.output, hb2.size, hb2.block⟩
     have y1d := Y1.out w2.drew ⟨hb2.os, hb2.tape, hb2.output, hb2.size, hb2.block⟩
     go_wp2_with fail
     go_quiet (fail)
     go_wp2_with fail
     go_ret2
     refine ⟨⟨arg, ((op : Int) == 8), rfl, ?_⟩, ⟨hb2.os, hb2.tape, hb2.output, hb2.size, hb2.block⟩⟩
     rw [show ((op : Int) == 8) = decide (op = 8) from beqN op 8]
     exact HC.out
   · have hlE : lnE L a e = 0 := (if_pos ⟨by omega, he⟩).trans hv0
     have HLN := dhid (fun W (hW : Below w.heap.size w W) => rLongest_any ao cap a e L W hL ha32 he32 hwf ((HR.out.below hW).mono hW.size))
     rw [hlE] at HLN
     have HC0 := fun v => lnP_con hwf (a := a) (e := e) (by omega) he hv0 v
     have hsl := sub_len (L := L) (a := a) he
     have HC := dhid (show cnO ((L.drop a).take (e - a)) = if (decide ((lnP L a e).2.2.1 = 2) && decide ((lnP L a e).2.1 = e - a)) = true then some (lnP L a e).2.2.2 else none by
       by_cases hq : (lnP L a e).2.2.1 = 2 ∧ (lnP L a e).2.1 = e - a
       · rw [if_pos (show (decide ((lnP L a e).2.2.1 = 2) && decide ((lnP L a e).2.1 = e - a)) = true by rw [decide_eq_true hq.1, decide_eq_true hq.2]; rfl)]
         exact cnO_some.2 ⟨by omega, by omega, (HC0 _).2 ⟨hq.1, hq.2, rfl⟩⟩
       · rw [if_neg (by simpa using hq)]
         exact cnO_none (fun v q => hq ⟨((HC0 v).1 q).1, ((HC0 v).1 q).2.1⟩))
     have HP1 := dhid (show wrap64 ((lnP L a e).2.1 : Int) = ((lnP L a e).2.1 : Int) by have := (lnP_le hwf a e).1; unfold wrap64; omega)
     generalize lnP L a e = q at HLN HC HP1
     obtain ⟨p0, p1, p2, p3⟩ := q
     simp only [pcA] at HLN HC HP1
     have g3 : ((e : Int) - (a : Int) == 1) = false := by rw [beq_eq_false_iff_ne]; omega
     have g4 : ¬ (e : Int) - (a : Int) = 1 := by omega
     have v1 : IntKind.u32.wrap (a : Int) = (a : Int) := by rw [IntKind.wrap_u32]; omega
     have v2 : IntKind.u32.wrap (e : Int) = (e : Int) := by rw [IntKind.wrap_u32]; omega
     clear h1 h2 hv0 hwf HC0 hsl hlE
     by_cases q2 : p2 = 2
     · subst q2
       by_cases q1 : p1 = e - a
       · have g5 : ((p1 : Int) == (e : Int) - (a : Int)) = true := by rw [beq_iff_eq]; omega
         have g6 : (p1 : Int) = (e : Int) - (a : Int) := by omega
         have HD := dhid (show cnO ((L.drop a).take (e - a)) = some p3 by rw [HC.out, decide_eq_true q1]; rfl)
         clear HC q1 g6
         go_enter Tryz.func60, Tryz.ntmps60
         go_wp2_with fail
         refine HM.out.mono ?_
         rintro en w2 ⟨rfl, hb2⟩
         have HB2 := dhid hb2
         go_wp2_with fail
         refine (HLN.out _ HB2.out).mono ?_
         rintro en w3 ⟨rfl, hb3⟩
         have HB3 := dhid (HB2.out.trans (hb3.mono HB2.out.size))
         go_wp2_with fail
         go_quiet (fail)
         go_wp2_with fail
         go_ret2
         exact ⟨⟨p3, (wrap64 (p1 : Int) == (e : Int) - (a : Int)), rfl, by rw [HD.out, HP1.out, g5]; rfl⟩, below_drewN (HB3.out.alloc HB3.out.size _) _⟩
       · have g5 : ((p1 : Int) == (e : Int) - (a : Int)) = false := by rw [beq_eq_false_iff_ne]; omega
         have HD := dhid (show cnO ((L.drop a).take (e - a)) = none by rw [HC.out, decide_eq_false q1]; rfl)
         clear HC q1
         go_enter Tryz.func60, Tryz.ntmps60
         go_wp2_with fail
         refine HM.out.mono ?_
         rintro en w2 ⟨rfl, hb2⟩
         have HB2 := dhid hb2
         go_wp2_with fail
         refine (HLN.out _ HB2.out).mono ?_
         rintro en w3 ⟨rfl, hb3⟩
         have HB3 := dhid (HB2.out.trans (hb3.mono HB2.out.size))
         go_wp2_with fail
         go_quiet (fail)
         go_wp2_with fail
         go_ret2
         exact ⟨⟨p3, (wrap64 (p1 : Int) == (e : Int) - (a : Int)), rfl, by rw [HD.out, HP1.out, g5]; rfl⟩, below_drewN (HB3.out.alloc HB3.out.size _) _⟩
     · have g5 : ((p2 : Int) == 2) = false := by rw [beq_eq_false_iff_ne]; omega
       have HD := dhid (show cnO ((L.drop a).take (e - a)) = none by rw [HC.out, decide_eq_false q2]; rfl)
       clear HC q2
       go_enter Tryz.func60, Tryz.ntmps60
       go_wp2_with fail
       refine HM.out.mono ?_
       rintro en w2 ⟨rfl, hb2⟩
       have HB2 := dhid hb2
       go_wp2_with fail
       refine (HLN.out _ HB2.out).mono ?_
       rintro en w3 ⟨rfl, hb3⟩
       have HB3 := dhid (HB2.out.trans (hb3.mono HB2.out.size))
       go_wp2_with fail
       go_quiet (fail)
       go_wp2_with fail
       go_ret2
       exact ⟨⟨p3, false, rfl, by rw [HD.out]; rfl⟩, below_drewN (HB3.out.alloc HB3.out.size _) _⟩
end Go.Proofs.YtibhlcfligfhdaaGreat
