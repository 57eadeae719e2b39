import Derived.Test.YtibhlcfligfhdaaGreatCZBi
namespace Go.Proofs.YtibhlcfligfhdaaGreat
open Go.RowKit Go.WideShapes
set_option maxRecDepth 100000
def cnV (L : List (Nat × Nat)) : Nat × Nat :=
 if (lnP L 0 (min L.length 16)).2.2.1 = 2 then ((lnP L 0 (min L.length 16)).2.1, (lnP L 0 (min L.length 16)).2.2.2)
 else if (lnP L 0 (min L.length 16)).2.2.1 = 1 ∧ (L.getD 0 (0, 0)).1 = 8 then (1, (L.getD 0 (0, 0)).2) else (0, 0)
theorem lgV_le (M : List (Nat × Nat)) (hM : ∀ p ∈ M, p.1 < 256) (h0 : 0 < M.length) : (lgV M).1 ≤ M.length := by
 have hb := lgF_bst M [] 0 (1, 1, 0) hM (by decide) (fun _ => rfl)
 unfold lgV
 rcases hb with ⟨n, k, v, n1, n2, n3, n4, n5, n6⟩ | ⟨a1, a2⟩
 · rw [n5]; simpa using n2
 · rw [a2]; exact h0
theorem lnP_le {L : List (Nat × Nat)} (hwf : Wfc L) (a e : Nat) : (lnP L a e).2.1 ≤ e - a ∧ (a < e ∧ e ≤ L.length ∨ lnP L a e = (0, 0, 0, 0)) := by
 unfold lnP
 split
 · rename_i h
   refine ⟨?_, .inl ⟨h.1, h.2.1⟩⟩
   have hl : ((L.drop a).take (e - a)).length = e - a := by simp; omega
   have := lgV_le ((L.drop a).take (e - a)) (fun p hp => (wfc_sub hwf a (e - a) p hp).1) (by omega)
   rw [hl] at this
   exact this
 · exact ⟨Nat.zero_le _, .inr rfl⟩
theorem cnV_le {L : List (Nat × Nat)} (hwf : Wfc L) : (cnV L).1 ≤ L.length := by
 have h := lnP_le hwf 0 (min L.length 16)
 unfold cnV
 split
 · have := h.1; simp only; omega
 · split
   · rename_i h2
     rcases h.2 with h3 | h3
     · simp only; omega
     · rw [h3] at h2; simp at h2
   · exact Nat.zero_le _
set_option maxHeartbeats 4000000 in
theorem constantOf_lt (ao : Option Addr) (cap : Nat) (L : List (Nat × Nat)) (w : World) (hcap : L.length ≤ cap) (hlen : L.length < 4294967296) (hwf : Wfc L) (hr : CRd w ao L w.heap.size) (hs : L.length ≤ 16) :
   Calls Tryz.prog 51 #[.slice ao L.length cap] w fun e w' => e = .returned (.tuple #[.int .u32 ((cnV L).1 : Int), .int .u32 ((cnV L).2 : Int)]) ∧ Below w.heap.size w w' := by
 have hmin : min L.length 16 = L.length := by omega
 have hle := lnP_le hwf 0 (L.length)
 have F := dhid (Longest_any ao cap 0 (L.length) L w (by omega) hcap (by decide) (by omega) hwf hr)
 unfold cnV
 rw [hmin]
 clear hmin
 generalize lnE L 0 (L.length) = er at F
 have s2 : ¬ (16 : Int) < (L.length : Int) := by omega
 have s4 : (L.length : Int) ≤ 16 := by omega
 generalize lnP L 0 (L.length) = q at *
 obtain ⟨qa, ql, qk, qv⟩ := q
 simp only [pcA] at F ⊢
 rw [show ((0 : Nat) : Int) = 0 from rfl] at F
 have hbd : Below w.heap.size w w := Below.refl _ _
 by_cases h2 : qk = 2
 · subst h2
   rw [if_pos rfl]
   clear hr hle hwf
   go_enter Tryz.func51, Tryz.ntmps51
   go_wp2_with (go_at_call 57; with_reducible refine F.out.mono ?_; rintro e w1 ⟨rfl, hb1⟩)
   go_region
   all_goals go_wp2
   all_goals go_ret2
   all_goals exact ⟨rfl, (hb1.alloc hb1.size _).drew⟩
 · rw [if_neg h2]
   have d2 : ((qk : Int) == 2) = false := by rw [beq_eq_false_iff_ne]; omega
   by_cases h1 : qk = 1
   · subst h1
     have hL0 : 0 < L.length := by
       rcases hle.2 with h | h
       · omega
       · simp at h
     obtain ⟨b, off, rfl, hbl, hc⟩ := hr hL0
     have x0 := (hc 0 hL0).1
     have x1 := (hc 0 hL0).2
     simp only [Nat.zero_mul, Nat.add_zero] at x0 x1
     generalize L.getD 0 (0, 0) = p at *
     obtain ⟨op, arg⟩ := p
     simp only [true_and] at x0 x1 ⊢
     have i1 : (0 : Int) < (L.length : Int) := by omega
     have HLV := dhid (fun V (hV : Below w.heap.size w V) => And.intro ((hV.cell (p := ⟨b, off, none⟩) hbl).trans x0) ((hV.cell (p := ⟨b, off + 1, none⟩) hbl).trans x1))
     clear hc hle hwf hr
     by_cases h8 : op = 8
     · subst h8
       rw [if_pos rfl]
       go_enter Tryz.func51, Tryz.ntmps51
       go_wp2_with (go_at_call 57; with_reducible refine F.out.mono ?_; rintro e w1 ⟨rfl, hb1⟩
                    have y0 := fun o => (HLV.out (w1.alloc o) (hb1.alloc hb1.size o)).1
                    have y1 := fun o => (HLV.out (w1.alloc o) (hb1.alloc hb1.size o)).2
                    have z0 := (HLV.out w1 hb1).1
                    have z1 := (HLV.out w1 hb1).2
                    have hz := hb1.size
                    have hbl1 : b < w1.heap.size := by omega)
       go_region
       all_goals go_wp2
       all_goals go_ret2
       all_goals exact ⟨rfl, (hb1.alloc hb1.size _).drew⟩
     · rw [if_neg h8]
       have d8 : ((op : Int) == 8) = false := by rw [beq_eq_false_iff_ne]; omega
       go_enter Tryz.func51, Tryz.ntmps51
       go_wp2_with (go_at_call 57; with_reducible refine F.out.mono ?_; rintro e w1 ⟨rfl, hb1⟩
                    have y0 := fun o => (HLV.out (w1.alloc o) (hb1.alloc hb1.size o)).1
                    have z0 := (HLV.out w1 hb1).1
                    have hz := hb1.size
                    have hbl1 : b < w1.heap.size := by omega)
       go_ret2
       exact ⟨rfl, hb1.alloc hb1.size _⟩
   · rw [if_neg (fun h => h1 h.1)]
     have d1 : ((qk : Int) == 1) = false := by rw [beq_eq_false_iff_ne]; omega
     clear hr hle hwf
     go_enter Tryz.func51, Tryz.ntmps51
     go_wp2_with (go_at_call 57; with_reducible refine F.out.mono ?_; rintro e w1 ⟨rfl, hb1⟩)
     go_ret2
     exact ⟨rfl, hb1.alloc hb1.size _⟩
set_option maxHeartbeats 4000000 in
theorem constantOf_ge (ao : Option Addr) (cap : Nat) (L : List (Nat × Nat)) (w : World) (hcap : L.length ≤ cap) (hlen : L.length < 4294967296) (hwf : Wfc L) (hr : CRd w ao L w.heap.size) (hs : 16 < L.length) :
   Calls Tryz.prog 51 #[.slice ao L.length cap] w fun e w' => e = .returned (.tuple #[.int .u32 ((cnV L).1 : Int), .int .u32 ((cnV L).2 : Int)]) ∧ Below w.heap.size w w' := by
 have hmin : min L.length 16 = 16 := by omega
 have hle := lnP_le hwf 0 (16)
 have F := dhid (Longest_any ao cap 0 (16) L w (by omega) hcap (by decide) (by omega) hwf hr)
 unfold cnV
 rw [hmin]
 clear hmin
 generalize lnE L 0 (16) = er at F
 have s1 : ¬ (L.length : Int) < 16 := by omega
 have s2 : ¬ (L.length : Int) ≤ 16 := by omega
 have s4 : (16 : Int) < (L.length : Int) := by omega
 generalize lnP L 0 (16) = q at *
 obtain ⟨qa, ql, qk, qv⟩ := q
 simp only [pcA] at F ⊢
 rw [show ((0 : Nat) : Int) = 0 from rfl, show ((16 : Nat) : Int) = 16 from rfl] at F
 have hbd : Below w.heap.size w w := Below.refl _ _
 by_cases h2 : qk = 2
 · subst h2
   rw [if_pos rfl]
   clear hr hle hwf
   go_enter Tryz.func51, Tryz.ntmps51
   go_wp2_with (go_at_call 57; with_reducible refine F.out.mono ?_; rintro e w1 ⟨rfl, hb1⟩)
   go_region
   all_goals go_wp2
   all_goals go_ret2
   all_goals exact ⟨rfl, (hb1.alloc hb1.size _).drew⟩
 · rw [if_neg h2]
   have d2 : ((qk : Int) == 2) = false := by rw [beq_eq_false_iff_ne]; omega
   by_cases h1 : qk = 1
   · subst h1
     have hL0 : 0 < L.length := by
       rcases hle.2 with h | h
       · omega
       · simp at h
     obtain ⟨b, off, rfl, hbl, hc⟩ := hr hL0
     have x0 := (hc 0 hL0).1
     have x1 := (hc 0 hL0).2
     simp only [Nat.zero_mul, Nat.add_zero] at x0 x1
     generalize L.getD 0 (0, 0) = p at *
     obtain ⟨op, arg⟩ := p
     simp only [true_and] at x0 x1 ⊢
     have i1 : (0 : Int) < (L.length : Int) := by omega
     have HLV := dhid (fun V (hV : Below w.heap.size w V) => And.intro ((hV.cell (p := ⟨b, off, none⟩) hbl).trans x0) ((hV.cell (p := ⟨b, off + 1, none⟩) hbl).trans x1))
     clear hc hle hwf hr
     by_cases h8 : op = 8
     · subst h8
       rw [if_pos rfl]
       go_enter Tryz.func51, Tryz.ntmps51
       go_wp2_with (go_at_call 57; with_reducible refine F.out.mono ?_; rintro e w1 ⟨rfl, hb1⟩
                    have y0 := fun o => (HLV.out (w1.alloc o) (hb1.alloc hb1.size o)).1
                    have y1 := fun o => (HLV.out (w1.alloc o) (hb1.alloc hb1.size o)).2
                    have z0 := (HLV.out w1 hb1).1
                    have z1 := (HLV.out w1 hb1).2
                    have hz := hb1.size
                    have hbl1 : b < w1.heap.size := by omega)
       go_region
       all_goals go_wp2
       all_goals go_ret2
       all_goals exact ⟨rfl, (hb1.alloc hb1.size _).drew⟩
     · rw [if_neg h8]
       have d8 : ((op : Int) == 8) = false := by rw [beq_eq_false_iff_ne]; omega
       go_enter Tryz.func51, Tryz.ntmps51
       go_wp2_with (go_at_call 57; with_reducible refine F.out.mono ?_; rintro e w1 ⟨rfl, hb1⟩
                    have y0 := fun o => (HLV.out (w1.alloc o) (hb1.alloc hb1.size o)).1
                    have z0 := (HLV.out w1 hb1).1
                    have hz := hb1.size
                    have hbl1 : b < w1.heap.size := by omega)
       go_ret2
       exact ⟨rfl, hb1.alloc hb1.size _⟩
   · rw [if_neg (fun h => h1 h.1)]
     have d1 : ((qk : Int) == 1) = false := by rw [beq_eq_false_iff_ne]; omega
     clear hr hle hwf
     go_enter Tryz.func51, Tryz.ntmps51
     go_wp2_with (go_at_call 57; with_reducible refine F.out.mono ?_; rintro e w1 ⟨rfl, hb1⟩)
     go_ret2
     exact ⟨rfl, hb1.alloc hb1.size _⟩
set_option maxHeartbeats 4000000 in
theorem constantOf_any (ao : Option Addr) (cap : Nat) (L : List (Nat × Nat)) (w : World) (hcap : L.length ≤ cap) (hlen : L.length < 4294967296) (hwf : Wfc L) (hr : CRd w ao L w.heap.size) :
   Calls Tryz.prog 51 #[.slice ao L.length cap] w fun e w' => e = .returned (.tuple #[.int .u32 ((cnV L).1 : Int), .int .u32 ((cnV L).2 : Int)]) ∧ Below w.heap.size w w' := by
 by_cases hs : L.length ≤ 16
 · exact constantOf_lt ao cap L w hcap hlen hwf hr hs
 · exact constantOf_ge ao cap L w hcap hlen hwf hr (by omega)
end Go.Proofs.YtibhlcfligfhdaaGreat
namespace Go.Proofs.YtibhlcfligfhdaaGreat
open Go.RowKit Go.WideShapes
set_option maxRecDepth 100000
def LyS (B : Nat) (w : World) (v : Value) (lay : Fz → Nat → Fz) : Prop :=
 ∃ g lb, v = .func (.func g) #[] lb ∧ (∀ args w, (callFunc g args).run Tryz.prog w = .ok (.enter g args) w) ∧ ∀ W, Fr B w W → ∀ (f : Fz) (x : Nat),
   Calls Tryz.prog g (#[.agg (fzA f), .int .u32 (x : Int)] ++ lb) W fun e w' => e = .returned (.agg (fzA (lay f x))) ∧ Below W.heap.size W w'
def ptConst (lay : Fz → Nat → Fz) : Pt := fun L f => (lay { f with len := f.len + (cnV L).1 } (cnV L).2, decide (0 < (cnV L).1))
set_option maxHeartbeats 4000000 in
theorem constantInto1_any {B : Nat} (gb : Nat) (lay : Fz → Nat → Fz) (v : Value) (ao : Option Addr) (cap : Nat) (L : List (Nat × Nat)) (f : Fz) (w : World) (hg : gb < w.heap.size) (hv : w.cell? ⟨gb, 0, none⟩ = some v) (hly : LyS B w v lay)
   (hcap : L.length ≤ cap) (hlen : f.len + L.length < 4294967296) (hwf : Wfc L) (hr : CRd w ao L w.heap.size) :
   Calls Tryz.prog 50 #[.slice ao L.length cap, .agg (fzA f), .pointer (some ⟨gb, 0, none⟩)] w fun e w' => e = .returned (.tuple #[.agg (fzA (ptConst lay L f).1), .bool (ptConst lay L f).2]) ∧ Below w.heap.size w w' := by
 have HC := dhid (fun o o' => constantOf_any ao cap L ((w.alloc o).alloc o') hcap (by omega) hwf ((hr.below (zbel2 w o o')).mono (by simp; omega)))
 have hcl := cnV_le hwf
 obtain ⟨f0, f1, f2, f3, f4, f5⟩ := f
 rw [show ptConst lay L ⟨f0, f1, f2, f3, f4, f5⟩ = (lay ⟨f0, f1 + (cnV L).1, f2, f3, f4, f5⟩ (cnV L).2, decide (0 < (cnV L).1)) from rfl]
 generalize cnV L = c at *
 obtain ⟨c1, c2⟩ := c
 simp only at hcl hlen
 obtain ⟨g, lb, rfl, eg, hcall⟩ := hly
 have HL := dhid (fun W (hW : Below w.heap.size w W) => hcall W (Fr.of hW) ⟨f0, f1 + c1, f2, f3, f4, f5⟩ c2)
 have HN := dhid (Bs.new w ⟨f0, f1, f2, f3, f4, f5⟩ fz0)
 have HLV := dhid (fun V (hV : Below w.heap.size w V) => (hV.cell (p := ⟨gb, 0, none⟩) hg).trans hv)
 have hs : f1 + c1 < 4294967296 := by omega
 have hz : decide ((0 : Int) < (c1 : Int)) = decide (0 < c1) := by
   by_cases h : 0 < c1
   · rw [decide_eq_true h, decide_eq_true (by omega)]
   · rw [decide_eq_false h, decide_eq_false (by omega)]
 generalize lay ⟨f0, f1 + c1, f2, f3, f4, f5⟩ c2 = q at HL ⊢
 simp only [fzA, fz0] at HN HC ⊢
 simp only [fzA] at HL
 clear hcall hr hwf
 go_enter Tryz.func50, Tryz.ntmps50
 go_wp2_with (go_at_call 51; with_reducible refine (HC.out _ _).mono ?_; rintro e w1 ⟨rfl, hb1⟩
              have N1 := dhid (HN.out.next hb1)
              have k1 := N1.out.cells.2.1
              have k2 := obj_frozen N1.out.c0 1
              have M1 := dhid (N1.out.setLen (f1 + c1))
              have HS1 := M1.out.cells
              have HG1 := HLV.out _ M1.out.bw
              rw [show ((f1 + c1 : Nat) : Int) = (f1 : Int) + (c1 : Int) from rfl] at M1 HS1 HG1
              obtain ⟨j0, j1, j2, j3, j4, j5⟩ := HS1)
 refine (HL.out _ M1.out.bw).mono ?_
 rintro e w2 ⟨rfl, hb2⟩
 have M2 := dhid (M1.out.next hb2)
 clear hb2 HL HLV HN HC N1 M1 k1 k2 j0 j1 j2 j3 j4 j5 HG1 hb1
 go_wp2_with (refine wpList_storeF rfl _ _ rfl (w.heap.size + 1) fz0 q rfl rfl M2.out.c1 ?_)
 have M3 := M2.out.row q
 exact bodyPost_ret (resFzB (p := 5) (u := 6) (by kernel_rfl) _ _ (w.heap.size + 1) _ rfl M3.c1 _ rfl rfl) rfl ⟨(by first | rfl | exact congrArg (fun b => Ending.returned (Value.tuple #[Value.agg _, Value.bool b])) hz), M3.bw⟩
def shFold (k : Nat) : Shp := fun L => if (lnP L 0 L.length).2.2.1 = k then ⟨0, (lnP L 0 L.length).2.1, 0, 0, (lnP L 0 L.length).2.2.2, 0⟩ else fz0
set_option maxHeartbeats 4000000 in
theorem folded1_any (gb k : Nat) (ao : Option Addr) (cap : Nat) (L : List (Nat × Nat)) (w : World) (hg : gb < w.heap.size) (hv : w.cell? ⟨gb, 0, none⟩ = some (.int .u8 (k : Int)))
   (hcap : L.length ≤ cap) (hlen : L.length < 4294967296) (hwf : Wfc L) (hr : CRd w ao L w.heap.size) :
   Calls Tryz.prog 56 #[.slice ao L.length cap, .pointer (some ⟨gb, 0, none⟩)] w fun e w' => e = .returned (.agg (fzA (shFold k L))) ∧ Below w.heap.size w w' := by
 have F := dhid (fun o => Longest_any ao cap 0 L.length L (w.alloc o) (by omega) hcap (by decide) hlen hwf ((hr.below ((Below.refl _ w).alloc (Nat.le_refl _) o)).mono (by simp)))
 rw [show ((0 : Nat) : Int) = 0 from rfl] at F
 unfold shFold
 generalize lnE L 0 L.length = er at F
 generalize lnP L 0 L.length = q at *
 obtain ⟨qa, ql, qk, qv⟩ := q
 simp only [pcA] at F ⊢
 have hbd : Below w.heap.size w w := Below.refl _ _
 have HLV := dhid (fun V (hV : Below w.heap.size w V) => (hV.cell (p := ⟨gb, 0, none⟩) hg).trans hv)
 clear hr hwf
 by_cases hk : qk = k
 · rw [if_pos hk]
   subst hk
   go_enter Tryz.func56, Tryz.ntmps56
   go_wp2_with (first
     | (go_at_call 57; with_reducible refine (F.out _).mono ?_; rintro e w1 ⟨rfl, hb1⟩
        have o1 := dhid ((hb1.block w.heap.size (by simp)).trans (heap_alloc_new w _))
        have B1 := dhid ((hbd.alloc (Nat.le_refl _) _).trans (hb1.mono (by simp)))
        have hz : w.heap.size < w1.heap.size := (Array.getElem?_eq_some_iff.1 o1.out).1
        have y0 := fun o => HLV.out (w1.alloc o) (B1.out.alloc B1.out.size o)
        have o2 := dhid (fun o => (Below.heap_alloc w1 o w.heap.size hz).trans o1.out)
        have hgz : gb < w1.heap.size := by omega
        have y1 := HLV.out w1 B1.out)
     | (refine wpList_storeF rfl _ _ rfl w.heap.size fz0 ⟨0, ql, 0, 0, qv, 0⟩ rfl rfl (o2.out _) ?_))
   exact bodyPost_ret (resFz (p := 3) (by kernel_rfl) _ w.heap.size _ rfl (setRow_heap _ _ _ _ _ _ (o2.out _)) _ rfl) rfl ⟨rfl, (B1.out.alloc B1.out.size _).trans ((KpSetRow (S := fun i => i = w.heap.size) _ _ _ rfl).below (by simp; omega) (fun i e => by omega))⟩
 · rw [if_neg hk]
   have d1 : ((qk : Int) != (k : Int)) = true := by simp; omega
   have d2 : ¬ (qk : Int) = (k : Int) := by omega
   go_enter Tryz.func56, Tryz.ntmps56
   go_wp2_with (first
     | (go_at_call 57; with_reducible refine (F.out _).mono ?_; rintro e w1 ⟨rfl, hb1⟩
        have o1 := dhid ((hb1.block w.heap.size (by simp)).trans (heap_alloc_new w _))
        have B1 := dhid ((hbd.alloc (Nat.le_refl _) _).trans (hb1.mono (by simp)))
        have hz : w.heap.size < w1.heap.size := (Array.getElem?_eq_some_iff.1 o1.out).1
        have y0 := fun o => HLV.out (w1.alloc o) (B1.out.alloc B1.out.size o)
        have o2 := dhid (fun o => (Below.heap_alloc w1 o w.heap.size hz).trans o1.out)
        have hgz : gb < w1.heap.size := by omega
        have y1 := HLV.out w1 B1.out)
     | (refine wpList_storeF rfl _ _ rfl w.heap.size fz0 fz0 rfl rfl (o2.out _) ?_))
   exact bodyPost_ret (resFz (p := 3) (by kernel_rfl) _ w.heap.size _ rfl (setRow_heap _ _ _ _ _ _ (o2.out _)) _ rfl) rfl ⟨rfl, (B1.out.alloc B1.out.size _).trans ((KpSetRow (S := fun i => i = w.heap.size) _ _ _ rfl).below (by simp; omega) (fun i e => by omega))⟩
end Go.Proofs.YtibhlcfligfhdaaGreat
