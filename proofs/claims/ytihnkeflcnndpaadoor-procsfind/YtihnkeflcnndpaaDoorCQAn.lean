import Derived.Test.YtihnkeflcnndpaaDoorCQWk
import Derived.Test.YtihnkeflcnndpaaDoorCQKep
namespace Go.Proofs.YtihnkeflcnndpaaDoor
open Go.RowKit Go.WideShapes Go.Shelf
set_option maxRecDepth 100000
theorem own_pr {w : World} {B : Nat} {v : Value} {Ps : List (Nat × Nat × Nat)} (h : w.ownsRow B 43 4 v Ps.length (pv Ps)) : ∃ ao cap, v = .slice ao Ps.length cap ∧ PRd w ao Ps w.heap.size := by
  rcases h.2 with ⟨rfl, e⟩ | ⟨g, cap, cur, rfl, hB, hg, hc⟩
  · have e0 : Ps.length = 0 := by simpa using e
    rw [e0]
    exact ⟨none, 0, rfl, fun hp => by omega⟩
  · refine ⟨_, cap, rfl, fun hp => ⟨g, 0, rfl, (h.lt g rfl).2, fun j hj => ?_⟩⟩
    obtain ⟨e0, e1, e2, e3⟩ := pv_all Ps j hj
    refine ⟨?_, ?_, ?_, ?_⟩
    · have := h.cells (g := g) rfl _ _ e0; rw [add_plain] at this; exact this
    · have := h.cells (g := g) rfl _ _ e1; rw [add_plain] at this; exact this
    · have := h.cells (g := g) rfl _ _ e2; rw [add_plain] at this; exact this
    · have := h.cells (g := g) rfl _ _ e3; rw [add_plain] at this; exact this
/-- what the law's answers is handed -/
structure AnI (w : World) (L : List (Nat × Nat)) (J : List Nat) (M : List (ByteArray × Nat)) (B pp p1 g1 p2 g2 : Nat) (lv : Value) (A C : List Nat) (ao aj : Option Addr) : Prop where
  hG : FdG L J M
  hP : PrS w B pp p1 g1 p2 g2 L.length lv (prL L) A C
  hA : ∀ y, hasW A y = isEn L y
  hC : ∀ y, hasW C y = decide (y ∈ J)
  hr : CRd w ao L w.heap.size
  hrJ : JRd w aj J w.heap.size
  hJ : ∀ z ∈ J, z < 4294967296
  hJn : J.length ≤ 35184372087808
  hT : TabW w
  h0 : 0 < w.heap.size
theorem AnI.below {w w' : World} {L : List (Nat × Nat)} {J : List Nat} {M : List (ByteArray × Nat)} {B pp p1 g1 p2 g2 : Nat} {lv : Value} {A C : List Nat} {ao aj : Option Addr} (h : AnI w L J M B pp p1 g1 p2 g2 lv A C ao aj) (hb : Below w.heap.size w w') (hT : TabW w') : AnI w' L J M B pp p1 g1 p2 g2 lv A C ao aj :=
  ⟨h.hG, h.hP.below hb, h.hA, h.hC, (h.hr.below hb).mono hb.size, fun q => by obtain ⟨b, o, e1, e2, e3⟩ := (h.hrJ.below hb) q; exact ⟨b, o, e1, Nat.lt_of_lt_of_le e2 hb.size, e3⟩, h.hJ, h.hJn, hT, Nat.lt_of_lt_of_le h.h0 hb.size⟩
theorem heap_alloc_new' (w : World) (o : Obj) (k : Nat) (h : k = w.heap.size) : (w.alloc o).heap[k]? = some o := by rw [h]; exact heap_alloc_new w o
set_option maxHeartbeats 2000000 in
theorem ans0 {L : List (Nat × Nat)} {J : List Nat} {M : List (ByteArray × Nat)} {B pp p1 g1 p2 g2 : Nat} {lv : Value} {A C : List Nat} (ao aj an : Option Addr) (cap capj ml capn : Nat) (on x : Int) (b c : Nat) (w : World) (hx0 : -9223372036854775808 ≤ x) (hx1 : x ≤ 9223372036854775807) (hb4 : b < 4294967296) (hc4 : c < 4294967296) (hI : AnI w L J M B pp p1 g1 p2 g2 lv A C ao aj) :
    Calls Tryd.prog 9 #[.pointer (some ⟨pp, 0, none⟩), .agg #[.slice ao L.length cap, .slice aj J.length capj, .slice an ml capn], .agg #[.int .i64 on, .int .i64 0, .int .i64 x, .int .u32 b, .int .u32 c]] w fun e w' => e = .returned (.bool true) ∧ Below w.heap.size w w' := by
  have _hu := And.intro hx0 (And.intro hx1 (And.intro hb4 hc4))
  clear _hu
  have hlen := encX_len hI.hG.enc
  have HI := hidS (fun W (hb : Below w.heap.size w W) => hI.below hb (hI.hT.below hb hI.h0))
  have HPr : Hid (∀ W, Below w.heap.size w W → Calls Tryd.prog 26 #[.slice ao L.length cap] W fun e w' => ∃ v, e = .returned v ∧ w'.ownsRow W.heap.size 43 4 v (prL L).length (pv (prL L)) ∧ Below W.heap.size W w') := hidS (fun W hW => rprocs_any ao cap L W hlen (HI.out W hW).hr)
  obtain ⟨al, capl, rfl, _⟩ := hI.hP.reads
  clear hI
  go_enter Tryd.func9, Tryd.ntmps9
  go_wp2_with (go_at_call 26; refine (HPr.out _ (belP (belP (Below.refl _ _)))).mono ?_; rintro e w2 ⟨lv2, rfl, hown2, hb2⟩; obtain ⟨la, lc, rfl, hrd2⟩ := own_pr hown2; have hB2 : Below w.heap.size w w2 := btP (belP (belP (Below.refl _ _))) hb2; have oC := (hb2.block w.heap.size (by simp; omega)).trans (((Below.heap_alloc _ _ _ (by simp)).trans (heap_alloc_new w _))); have oA := (hb2.block (w.heap.size + 1) (by simp)).trans (show _ = some (Obj.cells #[.int .i64 on, .int .i64 0, .int .i64 x, .int .u32 (b : Int), .int .u32 (c : Int)] 34) from heap_alloc_new' _ _ _ (by simp)); have cC0 := obj_cell oC 0; have cC1 := obj_cell oC 1; have cA1 := obj_cell oA 1; have cA2 := obj_cell oA 2; have cA3 := obj_cell oA 3; have cA4 := obj_cell oA 4; simp only [List.getElem?_toArray, List.getElem?_cons_succ, List.getElem?_cons_zero] at cC0 cC1 cA1 cA2 cA3 cA4; have hSz : w.heap.size + 1 < w2.heap.size := Nat.lt_of_lt_of_le (by simp) hb2.size; clear oC oA hown2 hb2)
  have HCt := hidS (pcount_any pp _ capl al w2 (HI.out _ hB2).hP.c0 (HI.out _ hB2).hP.c1)
  go_wp2_with (go_at_call 12; refine HCt.out.mono ?_; rintro e w3 ⟨rfl, hw3⟩; subst hw3)
  go_ret
  exact ⟨rfl, hB2⟩
set_option maxHeartbeats 2000000 in
theorem ans1o {L : List (Nat × Nat)} {J : List Nat} {M : List (ByteArray × Nat)} {B pp p1 g1 p2 g2 : Nat} {lv : Value} {A C : List Nat} (ao aj an : Option Addr) (cap capj ml capn : Nat) (on x : Int) (b c : Nat) (hxo : x < 0 ∨ ((prL L).length : Int) ≤ x) (w : World) (hx0 : -9223372036854775808 ≤ x) (hx1 : x ≤ 9223372036854775807) (hb4 : b < 4294967296) (hc4 : c < 4294967296) (hI : AnI w L J M B pp p1 g1 p2 g2 lv A C ao aj) :
    Calls Tryd.prog 9 #[.pointer (some ⟨pp, 0, none⟩), .agg #[.slice ao L.length cap, .slice aj J.length capj, .slice an ml capn], .agg #[.int .i64 on, .int .i64 1, .int .i64 x, .int .u32 b, .int .u32 c]] w fun e w' => e = .returned (.bool true) ∧ Below w.heap.size w w' := by
  have _hu := And.intro hx0 (And.intro hx1 (And.intro hb4 hc4))
  clear _hu
  have hlen := encX_len hI.hG.enc
  have HI := hidS (fun W (hb : Below w.heap.size w W) => hI.below hb (hI.hT.below hb hI.h0))
  have HPr : Hid (∀ W, Below w.heap.size w W → Calls Tryd.prog 26 #[.slice ao L.length cap] W fun e w' => ∃ v, e = .returned v ∧ w'.ownsRow W.heap.size 43 4 v (prL L).length (pv (prL L)) ∧ Below W.heap.size W w') := hidS (fun W hW => rprocs_any ao cap L W hlen (HI.out W hW).hr)
  obtain ⟨al, capl, rfl, _⟩ := hI.hP.reads
  clear hI
  go_enter Tryd.func9, Tryd.ntmps9
  go_wp2_with (go_at_call 26; refine (HPr.out _ (belP (belP (Below.refl _ _)))).mono ?_; rintro e w2 ⟨lv2, rfl, hown2, hb2⟩; obtain ⟨la, lc, rfl, hrd2⟩ := own_pr hown2; have hB2 : Below w.heap.size w w2 := btP (belP (belP (Below.refl _ _))) hb2; have oC := (hb2.block w.heap.size (by simp; omega)).trans (((Below.heap_alloc _ _ _ (by simp)).trans (heap_alloc_new w _))); have oA := (hb2.block (w.heap.size + 1) (by simp)).trans (show _ = some (Obj.cells #[.int .i64 on, .int .i64 1, .int .i64 x, .int .u32 (b : Int), .int .u32 (c : Int)] 34) from heap_alloc_new' _ _ _ (by simp)); have cC0 := obj_cell oC 0; have cC1 := obj_cell oC 1; have cA1 := obj_cell oA 1; have cA2 := obj_cell oA 2; have cA3 := obj_cell oA 3; have cA4 := obj_cell oA 4; simp only [List.getElem?_toArray, List.getElem?_cons_succ, List.getElem?_cons_zero] at cC0 cC1 cA1 cA2 cA3 cA4; have hSz : w.heap.size + 1 < w2.heap.size := Nat.lt_of_lt_of_le (by simp) hb2.size; clear oC oA hown2 hb2)
  have HPc := hidS (pproc_out x w2 hxo (HI.out _ hB2).hP)
  by_cases hneg : x < 0
  · go_wp2_with (go_at_call 13; refine HPc.out.mono ?_; rintro e w3 ⟨rfl, hb3⟩; have hs2 := hB2.size; have hs3 := hb3.size; have d2 : ∀ o, (w3.alloc o).cell? ⟨w.heap.size + 1, 2, none⟩ = some (.int .i64 x) := fun o => ((belP (o := o) (Below.refl _ w3)).cell (p := ⟨w.heap.size + 1, 2, none⟩) (Nat.lt_of_lt_of_le hSz hs3)).trans ((hb3.cell (p := ⟨w.heap.size + 1, 2, none⟩) hSz).trans cA2))
    go_ret
    exact ⟨rfl, belP (btP hB2 hb3)⟩
  · have hge : ((prL L).length : Int) ≤ x := by omega
    go_wp2_with (go_at_call 13; refine HPc.out.mono ?_; rintro e w3 ⟨rfl, hb3⟩; have hs2 := hB2.size; have hs3 := hb3.size; have d2 : ∀ o, (w3.alloc o).cell? ⟨w.heap.size + 1, 2, none⟩ = some (.int .i64 x) := fun o => ((belP (o := o) (Below.refl _ w3)).cell (p := ⟨w.heap.size + 1, 2, none⟩) (Nat.lt_of_lt_of_le hSz hs3)).trans ((hb3.cell (p := ⟨w.heap.size + 1, 2, none⟩) hSz).trans cA2))
    go_ret
    exact ⟨rfl, belP (btP hB2 hb3)⟩
set_option maxHeartbeats 2000000 in
theorem ans6 {L : List (Nat × Nat)} {J : List Nat} {M : List (ByteArray × Nat)} {B pp p1 g1 p2 g2 : Nat} {lv : Value} {A C : List Nat} (ao aj an : Option Addr) (cap capj ml capn : Nat) (on x : Int) (b c : Nat) (kd : Int) (hk0 : ¬ kd = 0) (hk1 : ¬ kd = 1) (hk2 : ¬ kd = 2) (hk3 : ¬ kd = 3) (hk4 : ¬ kd = 4) (hk5 : ¬ kd = 5) (w : World) (hx0 : -9223372036854775808 ≤ x) (hx1 : x ≤ 9223372036854775807) (hb4 : b < 4294967296) (hc4 : c < 4294967296) (hI : AnI w L J M B pp p1 g1 p2 g2 lv A C ao aj) :
    Calls Tryd.prog 9 #[.pointer (some ⟨pp, 0, none⟩), .agg #[.slice ao L.length cap, .slice aj J.length capj, .slice an ml capn], .agg #[.int .i64 on, .int .i64 kd, .int .i64 x, .int .u32 b, .int .u32 c]] w fun e w' => e = .returned (.bool true) ∧ Below w.heap.size w w' := by
  have _hu := And.intro hx0 (And.intro hx1 (And.intro hb4 hc4))
  clear _hu
  have hlen := encX_len hI.hG.enc
  have HI := hidS (fun W (hb : Below w.heap.size w W) => hI.below hb (hI.hT.below hb hI.h0))
  have HPr : Hid (∀ W, Below w.heap.size w W → Calls Tryd.prog 26 #[.slice ao L.length cap] W fun e w' => ∃ v, e = .returned v ∧ w'.ownsRow W.heap.size 43 4 v (prL L).length (pv (prL L)) ∧ Below W.heap.size W w') := hidS (fun W hW => rprocs_any ao cap L W hlen (HI.out W hW).hr)
  obtain ⟨al, capl, rfl, _⟩ := hI.hP.reads
  clear hI
  go_enter Tryd.func9, Tryd.ntmps9
  go_wp2_with (go_at_call 26; refine (HPr.out _ (belP (belP (Below.refl _ _)))).mono ?_; rintro e w2 ⟨lv2, rfl, hown2, hb2⟩; obtain ⟨la, lc, rfl, hrd2⟩ := own_pr hown2; have hB2 : Below w.heap.size w w2 := btP (belP (belP (Below.refl _ _))) hb2; have oC := (hb2.block w.heap.size (by simp; omega)).trans (((Below.heap_alloc _ _ _ (by simp)).trans (heap_alloc_new w _))); have oA := (hb2.block (w.heap.size + 1) (by simp)).trans (show _ = some (Obj.cells #[.int .i64 on, .int .i64 kd, .int .i64 x, .int .u32 (b : Int), .int .u32 (c : Int)] 34) from heap_alloc_new' _ _ _ (by simp)); have cC0 := obj_cell oC 0; have cC1 := obj_cell oC 1; have cA1 := obj_cell oA 1; have cA2 := obj_cell oA 2; have cA3 := obj_cell oA 3; have cA4 := obj_cell oA 4; simp only [List.getElem?_toArray, List.getElem?_cons_succ, List.getElem?_cons_zero] at cC0 cC1 cA1 cA2 cA3 cA4; have hSz : w.heap.size + 1 < w2.heap.size := Nat.lt_of_lt_of_le (by simp) hb2.size; clear oC oA hown2 hb2)
  have HWk := hidS (walks_any la lc x w2 (by rw [prs_len]; exact Nat.le_trans (List.length_filter_le _ _) (by simpa using hlen)) hx0 hx1 hrd2 (HI.out _ hB2).hP)
  go_wp2_with (go_at_call 32; refine HWk.out.mono ?_; rintro e w3 ⟨rfl, hb3⟩)
  go_ret
  exact ⟨rfl, btP hB2 hb3⟩
set_option maxHeartbeats 2000000 in
theorem ans2 {L : List (Nat × Nat)} {J : List Nat} {M : List (ByteArray × Nat)} {B pp p1 g1 p2 g2 : Nat} {lv : Value} {A C : List Nat} (ao aj an : Option Addr) (cap capj ml capn : Nat) (on x : Int) (b c : Nat) (w : World) (hx0 : -9223372036854775808 ≤ x) (hx1 : x ≤ 9223372036854775807) (hb4 : b < 4294967296) (hc4 : c < 4294967296) (hI : AnI w L J M B pp p1 g1 p2 g2 lv A C ao aj) :
    Calls Tryd.prog 9 #[.pointer (some ⟨pp, 0, none⟩), .agg #[.slice ao L.length cap, .slice aj J.length capj, .slice an ml capn], .agg #[.int .i64 on, .int .i64 2, .int .i64 x, .int .u32 b, .int .u32 c]] w fun e w' => e = .returned (.bool true) ∧ Below w.heap.size w w' := by
  have _hu := And.intro hx0 (And.intro hx1 (And.intro hb4 hc4))
  clear _hu
  have hlen := encX_len hI.hG.enc
  have HI := hidS (fun W (hb : Below w.heap.size w W) => hI.below hb (hI.hT.below hb hI.h0))
  have HPr : Hid (∀ W, Below w.heap.size w W → Calls Tryd.prog 26 #[.slice ao L.length cap] W fun e w' => ∃ v, e = .returned v ∧ w'.ownsRow W.heap.size 43 4 v (prL L).length (pv (prL L)) ∧ Below W.heap.size W w') := hidS (fun W hW => rprocs_any ao cap L W hlen (HI.out W hW).hr)
  obtain ⟨al, capl, rfl, _⟩ := hI.hP.reads
  clear hI
  go_enter Tryd.func9, Tryd.ntmps9
  go_wp2_with (go_at_call 26; refine (HPr.out _ (belP (belP (Below.refl _ _)))).mono ?_; rintro e w2 ⟨lv2, rfl, hown2, hb2⟩; obtain ⟨la, lc, rfl, hrd2⟩ := own_pr hown2; have hB2 : Below w.heap.size w w2 := btP (belP (belP (Below.refl _ _))) hb2; have oC := (hb2.block w.heap.size (by simp; omega)).trans (((Below.heap_alloc _ _ _ (by simp)).trans (heap_alloc_new w _))); have oA := (hb2.block (w.heap.size + 1) (by simp)).trans (show _ = some (Obj.cells #[.int .i64 on, .int .i64 2, .int .i64 x, .int .u32 (b : Int), .int .u32 (c : Int)] 34) from heap_alloc_new' _ _ _ (by simp)); have cC0 := obj_cell oC 0; have cC1 := obj_cell oC 1; have cA1 := obj_cell oA 1; have cA2 := obj_cell oA 2; have cA3 := obj_cell oA 3; have cA4 := obj_cell oA 4; simp only [List.getElem?_toArray, List.getElem?_cons_succ, List.getElem?_cons_zero] at cC0 cC1 cA1 cA2 cA3 cA4; have hSz : w.heap.size + 1 < w2.heap.size := Nat.lt_of_lt_of_le (by simp) hb2.size; clear oC oA hown2 hb2)
  have HOf := hidS (fun W hb => pof_any b W hlen (HI.out W hb).hG.fst (HI.out W hb).hP)
  have HRo := hidS (fun W hb => rof_any ao cap L b W hlen hb4 (HI.out W hb).hr)
  have HS : Hid (∀ V, Below w2.heap.size w2 V → V.cell? ⟨w.heap.size + 1, 3, none⟩ = some (.int .u32 (b : Int)) ∧ V.cell? ⟨w.heap.size, 0, none⟩ = some (.slice ao L.length cap)) := hidS (fun V hV => ⟨(hV.cell (p := ⟨w.heap.size + 1, 3, none⟩) hSz).trans cA3, (hV.cell (p := ⟨w.heap.size, 0, none⟩) (Nat.lt_of_succ_lt hSz)).trans cC0⟩)
  have HB2 := hidS hB2
  have HB2D : Hid (Below w.heap.size w w2.drew) := hidS (below_drewN hB2 1)
  have HBR := hidS (Below.refl w2.heap.size w2)
  have HBRD : Hid (Below w2.heap.size w2 w2.drew) := hidS (below_drewN (Below.refl w2.heap.size w2) 1)
  generalize ofL L b = o at HOf HRo
  go_wp2_with fail
  go_region_held3 (fun V => V.cell? ⟨w.heap.size + 1, 3, none⟩ = some (.int .u32 (b : Int)) ∧ V.cell? ⟨w.heap.size, 0, none⟩ = some (.slice ao L.length cap)) (first | exact HS.out _ HBR.out | exact HS.out _ HBRD.out | exact HS.out _ (btP HBRD.out hb3)) (first
    | (go_at_call 14; with_reducible refine (HOf.out _ HB2D.out).mono ?_; rintro e3 w3 ⟨rfl, hb3⟩)
    | (go_at_call 27; with_reducible refine (HRo.out _ (btP HB2D.out hb3)).mono ?_; rintro e4 w4 ⟨rfl, hw4⟩; subst hw4)
    | (go_at_call 27; with_reducible refine (HRo.out _ HB2D.out).mono ?_; rintro e4 w4 ⟨rfl, hw4⟩; subst hw4))
  all_goals (go_wp2; go_ret; exact ⟨rfl, btP HB2D.out hb3⟩)
end Go.Proofs.YtihnkeflcnndpaaDoor
namespace Go.Proofs.YtihnkeflcnndpaaDoor
open Go.RowKit Go.WideShapes Go.Shelf
set_option maxRecDepth 100000
set_option maxHeartbeats 2000000 in
theorem ans1 {L : List (Nat × Nat)} {J : List Nat} {M : List (ByteArray × Nat)} {B pp p1 g1 p2 g2 : Nat} {lv : Value} {A C : List Nat} (ao aj an : Option Addr) (cap capj ml capn : Nat) (on : Int) (b c : Nat) (i : Nat) (hi : i < (prL L).length) (w : World) (hb4 : b < 4294967296) (hc4 : c < 4294967296) (hI : AnI w L J M B pp p1 g1 p2 g2 lv A C ao aj) :
    Calls Tryd.prog 9 #[.pointer (some ⟨pp, 0, none⟩), .agg #[.slice ao L.length cap, .slice aj J.length capj, .slice an ml capn], .agg #[.int .i64 on, .int .i64 1, .int .i64 (i : Int), .int .u32 b, .int .u32 c]] w fun e w' => e = .returned (.bool true) ∧ Below w.heap.size w w' := by
  have _hu := And.intro hb4 hc4
  clear _hu
  have hlen := encX_len hI.hG.enc
  have HI := hidS (fun W (hb : Below w.heap.size w W) => hI.below hb (hI.hT.below hb hI.h0))
  have HPr : Hid (∀ W, Below w.heap.size w W → Calls Tryd.prog 26 #[.slice ao L.length cap] W fun e w' => ∃ v, e = .returned v ∧ w'.ownsRow W.heap.size 43 4 v (prL L).length (pv (prL L)) ∧ Below W.heap.size W w') := hidS (fun W hW => rprocs_any ao cap L W hlen (HI.out W hW).hr)
  obtain ⟨al, capl, rfl, _⟩ := hI.hP.reads
  clear hI
  go_enter Tryd.func9, Tryd.ntmps9
  go_wp2_with (go_at_call 26; refine (HPr.out _ (belP (belP (Below.refl _ _)))).mono ?_; rintro e w2 ⟨lv2, rfl, hown2, hb2⟩; obtain ⟨la, lc, rfl, hrd2⟩ := own_pr hown2; have hB2 : Below w.heap.size w w2 := btP (belP (belP (Below.refl _ _))) hb2; have oC := (hb2.block w.heap.size (by simp; omega)).trans (((Below.heap_alloc _ _ _ (by simp)).trans (heap_alloc_new w _))); have oA := (hb2.block (w.heap.size + 1) (by simp)).trans (show _ = some (Obj.cells #[.int .i64 on, .int .i64 1, .int .i64 (i : Int), .int .u32 (b : Int), .int .u32 (c : Int)] 34) from heap_alloc_new' _ _ _ (by simp)); have cC0 := obj_cell oC 0; have cC1 := obj_cell oC 1; have cA1 := obj_cell oA 1; have cA2 := obj_cell oA 2; have cA3 := obj_cell oA 3; have cA4 := obj_cell oA 4; simp only [List.getElem?_toArray, List.getElem?_cons_succ, List.getElem?_cons_zero] at cC0 cC1 cA1 cA2 cA3 cA4; have hSz : w.heap.size + 1 < w2.heap.size := Nat.lt_of_lt_of_le (by simp) hb2.size; clear oC oA hown2 hb2)
  have HPc := hidS (pproc_in i w2 hi (HI.out _ hB2).hP)
  obtain ⟨g, off, rfl, hg, hc⟩ := hrd2 (Nat.lt_of_le_of_lt (Nat.zero_le _) hi)
  obtain ⟨v0, v1, v2, v3⟩ := hc i hi
  obtain ⟨pb, pe, pf, hq⟩ : ∃ pb pe pf, (prL L).getD i (0, 0, 0) = (pb, pe, pf) := ⟨_, _, _, rfl⟩
  simp only [hq] at HPc v0 v1 v2 v3
  have hiI : (i : Int) < ((prL L).length : Int) := Int.ofNat_lt.2 hi
  have hgd : decide ((prL L).length ≤ i) = false := decide_eq_false (Nat.not_le.2 hi)
  clear hc hq
  go_wp2_with (go_at_call 13; refine HPc.out.mono ?_; rintro e w3 ⟨rfl, hb3⟩; have hs3 := hb3.size; have d2 : ∀ o, (w3.alloc o).cell? ⟨w.heap.size + 1, 2, none⟩ = some (.int .i64 (i : Int)) := fun o => ((belP (o := o) (Below.refl _ w3)).cell (p := ⟨w.heap.size + 1, 2, none⟩) (Nat.lt_of_lt_of_le hSz hs3)).trans ((hb3.cell (p := ⟨w.heap.size + 1, 2, none⟩) hSz).trans cA2))
  have hgl := Nat.lt_of_lt_of_le hg hb3.size
  have e0 : ∀ o, (w3.alloc o).cell? ⟨g, off + i * 4, none⟩ = some (.int .u32 (pb : Int)) := fun o => ((belP (o := o) (Below.refl _ w3)).cell (p := ⟨g, off + i * 4, none⟩) hgl).trans ((hb3.cell (p := ⟨g, off + i * 4, none⟩) hg).trans v0)
  have e1 : ∀ o, (w3.alloc o).cell? ⟨g, off + i * 4 + 1, none⟩ = some (.int .u32 (pe : Int)) := fun o => ((belP (o := o) (Below.refl _ w3)).cell (p := ⟨g, off + i * 4 + 1, none⟩) hgl).trans ((hb3.cell (p := ⟨g, off + i * 4 + 1, none⟩) hg).trans v1)
  have e2 : ∀ o, (w3.alloc o).cell? ⟨g, off + i * 4 + 2, none⟩ = some (.int .u32 (pf : Int)) := fun o => ((belP (o := o) (Below.refl _ w3)).cell (p := ⟨g, off + i * 4 + 2, none⟩) hgl).trans ((hb3.cell (p := ⟨g, off + i * 4 + 2, none⟩) hg).trans v2)
  have e3 : ∀ o, (w3.alloc o).cell? ⟨g, off + i * 4 + 3, none⟩ = some (.int .i64 0) := fun o => ((belP (o := o) (Below.refl _ w3)).cell (p := ⟨g, off + i * 4 + 3, none⟩) hgl).trans ((hb3.cell (p := ⟨g, off + i * 4 + 3, none⟩) hg).trans v3)
  clear v0 v1 v2 v3 cA2
  go_quiet (fail)
  go_wp2
  go_ret
  exact ⟨rfl, by first | exact below_drewN (belP (btP hB2 hb3)) _ | exact belP (btP hB2 hb3)⟩
end Go.Proofs.YtihnkeflcnndpaaDoor
namespace Go.Proofs.YtihnkeflcnndpaaDoor
open Go.RowKit Go.WideShapes Go.Shelf
set_option maxRecDepth 100000
set_option maxHeartbeats 2000000 in
theorem ans4 {L : List (Nat × Nat)} {J : List Nat} {M : List (ByteArray × Nat)} {B pp p1 g1 p2 g2 : Nat} {lv : Value} {A C : List Nat} (ao aj an : Option Addr) (cap capj ml capn : Nat) (on x : Int) (b c : Nat) (w : World) (hx0 : -9223372036854775808 ≤ x) (hx1 : x ≤ 9223372036854775807) (hb4 : b < 4294967296) (hc4 : c < 4294967296) (hI : AnI w L J M B pp p1 g1 p2 g2 lv A C ao aj) :
    Calls Tryd.prog 9 #[.pointer (some ⟨pp, 0, none⟩), .agg #[.slice ao L.length cap, .slice aj J.length capj, .slice an ml capn], .agg #[.int .i64 on, .int .i64 4, .int .i64 x, .int .u32 b, .int .u32 c]] w fun e w' => e = .returned (.bool true) ∧ Below w.heap.size w w' := by
  have _hu := And.intro hx0 (And.intro hx1 (And.intro hb4 hc4))
  clear _hu
  have hlen := encX_len hI.hG.enc
  have HI := hidS (fun W (hb : Below w.heap.size w W) => hI.below hb (hI.hT.below hb hI.h0))
  have HPr : Hid (∀ W, Below w.heap.size w W → Calls Tryd.prog 26 #[.slice ao L.length cap] W fun e w' => ∃ v, e = .returned v ∧ w'.ownsRow W.heap.size 43 4 v (prL L).length (pv (prL L)) ∧ Below W.heap.size W w') := hidS (fun W hW => rprocs_any ao cap L W hlen (HI.out W hW).hr)
  obtain ⟨al, capl, rfl, _⟩ := hI.hP.reads
  clear hI
  go_enter Tryd.func9, Tryd.ntmps9
  go_wp2_with (go_at_call 26; refine (HPr.out _ (belP (belP (Below.refl _ _)))).mono ?_; rintro e w2 ⟨lv2, rfl, hown2, hb2⟩; obtain ⟨la, lc, rfl, hrd2⟩ := own_pr hown2; have hB2 : Below w.heap.size w w2 := btP (belP (belP (Below.refl _ _))) hb2; have oC := (hb2.block w.heap.size (by simp; omega)).trans (((Below.heap_alloc _ _ _ (by simp)).trans (heap_alloc_new w _))); have oA := (hb2.block (w.heap.size + 1) (by simp)).trans (show _ = some (Obj.cells #[.int .i64 on, .int .i64 4, .int .i64 x, .int .u32 (b : Int), .int .u32 (c : Int)] 34) from heap_alloc_new' _ _ _ (by simp)); have cC0 := obj_cell oC 0; have cC1 := obj_cell oC 1; have cA1 := obj_cell oA 1; have cA2 := obj_cell oA 2; have cA3 := obj_cell oA 3; have cA4 := obj_cell oA 4; simp only [List.getElem?_toArray, List.getElem?_cons_succ, List.getElem?_cons_zero] at cC0 cC1 cA1 cA2 cA3 cA4; have hSz : w.heap.size + 1 < w2.heap.size := Nat.lt_of_lt_of_le (by simp) hb2.size; clear oC oA hown2 hb2)
  have HOf := hidS (fun W hb => plegal_any c b W hb4 hlen (HI.out W hb).hG.fst (HI.out W hb).hP)
  have HRo := hidS (fun W hb => rlegal_any ao aj cap capj L J c b W hlen (Nat.le_trans (HI.out W hb).hJn (by omega)) hc4 hb4 (HI.out W hb).hG.fst (jumps_lt (HI.out W hb).hG.jm) (HI.out W hb).hr (HI.out W hb).hrJ)
  have hCb := (HI.out w2 hB2).hC b
  rw [hCb] at HOf
  have HS : Hid (∀ V, Below w2.heap.size w2 V → V.cell? ⟨w.heap.size + 1, 3, none⟩ = some (.int .u32 (b : Int)) ∧ V.cell? ⟨w.heap.size + 1, 4, none⟩ = some (.int .u32 (c : Int)) ∧ V.cell? ⟨w.heap.size, 0, none⟩ = some (.slice ao L.length cap) ∧ V.cell? ⟨w.heap.size, 1, none⟩ = some (.slice aj J.length capj)) := hidS (fun V hV => ⟨(hV.cell (p := ⟨w.heap.size + 1, 3, none⟩) hSz).trans cA3, (hV.cell (p := ⟨w.heap.size + 1, 4, none⟩) hSz).trans cA4, (hV.cell (p := ⟨w.heap.size, 0, none⟩) (Nat.lt_of_succ_lt hSz)).trans cC0, (hV.cell (p := ⟨w.heap.size, 1, none⟩) (Nat.lt_of_succ_lt hSz)).trans cC1⟩)
  have HB2 := hidS hB2
  have HB2D : Hid (Below w.heap.size w w2.drew) := hidS (below_drewN hB2 1)
  have HBR := hidS (Below.refl w2.heap.size w2)
  have HBRD : Hid (Below w2.heap.size w2 w2.drew) := hidS (below_drewN (Below.refl w2.heap.size w2) 1)
  generalize (decide (b ∈ J) && (ofL L c == ofL L b)) = o at HOf HRo
  clear hCb
  go_wp2_with fail
  go_region_held3 (fun V => V.cell? ⟨w.heap.size + 1, 3, none⟩ = some (.int .u32 (b : Int)) ∧ V.cell? ⟨w.heap.size + 1, 4, none⟩ = some (.int .u32 (c : Int)) ∧ V.cell? ⟨w.heap.size, 0, none⟩ = some (.slice ao L.length cap) ∧ V.cell? ⟨w.heap.size, 1, none⟩ = some (.slice aj J.length capj)) (first | exact HS.out _ HBR.out | exact HS.out _ HBRD.out | exact HS.out _ (btP HBRD.out hb3)) (first
    | (go_at_call 17; with_reducible refine (HOf.out _ HB2D.out).mono ?_; rintro e3 w3 ⟨rfl, hb3⟩)
    | (go_at_call 28; with_reducible refine (HRo.out _ (btP HB2D.out hb3)).mono ?_; rintro e4 w4 ⟨rfl, hw4⟩; subst hw4)
    | (go_at_call 28; with_reducible refine (HRo.out _ HB2D.out).mono ?_; rintro e4 w4 ⟨rfl, hw4⟩; subst hw4))
  all_goals (go_wp2; go_ret; exact ⟨by first | rfl | simp, btP HB2D.out hb3⟩)
end Go.Proofs.YtihnkeflcnndpaaDoor
namespace Go.Proofs.YtihnkeflcnndpaaDoor
open Go.RowKit Go.WideShapes Go.Shelf
set_option maxRecDepth 100000
set_option maxHeartbeats 2000000 in
theorem ans3o {L : List (Nat × Nat)} {J : List Nat} {M : List (ByteArray × Nat)} {B pp p1 g1 p2 g2 : Nat} {lv : Value} {A C : List Nat} (ao aj an : Option Addr) (cap capj ml capn : Nat) (on x : Int) (b c : Nat) (hbl : ¬ b < L.length) (w : World) (hx0 : -9223372036854775808 ≤ x) (hx1 : x ≤ 9223372036854775807) (hb4 : b < 4294967296) (hc4 : c < 4294967296) (hI : AnI w L J M B pp p1 g1 p2 g2 lv A C ao aj) :
    Calls Tryd.prog 9 #[.pointer (some ⟨pp, 0, none⟩), .agg #[.slice ao L.length cap, .slice aj J.length capj, .slice an ml capn], .agg #[.int .i64 on, .int .i64 3, .int .i64 x, .int .u32 b, .int .u32 c]] w fun e w' => e = .returned (.bool true) ∧ Below w.heap.size w w' := by
  have _hu := And.intro hx0 (And.intro hx1 (And.intro hb4 hc4))
  clear _hu
  have hlen := encX_len hI.hG.enc
  have HI := hidS (fun W (hb : Below w.heap.size w W) => hI.below hb (hI.hT.below hb hI.h0))
  have HPr : Hid (∀ W, Below w.heap.size w W → Calls Tryd.prog 26 #[.slice ao L.length cap] W fun e w' => ∃ v, e = .returned v ∧ w'.ownsRow W.heap.size 43 4 v (prL L).length (pv (prL L)) ∧ Below W.heap.size W w') := hidS (fun W hW => rprocs_any ao cap L W hlen (HI.out W hW).hr)
  obtain ⟨al, capl, rfl, _⟩ := hI.hP.reads
  have hwb : IntKind.u64.wrap (b : Int) = (b : Int) := by rw [IntKind.wrap_u64]; omega
  have hwl : IntKind.u64.wrap (L.length : Int) = (L.length : Int) := by rw [IntKind.wrap_u64]; omega
  have hwi : wrap64 (b : Int) = (b : Int) := by unfold wrap64; omega
  have hblI : ¬ (b : Int) < (L.length : Int) := by omega
  have HFE : Hid (isEn L b = false) := hidS (by
    by_cases h : isEn L b = true
    · exact absurd (isEn_op h).1 hbl
    · simpa using h)
  clear hI
  go_enter Tryd.func9, Tryd.ntmps9
  go_wp2_with (go_at_call 26; refine (HPr.out _ (belP (belP (Below.refl _ _)))).mono ?_; rintro e w2 ⟨lv2, rfl, hown2, hb2⟩; obtain ⟨la, lc, rfl, hrd2⟩ := own_pr hown2; have hB2 : Below w.heap.size w w2 := btP (belP (belP (Below.refl _ _))) hb2; have oC := (hb2.block w.heap.size (by simp; omega)).trans (((Below.heap_alloc _ _ _ (by simp)).trans (heap_alloc_new w _))); have oA := (hb2.block (w.heap.size + 1) (by simp)).trans (show _ = some (Obj.cells #[.int .i64 on, .int .i64 3, .int .i64 x, .int .u32 (b : Int), .int .u32 (c : Int)] 34) from heap_alloc_new' _ _ _ (by simp)); have cC0 := obj_cell oC 0; have cC1 := obj_cell oC 1; have cA1 := obj_cell oA 1; have cA2 := obj_cell oA 2; have cA3 := obj_cell oA 3; have cA4 := obj_cell oA 4; simp only [List.getElem?_toArray, List.getElem?_cons_succ, List.getElem?_cons_zero] at cC0 cC1 cA1 cA2 cA3 cA4; have hSz : w.heap.size + 1 < w2.heap.size := Nat.lt_of_lt_of_le (by simp) hb2.size; clear oC oA hown2 hb2)
  have HBg := hidS (pbegins_any b w2 hb4 (HI.out _ hB2).hP)
  rw [(HI.out w2 hB2).hA b, HFE.out] at HBg
  go_wp2_with (go_at_call 15; refine HBg.out.mono ?_; rintro e w3 ⟨rfl, hw3⟩; subst hw3)
  go_ret
  exact ⟨rfl, hB2⟩
set_option maxHeartbeats 2000000 in
theorem ans3e {L : List (Nat × Nat)} {J : List Nat} {M : List (ByteArray × Nat)} {B pp p1 g1 p2 g2 : Nat} {lv : Value} {A C : List Nat} (ao aj an : Option Addr) (cap capj ml capn : Nat) (on x : Int) (b c : Nat) (hbl : b < L.length) (hen : isEn L b = true) (w : World) (hx0 : -9223372036854775808 ≤ x) (hx1 : x ≤ 9223372036854775807) (hb4 : b < 4294967296) (hc4 : c < 4294967296) (hI : AnI w L J M B pp p1 g1 p2 g2 lv A C ao aj) :
    Calls Tryd.prog 9 #[.pointer (some ⟨pp, 0, none⟩), .agg #[.slice ao L.length cap, .slice aj J.length capj, .slice an ml capn], .agg #[.int .i64 on, .int .i64 3, .int .i64 x, .int .u32 b, .int .u32 c]] w fun e w' => e = .returned (.bool true) ∧ Below w.heap.size w w' := by
  have _hu := And.intro hx0 (And.intro hx1 (And.intro hb4 hc4))
  clear _hu
  have hlen := encX_len hI.hG.enc
  have HI := hidS (fun W (hb : Below w.heap.size w W) => hI.below hb (hI.hT.below hb hI.h0))
  have HPr : Hid (∀ W, Below w.heap.size w W → Calls Tryd.prog 26 #[.slice ao L.length cap] W fun e w' => ∃ v, e = .returned v ∧ w'.ownsRow W.heap.size 43 4 v (prL L).length (pv (prL L)) ∧ Below W.heap.size W w') := hidS (fun W hW => rprocs_any ao cap L W hlen (HI.out W hW).hr)
  obtain ⟨al, capl, rfl, _⟩ := hI.hP.reads
  have hwb : IntKind.u64.wrap (b : Int) = (b : Int) := by rw [IntKind.wrap_u64]; omega
  have hwl : IntKind.u64.wrap (L.length : Int) = (L.length : Int) := by rw [IntKind.wrap_u64]; omega
  have hwi : wrap64 (b : Int) = (b : Int) := by unfold wrap64; omega
  have hblI : (b : Int) < (L.length : Int) := Int.ofNat_lt.2 hbl
  have HV0 := hidS (fun V hV => (HI.out V hV).hr (Nat.lt_of_le_of_lt (Nat.zero_le _) hbl))
  obtain ⟨g, off, rfl, _, _⟩ := hI.hr (Nat.lt_of_le_of_lt (Nat.zero_le _) hbl)
  replace HV0 : Hid (∀ V, Below w.heap.size w V → V.cell? ⟨g, off + b * 2, none⟩ = some (.int .u8 ((L.getD b (0, 0)).1 : Nat))) := hidS (fun V hV => by
    obtain ⟨b', off', e, _, hc'⟩ := HV0.out V hV
    cases e
    exact (hc' b hbl).1)
  have HFE := hidS hen
  rw [(isEn_op hen).2] at HV0
  clear hen
  clear hI
  go_enter Tryd.func9, Tryd.ntmps9
  go_wp2_with (go_at_call 26; refine (HPr.out _ (belP (belP (Below.refl _ _)))).mono ?_; rintro e w2 ⟨lv2, rfl, hown2, hb2⟩; obtain ⟨la, lc, rfl, hrd2⟩ := own_pr hown2; have hB2 : Below w.heap.size w w2 := btP (belP (belP (Below.refl _ _))) hb2; have oC := (hb2.block w.heap.size (by simp; omega)).trans (((Below.heap_alloc _ _ _ (by simp)).trans (heap_alloc_new w _))); have oA := (hb2.block (w.heap.size + 1) (by simp)).trans (show _ = some (Obj.cells #[.int .i64 on, .int .i64 3, .int .i64 x, .int .u32 (b : Int), .int .u32 (c : Int)] 34) from heap_alloc_new' _ _ _ (by simp)); have cC0 := obj_cell oC 0; have cC1 := obj_cell oC 1; have cA1 := obj_cell oA 1; have cA2 := obj_cell oA 2; have cA3 := obj_cell oA 3; have cA4 := obj_cell oA 4; simp only [List.getElem?_toArray, List.getElem?_cons_succ, List.getElem?_cons_zero] at cC0 cC1 cA1 cA2 cA3 cA4; have hSz : w.heap.size + 1 < w2.heap.size := Nat.lt_of_lt_of_le (by simp) hb2.size; have v0 := HV0.out w2 hB2; clear oC oA hown2 hb2)
  have HBg := hidS (pbegins_any b w2 hb4 (HI.out _ hB2).hP)
  rw [(HI.out w2 hB2).hA b, HFE.out] at HBg
  go_wp2_with (go_at_call 15; refine HBg.out.mono ?_; rintro e w3 ⟨rfl, hw3⟩; subst hw3)
  go_ret
  exact ⟨rfl, hB2⟩
set_option maxHeartbeats 2000000 in
theorem ans3n {L : List (Nat × Nat)} {J : List Nat} {M : List (ByteArray × Nat)} {B pp p1 g1 p2 g2 : Nat} {lv : Value} {A C : List Nat} (ao aj an : Option Addr) (cap capj ml capn : Nat) (on x : Int) (b c : Nat) (hbl : b < L.length) (hen : isEn L b = false) (w : World) (hx0 : -9223372036854775808 ≤ x) (hx1 : x ≤ 9223372036854775807) (hb4 : b < 4294967296) (hc4 : c < 4294967296) (hI : AnI w L J M B pp p1 g1 p2 g2 lv A C ao aj) :
    Calls Tryd.prog 9 #[.pointer (some ⟨pp, 0, none⟩), .agg #[.slice ao L.length cap, .slice aj J.length capj, .slice an ml capn], .agg #[.int .i64 on, .int .i64 3, .int .i64 x, .int .u32 b, .int .u32 c]] w fun e w' => e = .returned (.bool true) ∧ Below w.heap.size w w' := by
  have _hu := And.intro hx0 (And.intro hx1 (And.intro hb4 hc4))
  clear _hu
  have hlen := encX_len hI.hG.enc
  have HI := hidS (fun W (hb : Below w.heap.size w W) => hI.below hb (hI.hT.below hb hI.h0))
  have HPr : Hid (∀ W, Below w.heap.size w W → Calls Tryd.prog 26 #[.slice ao L.length cap] W fun e w' => ∃ v, e = .returned v ∧ w'.ownsRow W.heap.size 43 4 v (prL L).length (pv (prL L)) ∧ Below W.heap.size W w') := hidS (fun W hW => rprocs_any ao cap L W hlen (HI.out W hW).hr)
  obtain ⟨al, capl, rfl, _⟩ := hI.hP.reads
  have hwb : IntKind.u64.wrap (b : Int) = (b : Int) := by rw [IntKind.wrap_u64]; omega
  have hwl : IntKind.u64.wrap (L.length : Int) = (L.length : Int) := by rw [IntKind.wrap_u64]; omega
  have hwi : wrap64 (b : Int) = (b : Int) := by unfold wrap64; omega
  have hblI : (b : Int) < (L.length : Int) := Int.ofNat_lt.2 hbl
  have HV0 := hidS (fun V hV => (HI.out V hV).hr (Nat.lt_of_le_of_lt (Nat.zero_le _) hbl))
  obtain ⟨g, off, rfl, _, _⟩ := hI.hr (Nat.lt_of_le_of_lt (Nat.zero_le _) hbl)
  replace HV0 : Hid (∀ V, Below w.heap.size w V → V.cell? ⟨g, off + b * 2, none⟩ = some (.int .u8 ((L.getD b (0, 0)).1 : Nat))) := hidS (fun V hV => by
    obtain ⟨b', off', e, _, hc'⟩ := HV0.out V hV
    cases e
    exact (hc' b hbl).1)
  have HFE := hidS hen
  have hop : ((L.getD b (0, 0)).1 : Int) ≠ 3 := fun h => by
    rw [op_is hbl] at hen
    exact absurd (by omega) (beq_eq_false_iff_ne.1 hen)
  have h3 : (((L.getD b (0, 0)).1 : Int) == (3 : Int)) = false := beq_eq_false_iff_ne.2 hop
  generalize (L.getD b (0, 0)).1 = op at HV0 h3 hop
  clear hen
  clear hI
  go_enter Tryd.func9, Tryd.ntmps9
  go_wp2_with (go_at_call 26; refine (HPr.out _ (belP (belP (Below.refl _ _)))).mono ?_; rintro e w2 ⟨lv2, rfl, hown2, hb2⟩; obtain ⟨la, lc, rfl, hrd2⟩ := own_pr hown2; have hB2 : Below w.heap.size w w2 := btP (belP (belP (Below.refl _ _))) hb2; have oC := (hb2.block w.heap.size (by simp; omega)).trans (((Below.heap_alloc _ _ _ (by simp)).trans (heap_alloc_new w _))); have oA := (hb2.block (w.heap.size + 1) (by simp)).trans (show _ = some (Obj.cells #[.int .i64 on, .int .i64 3, .int .i64 x, .int .u32 (b : Int), .int .u32 (c : Int)] 34) from heap_alloc_new' _ _ _ (by simp)); have cC0 := obj_cell oC 0; have cC1 := obj_cell oC 1; have cA1 := obj_cell oA 1; have cA2 := obj_cell oA 2; have cA3 := obj_cell oA 3; have cA4 := obj_cell oA 4; simp only [List.getElem?_toArray, List.getElem?_cons_succ, List.getElem?_cons_zero] at cC0 cC1 cA1 cA2 cA3 cA4; have hSz : w.heap.size + 1 < w2.heap.size := Nat.lt_of_lt_of_le (by simp) hb2.size; have v0 := HV0.out w2 hB2; clear oC oA hown2 hb2)
  have HBg := hidS (pbegins_any b w2 hb4 (HI.out _ hB2).hP)
  rw [(HI.out w2 hB2).hA b, HFE.out] at HBg
  go_wp2_with (go_at_call 15; refine HBg.out.mono ?_; rintro e w3 ⟨rfl, hw3⟩; subst hw3)
  go_ret
  exact ⟨rfl, hB2⟩
end Go.Proofs.YtihnkeflcnndpaaDoor
