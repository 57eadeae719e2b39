import Derived.Test.YtihnkeflcnndpaaDoorPDt
import Derived.Test.YtihnkeflcnndpaaDoorPTg
import Derived.Test.YtihnkeflcnndpaaDoorPWt
namespace Go.Proofs.YtihnkeflcnndpaaDoor
open Go.RowKit Go.WideShapes Go.Shelf
set_option maxRecDepth 100000

abbrev k1L : List (Nat × Nat) := [(3, 8), (6, 2), (4, 8), (3, 4), (8, 4), (7, 0), (8, 1), (4, 4)]
abbrev k4L : List (Nat × Nat) := [(3, 8), (6, 4), (4, 8), (3, 4), (8, 4), (7, 0), (8, 1), (4, 4)]
abbrev k5L : List (Nat × Nat) := [(3, 8), (6, 0), (4, 8), (3, 4), (8, 4), (7, 0), (8, 1), (4, 4)]
abbrev k6L : List (Nat × Nat) := [(3, 8), (6, 2), (8, 1), (3, 4), (8, 4), (7, 0), (8, 1), (4, 4)]
abbrev k7L : List (Nat × Nat) := [(3, 8), (6, 2), (4, 4), (3, 4), (8, 4), (7, 0), (8, 1), (4, 4)]
theorem k1C : CkR k1L (prL k1L) 0 0 := .inl ⟨rfl, rfl, ckAll_ok (by decide +kernel)⟩
theorem k1B : FdB k1L [3] [] 0 134 := .inr (.inr (.inr (.inl ⟨by decide +kernel, by decide +kernel, k1C, .inr ⟨rfl, by decide, by decide +kernel, fun j hj => absurd hj (by omega)⟩⟩)))
theorem k2B : FdB k1L [6, 4] [] 1 134 := .inr (.inr (.inr (.inl ⟨by decide +kernel, by decide +kernel, k1C, .inr ⟨rfl, by decide, by decide +kernel, fun j hj => by
  have : ∀ j, j < 1 → okJ k1L [6, 4] j = true := by decide +kernel
  exact this j hj⟩⟩)))
theorem k3B : FdB k1L [] [(⟨#[102]⟩, 4)] 0 135 := .inr (.inr (.inr (.inr ⟨by decide +kernel, by decide +kernel, k1C, .inl ⟨rfl, rfl, fun j hj => absurd hj (by simp)⟩, .inr ⟨rfl, by decide, by decide +kernel, fun j hj => absurd hj (by omega)⟩⟩)))
theorem k4B : FdB k4L [] [] 1 132 := .inr (.inr (.inl ⟨by decide +kernel, by decide +kernel, .inr ⟨by decide, 0, by decide +kernel, by decide +kernel, by decide +kernel, by decide +kernel, fun j _ h2 => by
  have : ∀ j, j < 1 → errP k4L ((prL k4L).getD 0 (0, 0, 0)) j = 0 := by decide +kernel
  exact this j h2, fun q hq => absurd hq (by omega)⟩⟩))
theorem k5B : FdB k5L [] [] 1 132 := .inr (.inr (.inl ⟨by decide +kernel, by decide +kernel, .inr ⟨by decide, 0, by decide +kernel, by decide +kernel, by decide +kernel, by decide +kernel, fun j _ h2 => by
  have : ∀ j, j < 1 → errP k5L ((prL k5L).getD 0 (0, 0, 0)) j = 0 := by decide +kernel
  exact this j h2, fun q hq => absurd hq (by omega)⟩⟩))
theorem k6B : FdB k6L [] [] 2 133 := .inr (.inr (.inl ⟨by decide +kernel, by decide +kernel, .inr ⟨by decide, 0, by decide +kernel, by decide +kernel, by decide +kernel, by decide +kernel, fun j _ h2 => by
  have : ∀ j, j < 2 → errP k6L ((prL k6L).getD 0 (0, 0, 0)) j = 0 := by decide +kernel
  exact this j h2, fun q hq => absurd hq (by omega)⟩⟩))
theorem k7B : FdB k7L [] [] 2 131 := .inr (.inr (.inl ⟨by decide +kernel, by decide +kernel, .inr ⟨by decide, 0, by decide +kernel, by decide +kernel, by decide +kernel, by decide +kernel, fun j _ h2 => by
  have : ∀ j, j < 2 → errP k7L ((prL k7L).getD 0 (0, 0, 0)) j = 0 := by decide +kernel
  exact this j h2, fun q hq => absurd hq (by omega)⟩⟩))
theorem k8B : FdB [] [] [] 0 130 := .inr (.inl ⟨by decide +kernel, by decide +kernel, rfl, rfl⟩)
theorem jrd_nil (W : World) (B : Nat) : JRd W none [] B := fun h => absurd h (by simp)
theorem nrd_nil (W : World) (B : Nat) : NRd W none [] B := fun h => absurd h (by simp)
/-- Find of code that may not be -/
theorem kfind {L : List (Nat × Nat)} {J : List Nat} {M : List (ByteArray × Nat)} {i x : Nat} (hB : FdB L J M i x) (hx : x ≠ 0) (zi zx : Int) (hzi : (i : Int) = zi) (hzx : (x : Int) = zx) (W : World) (ao aj an : Option Addr) (cap nl nj nn capj capn : Nat) (hl : L.length = nl) (hjl : J.length = nj) (hnl : M.length = nn) (h8 : L.length ≤ 8 ∧ J.length ≤ 8 ∧ M.length ≤ 8) (hwf : Wfc L) (hJ : ∀ z ∈ J, z < 4294967296) (hM : ∀ j, j < M.length → (M.getD j (.empty, 0)).2 < 4294967296)
    (hr : CRd W ao L W.heap.size) (hrJ : JRd W aj J W.heap.size) (hrN : NRd W an M W.heap.size) (hT : TabW W) (hp : 0 < W.heap.size) :
    Calls Tryd.prog 11 #[.slice ao nl cap, .slice aj nj capj, .slice an nn capn] W fun e w' => e = .returned (.tuple #[.pointer none, .int .i64 zi, .int .i64 zx]) ∧ Below W.heap.size W w' := by
  subst hl hjl hnl hzi hzx
  refine (find_any ao aj an cap capj capn L J M W (by omega) (by omega) (by omega) hwf hJ hM hr hrJ hrN hT hp).mono ?_
  rintro e w' ⟨hb, ⟨i', x', rfl, hx', hB'⟩ | ⟨B, pp, p1, g1, p2, g2, lv, A, C, rfl, _, _, _, _, _, hG⟩⟩
  · obtain ⟨rfl, rfl⟩ := fdB_det hB hx hB' hx'
    exact ⟨rfl, hb⟩
  · exact absurd (fdG_not hG hB) hx
set_option maxHeartbeats 4000000 in
theorem known_any (w : World) (hT : TabW w) (hp : 0 < w.heap.size) :
    Calls Tryd.prog 6 #[] w fun e w' => e = .returned (.bool true) ∧ Below w.heap.size w w' := by
  have hSm := small_any w hT hp
  have HTb : Hid (∀ W, Below w.heap.size w W → TabW W ∧ 0 < W.heap.size) := hidS (fun W hW => ⟨hT.below hW hp, Nat.lt_of_lt_of_le hp hW.size⟩)
  go_enter Tryd.func6, Tryd.ntmps6
  go_wp2_with fail
  refine hSm.mono ?_
  clear hSm
  rintro e w1 ⟨hb1, B, pp, p1, g1, p2, g2, lv, A, C, rfl, hP, hA, hC⟩
  have HT1 : Hid (TabW w1) := hidS (hT.below hb1 hp)
  have hE : isEn smL 0 = true := by decide +kernel
  have hl : smL.length ≤ 16384 := by decide
  obtain ⟨al, capl, hlv, _⟩ := hP.reads
  have HCT : Hid (∀ W, Below w1.heap.size w1 W → Calls Tryd.prog 12 #[.pointer (some ⟨pp, 0, none⟩)] W fun e w' => e = .returned (.int .i64 2) ∧ w' = W) := hidS (fun W hW => pcount_any pp 2 capl al W (hP.below hW).c0 ((hP.below hW).c1.trans (by rw [hlv]; rfl)))
  have HPR : Hid (Calls Tryd.prog 13 #[.pointer (some ⟨pp, 0, none⟩), .int .i64 1] w1 fun e w' => e = .returned (.tuple #[.agg #[.int .u32 3, .int .u32 8, .int .u32 4, .int .i64 0], .bool true]) ∧ Below w1.heap.size w1 w') := hidS (by
    have := pproc_in 1 w1 (by decide +kernel) hP
    rw [show (prL smL).getD 1 (0, 0, 0) = (3, 8, 4) by decide +kernel] at this
    exact this)
  have HO2 : Hid (∀ W, Below w1.heap.size w1 W → Calls Tryd.prog 14 #[.pointer (some ⟨pp, 0, none⟩), .int .u32 2] W fun e w' => e = .returned (.int .i64 (0)) ∧ Below W.heap.size W w') := hidS (fun W hW => by
    have := pof_any 2 W hl hE (hP.below hW)
    rw [show ofL smL 2 = 0 by decide +kernel] at this
    exact this)
  have HO8 : Hid (∀ W, Below w1.heap.size w1 W → Calls Tryd.prog 14 #[.pointer (some ⟨pp, 0, none⟩), .int .u32 8] W fun e w' => e = .returned (.int .i64 (-1)) ∧ Below W.heap.size W w') := hidS (fun W hW => by
    have := pof_any 8 W hl hE (hP.below hW)
    rw [show ofL smL 8 = -1 by decide +kernel] at this
    exact this)
  have HB3 : Hid (∀ W, Below w1.heap.size w1 W → Calls Tryd.prog 15 #[.pointer (some ⟨pp, 0, none⟩), .int .u32 3] W fun e w' => e = .returned (.bool true) ∧ w' = W) := hidS (fun W hW => by
    have := pbegins_any 3 W (by decide) (hP.below hW)
    rw [hA, show isEn smL 3 = true by decide +kernel] at this
    exact this)
  have HL56 : Hid (∀ W, Below w1.heap.size w1 W → Calls Tryd.prog 17 #[.pointer (some ⟨pp, 0, none⟩), .int .u32 5, .int .u32 6] W fun e w' => e = .returned (.bool true) ∧ Below W.heap.size W w') := hidS (fun W hW => by
    have := plegal_any 5 6 W (by decide) hl hE (hP.below hW)
    rw [hC, show (decide (6 ∈ [4, 6]) && (ofL smL 5 == ofL smL 6)) = true by decide +kernel] at this
    exact this)
  have HL16 : Hid (∀ W, Below w1.heap.size w1 W → Calls Tryd.prog 17 #[.pointer (some ⟨pp, 0, none⟩), .int .u32 1, .int .u32 6] W fun e w' => e = .returned (.bool false) ∧ Below W.heap.size W w') := hidS (fun W hW => by
    have := plegal_any 1 6 W (by decide) hl hE (hP.below hW)
    rw [hC, show (decide (6 ∈ [4, 6]) && (ofL smL 1 == ofL smL 6)) = false by decide +kernel] at this
    exact this)
  have HL55 : Hid (∀ W, Below w1.heap.size w1 W → Calls Tryd.prog 17 #[.pointer (some ⟨pp, 0, none⟩), .int .u32 5, .int .u32 5] W fun e w' => e = .returned (.bool false) ∧ Below W.heap.size W w') := hidS (fun W hW => by
    have := plegal_any 5 5 W (by decide) hl hE (hP.below hW)
    rw [hC, show (decide (5 ∈ [4, 6]) && (ofL smL 5 == ofL smL 5)) = false by decide +kernel] at this
    exact this)
  have HG1 : Hid (∀ W, Below w1.heap.size w1 W → Calls Tryd.prog 18 #[.pointer (some ⟨pp, 0, none⟩), .int .i64 1] W fun e w' => (∃ a c, e = .returned (.slice a 2 c)) ∧ Below W.heap.size W w') := hidS (fun W hW => by
    have := ptargets_in 1 W (by decide +kernel) (by decide) (by decide +kernel) (HT1.out.below hW (by have := hP.s1.ltp; omega)) (hP.below hW)
    rw [show (prL smL).getD 1 (0, 0, 0) = (3, 8, 4) by decide +kernel, show hasW C = fun y => decide (y ∈ [4, 6]) from funext hC, show (rng (fun y => decide (y ∈ [4, 6])) 3 8).length = 2 by decide +kernel] at this
    refine this.mono ?_
    rintro e w' ⟨v, rfl, ho, hb⟩
    refine ⟨?_, hb⟩
    rcases ho.2 with ⟨rfl, hz⟩ | ⟨g', cap', cur', rfl, _⟩
    · first | exact ⟨none, 0, rfl⟩ | cases hz
    · exact ⟨_, _, rfl⟩)
  have HG0 : Hid (∀ W, Below w1.heap.size w1 W → Calls Tryd.prog 18 #[.pointer (some ⟨pp, 0, none⟩), .int .i64 0] W fun e w' => (∃ a c, e = .returned (.slice a 0 c)) ∧ Below W.heap.size W w') := hidS (fun W hW => by
    have := ptargets_in 0 W (by decide +kernel) (by decide) (by decide +kernel) (HT1.out.below hW (by have := hP.s1.ltp; omega)) (hP.below hW)
    rw [show (prL smL).getD 0 (0, 0, 0) = (0, 3, 8) by decide +kernel, show hasW C = fun y => decide (y ∈ [4, 6]) from funext hC, show (rng (fun y => decide (y ∈ [4, 6])) 0 3).length = 0 by decide +kernel] at this
    refine this.mono ?_
    rintro e w' ⟨v, rfl, ho, hb⟩
    refine ⟨?_, hb⟩
    rcases ho.2 with ⟨rfl, hz⟩ | ⟨g', cap', cur', rfl, _⟩
    · first | exact ⟨none, 0, rfl⟩ | cases hz
    · exact ⟨_, _, rfl⟩)
  have HB1 := hidS hb1
  clear hP hA hC hlv hb1 hE hl
  have hbX : Below w1.heap.size w1 w1 := Below.refl _ _
  go_wp2_with (first
    | (go_at_call 13; with_reducible refine HPR.out.mono ?_; rintro e2 w2 ⟨rfl, hb2⟩; have hbX := belP (o := Obj.cells #[.int .u32 3, .int .u32 8, .int .u32 4, .int .i64 0] 43) (btP hbX hb2))
    | (go_at_call 12; with_reducible refine (HCT.out _ hbX).mono ?_; rintro e3 w3 ⟨rfl, hw3⟩; have hw3 := hw3.symm; subst hw3)
    | (go_at_call 14; with_reducible refine (HO2.out _ hbX).mono ?_; rintro e4 w4 ⟨rfl, hb4⟩; have hbX := btP hbX hb4)
    | (go_at_call 14; with_reducible refine (HO8.out _ hbX).mono ?_; rintro e5 w5 ⟨rfl, hb5⟩; have hbX := btP hbX hb5)
    | (go_at_call 15; with_reducible refine (HB3.out _ hbX).mono ?_; rintro e6 w6 ⟨rfl, hw6⟩; have hw6 := hw6.symm; subst hw6)
    | (go_at_call 17; with_reducible refine (HL56.out _ hbX).mono ?_; rintro e7 w7 ⟨rfl, hb7⟩; have hbX := btP hbX hb7)
    | (go_at_call 17; with_reducible refine (HL16.out _ hbX).mono ?_; rintro e8 w8 ⟨rfl, hb8⟩; have hbX := btP hbX hb8)
    | (go_at_call 17; with_reducible refine (HL55.out _ hbX).mono ?_; rintro e9 w9 ⟨rfl, hb9⟩; have hbX := btP hbX hb9)
    | (go_at_call 18; with_reducible refine (HG1.out _ hbX).mono ?_; rintro e10 w10 ⟨⟨ta, tc, rfl⟩, hb10⟩; have hbX := btP hbX hb10)
    | (go_at_call 18; with_reducible refine (HG0.out _ hbX).mono ?_; rintro e11 w11 ⟨⟨ua, uc, rfl⟩, hb11⟩; have hbX := btP hbX hb11))
  have hWX : Below w.heap.size w w11 := btP HB1.out hbX
  clear hbX HB1 HCT HPR HO2 HO8 HB3 HL56 HL16 HL55 HG1 HG0 HT1
  obtain ⟨kc, hkc⟩ : ∃ k, w11.heap.size = k := ⟨_, rfl⟩
  have hzX := hWX.size
  obtain ⟨WA, hWA⟩ : ∃ W, (w11.alloc (Obj.cells #[.int .u8 3, .int .u32 8, .int .u8 6, .int .u32 2, .int .u8 4, .int .u32 8, .int .u8 3, .int .u32 4, .int .u8 8, .int .u32 4, .int .u8 7, .int .u32 0, .int .u8 8, .int .u32 1, .int .u8 4, .int .u32 4] 48)).alloc (Obj.cells #[.int .u32 3] 32) = W := ⟨_, rfl⟩
  have hWX : Below w.heap.size w WA := by rw [← hWA]; exact belP (belP hWX)
  have oJ : WA.heap[w11.heap.size + 1]? = some (Obj.cells #[.int .u32 3] 32) := by
    have := heap_alloc_new (w11.alloc (Obj.cells #[.int .u8 3, .int .u32 8, .int .u8 6, .int .u32 2, .int .u8 4, .int .u32 8, .int .u8 3, .int .u32 4, .int .u8 8, .int .u32 4, .int .u8 7, .int .u32 0, .int .u8 8, .int .u32 1, .int .u8 4, .int .u32 4] 48)) (Obj.cells #[.int .u32 3] 32)
    rw [World.size_alloc] at this
    rw [← hWA]
    exact this
  have oC : WA.heap[w11.heap.size]? = some (Obj.cells #[.int .u8 3, .int .u32 8, .int .u8 6, .int .u32 2, .int .u8 4, .int .u32 8, .int .u8 3, .int .u32 4, .int .u8 8, .int .u32 4, .int .u8 7, .int .u32 0, .int .u8 8, .int .u32 1, .int .u8 4, .int .u32 4] 48) := by
    rw [← hWA, Below.heap_alloc _ _ _ (by simp)]
    exact heap_alloc_new _ _
  rw [hWA]
  rw [hkc] at oJ oC hzX ⊢
  clear hWA hkc
  refine (kfind k1B (by decide) 0 134 rfl rfl WA (some ⟨kc, 0, none⟩) (some ⟨kc + 1, 0, none⟩) none 8 8 1 0 1 0 rfl rfl rfl (by decide) (by unfold Wfc; decide) (by decide) (by decide) (crd_block oC k1L rfl) (jrd_block oJ [3] rfl) (nrd_nil _ _) (HTb.out WA hWX).1 (HTb.out WA hWX).2).mono ?_
  rintro e wA ⟨rfl, hbq⟩
  have oC := (hbq.block kc (Array.getElem?_eq_some_iff.1 oC).1).trans oC
  have hWX := btP hWX hbq
  clear oJ hbq
  go_wp2_with fail
  have hbn : Below wA.heap.size wA (wA.alloc (Obj.cells #[.int .u32 6, .int .u32 4] 32)) := belP (Below.refl _ _)
  have oJ := heap_alloc_new wA (Obj.cells #[.int .u32 6, .int .u32 4] 32)
  have oC := (hbn.block kc (Array.getElem?_eq_some_iff.1 oC).1).trans oC
  have hWX := btP hWX hbn
  refine (kfind k2B (by decide) 1 134 rfl rfl (wA.alloc (Obj.cells #[.int .u32 6, .int .u32 4] 32)) (some ⟨kc, 0, none⟩) (some ⟨wA.heap.size, 0, none⟩) none 8 8 2 0 2 0 rfl rfl rfl (by decide) (by unfold Wfc; decide) (by decide) (by decide) (crd_block oC k1L rfl) (jrd_block oJ [6, 4] rfl) (nrd_nil _ _) (HTb.out (wA.alloc (Obj.cells #[.int .u32 6, .int .u32 4] 32)) hWX).1 (HTb.out (wA.alloc (Obj.cells #[.int .u32 6, .int .u32 4] 32)) hWX).2).mono ?_
  rintro e wB ⟨rfl, hbq⟩
  have oC := (hbq.block kc (Array.getElem?_eq_some_iff.1 oC).1).trans oC
  have hWX := btP hWX hbq
  clear oJ hbq hbn
  go_wp2_with fail
  have hbn : Below wB.heap.size wB (wB.alloc (Obj.cells #[.string ⟨#[102]⟩, .int .u32 4] 61)) := belP (Below.refl _ _)
  have oJ := heap_alloc_new wB (Obj.cells #[.string ⟨#[102]⟩, .int .u32 4] 61)
  have oC := (hbn.block kc (Array.getElem?_eq_some_iff.1 oC).1).trans oC
  have hWX := btP hWX hbn
  refine (kfind k3B (by decide) 0 135 rfl rfl (wB.alloc (Obj.cells #[.string ⟨#[102]⟩, .int .u32 4] 61)) (some ⟨kc, 0, none⟩) none (some ⟨wB.heap.size, 0, none⟩) 8 8 0 1 0 1 rfl rfl rfl (by decide) (by unfold Wfc; decide) (by decide) (by decide) (crd_block oC k1L rfl) (jrd_nil _ _) (nrd_block oJ [(⟨#[102]⟩, 4)] rfl) (HTb.out (wB.alloc (Obj.cells #[.string ⟨#[102]⟩, .int .u32 4] 61)) hWX).1 (HTb.out (wB.alloc (Obj.cells #[.string ⟨#[102]⟩, .int .u32 4] 61)) hWX).2).mono ?_
  rintro e wC ⟨rfl, hbq⟩
  have oC := (hbq.block kc (Array.getElem?_eq_some_iff.1 oC).1).trans oC
  have hWX := btP hWX hbq
  clear oJ hbq hbn
  have cS := (obj_cell oC 3).trans rfl
  have fS := obj_frozen oC 3
  go_wp2_with fail
  have oC := (heap_setCell_same wC kc 3 _ _ (.int .u32 4) oC).trans rfl
  have oC : (wC.setCell ⟨kc, 3, none⟩ (.int .u32 4)).heap[kc]? = some (Obj.cells #[.int .u8 3, .int .u32 8, .int .u8 6, .int .u32 4, .int .u8 4, .int .u32 8, .int .u8 3, .int .u32 4, .int .u8 8, .int .u32 4, .int .u8 7, .int .u32 0, .int .u8 8, .int .u32 1, .int .u8 4, .int .u32 4] 48) := oC
  have hWX : Below w.heap.size w (wC.setCell ⟨kc, 3, none⟩ (.int .u32 4)) := hWX.setCell (p := ⟨kc, 3, none⟩) hzX _
  refine (kfind k4B (by decide) 1 132 rfl rfl (wC.setCell ⟨kc, 3, none⟩ (.int .u32 4)) (some ⟨kc, 0, none⟩) none none 8 8 0 0 0 0 rfl rfl rfl (by decide) (by unfold Wfc; decide) (by decide) (by decide) (crd_block oC k4L rfl) (jrd_nil _ _) (nrd_nil _ _) (HTb.out (wC.setCell ⟨kc, 3, none⟩ (.int .u32 4)) hWX).1 (HTb.out (wC.setCell ⟨kc, 3, none⟩ (.int .u32 4)) hWX).2).mono ?_
  rintro e wD ⟨rfl, hbq⟩
  have oC := (hbq.block kc (Array.getElem?_eq_some_iff.1 oC).1).trans oC
  have hWX := btP hWX hbq
  clear hbq cS fS
  have cS := (obj_cell oC 3).trans rfl
  have fS := obj_frozen oC 3
  go_wp2_with fail
  have oC := (heap_setCell_same wD kc 3 _ _ (.int .u32 0) oC).trans rfl
  have oC : (wD.setCell ⟨kc, 3, none⟩ (.int .u32 0)).heap[kc]? = some (Obj.cells #[.int .u8 3, .int .u32 8, .int .u8 6, .int .u32 0, .int .u8 4, .int .u32 8, .int .u8 3, .int .u32 4, .int .u8 8, .int .u32 4, .int .u8 7, .int .u32 0, .int .u8 8, .int .u32 1, .int .u8 4, .int .u32 4] 48) := oC
  have hWX : Below w.heap.size w (wD.setCell ⟨kc, 3, none⟩ (.int .u32 0)) := hWX.setCell (p := ⟨kc, 3, none⟩) hzX _
  refine (kfind k5B (by decide) 1 132 rfl rfl (wD.setCell ⟨kc, 3, none⟩ (.int .u32 0)) (some ⟨kc, 0, none⟩) none none 8 8 0 0 0 0 rfl rfl rfl (by decide) (by unfold Wfc; decide) (by decide) (by decide) (crd_block oC k5L rfl) (jrd_nil _ _) (nrd_nil _ _) (HTb.out (wD.setCell ⟨kc, 3, none⟩ (.int .u32 0)) hWX).1 (HTb.out (wD.setCell ⟨kc, 3, none⟩ (.int .u32 0)) hWX).2).mono ?_
  rintro e wE ⟨rfl, hbq⟩
  have oC := (hbq.block kc (Array.getElem?_eq_some_iff.1 oC).1).trans oC
  have hWX := btP hWX hbq
  clear hbq cS fS
  have cS := (obj_cell oC 3).trans rfl
  have fS := obj_frozen oC 3
  have oV := (heap_setCell_same wE kc 3 _ _ (.int .u32 2) oC).trans rfl
  have oV : (wE.setCell ⟨kc, 3, none⟩ (.int .u32 2)).heap[kc]? = some (Obj.cells #[.int .u8 3, .int .u32 8, .int .u8 6, .int .u32 2, .int .u8 4, .int .u32 8, .int .u8 3, .int .u32 4, .int .u8 8, .int .u32 4, .int .u8 7, .int .u32 0, .int .u8 8, .int .u32 1, .int .u8 4, .int .u32 4] 48) := oV
  have cV4 := (obj_cell oV 4).trans rfl
  have fV4 := obj_frozen oV 4
  have cV5 := (obj_cell oV 5).trans rfl
  have fV5 := obj_frozen oV 5
  go_wp2_with fail
  have oC := (heap_setCell_same wE kc 3 _ _ (.int .u32 2) oC).trans rfl
  have oC : (wE.setCell ⟨kc, 3, none⟩ (.int .u32 2)).heap[kc]? = some (Obj.cells #[.int .u8 3, .int .u32 8, .int .u8 6, .int .u32 2, .int .u8 4, .int .u32 8, .int .u8 3, .int .u32 4, .int .u8 8, .int .u32 4, .int .u8 7, .int .u32 0, .int .u8 8, .int .u32 1, .int .u8 4, .int .u32 4] 48) := oC
  have hWX : Below w.heap.size w (wE.setCell ⟨kc, 3, none⟩ (.int .u32 2)) := hWX.setCell (p := ⟨kc, 3, none⟩) hzX _
  have oC := (heap_setCell_same (wE.setCell ⟨kc, 3, none⟩ (.int .u32 2)) kc 4 _ _ (.int .u8 8) oC).trans rfl
  have oC : ((wE.setCell ⟨kc, 3, none⟩ (.int .u32 2)).setCell ⟨kc, 4, none⟩ (.int .u8 8)).heap[kc]? = some (Obj.cells #[.int .u8 3, .int .u32 8, .int .u8 6, .int .u32 2, .int .u8 8, .int .u32 8, .int .u8 3, .int .u32 4, .int .u8 8, .int .u32 4, .int .u8 7, .int .u32 0, .int .u8 8, .int .u32 1, .int .u8 4, .int .u32 4] 48) := oC
  have hWX : Below w.heap.size w ((wE.setCell ⟨kc, 3, none⟩ (.int .u32 2)).setCell ⟨kc, 4, none⟩ (.int .u8 8)) := hWX.setCell (p := ⟨kc, 4, none⟩) hzX _
  have oC := (heap_setCell_same ((wE.setCell ⟨kc, 3, none⟩ (.int .u32 2)).setCell ⟨kc, 4, none⟩ (.int .u8 8)) kc 5 _ _ (.int .u32 1) oC).trans rfl
  have oC : (((wE.setCell ⟨kc, 3, none⟩ (.int .u32 2)).setCell ⟨kc, 4, none⟩ (.int .u8 8)).setCell ⟨kc, 5, none⟩ (.int .u32 1)).heap[kc]? = some (Obj.cells #[.int .u8 3, .int .u32 8, .int .u8 6, .int .u32 2, .int .u8 8, .int .u32 1, .int .u8 3, .int .u32 4, .int .u8 8, .int .u32 4, .int .u8 7, .int .u32 0, .int .u8 8, .int .u32 1, .int .u8 4, .int .u32 4] 48) := oC
  have hWX : Below w.heap.size w (((wE.setCell ⟨kc, 3, none⟩ (.int .u32 2)).setCell ⟨kc, 4, none⟩ (.int .u8 8)).setCell ⟨kc, 5, none⟩ (.int .u32 1)) := hWX.setCell (p := ⟨kc, 5, none⟩) hzX _
  refine (kfind k6B (by decide) 2 133 rfl rfl (((wE.setCell ⟨kc, 3, none⟩ (.int .u32 2)).setCell ⟨kc, 4, none⟩ (.int .u8 8)).setCell ⟨kc, 5, none⟩ (.int .u32 1)) (some ⟨kc, 0, none⟩) none none 8 8 0 0 0 0 rfl rfl rfl (by decide) (by unfold Wfc; decide) (by decide) (by decide) (crd_block oC k6L rfl) (jrd_nil _ _) (nrd_nil _ _) (HTb.out (((wE.setCell ⟨kc, 3, none⟩ (.int .u32 2)).setCell ⟨kc, 4, none⟩ (.int .u8 8)).setCell ⟨kc, 5, none⟩ (.int .u32 1)) hWX).1 (HTb.out (((wE.setCell ⟨kc, 3, none⟩ (.int .u32 2)).setCell ⟨kc, 4, none⟩ (.int .u8 8)).setCell ⟨kc, 5, none⟩ (.int .u32 1)) hWX).2).mono ?_
  rintro e wF ⟨rfl, hbq⟩
  have oC := (hbq.block kc (Array.getElem?_eq_some_iff.1 oC).1).trans oC
  have hWX := btP hWX hbq
  clear hbq cS fS oV cV4 fV4 cV5 fV5
  have cV4 := (obj_cell oC 4).trans rfl
  have fV4 := obj_frozen oC 4
  have cV5 := (obj_cell oC 5).trans rfl
  have fV5 := obj_frozen oC 5
  go_wp2_with fail
  have oC := (heap_setCell_same wF kc 4 _ _ (.int .u8 4) oC).trans rfl
  have oC : (wF.setCell ⟨kc, 4, none⟩ (.int .u8 4)).heap[kc]? = some (Obj.cells #[.int .u8 3, .int .u32 8, .int .u8 6, .int .u32 2, .int .u8 4, .int .u32 1, .int .u8 3, .int .u32 4, .int .u8 8, .int .u32 4, .int .u8 7, .int .u32 0, .int .u8 8, .int .u32 1, .int .u8 4, .int .u32 4] 48) := oC
  have hWX : Below w.heap.size w (wF.setCell ⟨kc, 4, none⟩ (.int .u8 4)) := hWX.setCell (p := ⟨kc, 4, none⟩) hzX _
  have oC := (heap_setCell_same (wF.setCell ⟨kc, 4, none⟩ (.int .u8 4)) kc 5 _ _ (.int .u32 4) oC).trans rfl
  have oC : ((wF.setCell ⟨kc, 4, none⟩ (.int .u8 4)).setCell ⟨kc, 5, none⟩ (.int .u32 4)).heap[kc]? = some (Obj.cells #[.int .u8 3, .int .u32 8, .int .u8 6, .int .u32 2, .int .u8 4, .int .u32 4, .int .u8 3, .int .u32 4, .int .u8 8, .int .u32 4, .int .u8 7, .int .u32 0, .int .u8 8, .int .u32 1, .int .u8 4, .int .u32 4] 48) := oC
  have hWX : Below w.heap.size w ((wF.setCell ⟨kc, 4, none⟩ (.int .u8 4)).setCell ⟨kc, 5, none⟩ (.int .u32 4)) := hWX.setCell (p := ⟨kc, 5, none⟩) hzX _
  refine (kfind k7B (by decide) 2 131 rfl rfl ((wF.setCell ⟨kc, 4, none⟩ (.int .u8 4)).setCell ⟨kc, 5, none⟩ (.int .u32 4)) (some ⟨kc, 0, none⟩) none none 8 8 0 0 0 0 rfl rfl rfl (by decide) (by unfold Wfc; decide) (by decide) (by decide) (crd_block oC k7L rfl) (jrd_nil _ _) (nrd_nil _ _) (HTb.out ((wF.setCell ⟨kc, 4, none⟩ (.int .u8 4)).setCell ⟨kc, 5, none⟩ (.int .u32 4)) hWX).1 (HTb.out ((wF.setCell ⟨kc, 4, none⟩ (.int .u8 4)).setCell ⟨kc, 5, none⟩ (.int .u32 4)) hWX).2).mono ?_
  rintro e wG ⟨rfl, hbq⟩
  have hWX := btP hWX hbq
  clear hbq oC cV4 fV4 cV5 fV5
  go_wp2_with fail
  refine (kfind k8B (by decide) 0 130 rfl rfl wG none none none 0 0 0 0 0 0 rfl rfl rfl (by decide) (by unfold Wfc; decide) (by decide) (by decide) (fun h => absurd h (by simp)) (jrd_nil _ _) (nrd_nil _ _) (HTb.out wG hWX).1 (HTb.out wG hWX).2).mono ?_
  rintro e wH ⟨rfl, hbq⟩
  have hWX := btP hWX hbq
  clear hbq
  go_wp2_with fail
  go_ret
  exact ⟨rfl, hWX⟩
end Go.Proofs.YtihnkeflcnndpaaDoor
