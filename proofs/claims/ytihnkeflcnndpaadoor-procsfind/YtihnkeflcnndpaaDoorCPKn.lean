import Derived.Test.YtihnkeflcnndpaaDoorCPSm
import Derived.Test.YtihnkeflcnndpaaDoorCPTg
import Derived.Test.YtihnkeflcnndpaaDoorCQWk
import Derived.Test.YtihnkeflcnndpaaDoorCQAn
import Derived.Test.YtihnkeflcnndpaaDoorCQKep
import Derived.Test.YtihnkeflcnndpaaDoorQApW
import Derived.Test.YtihnkeflcnndpaaDoorCQRa
namespace Go.Proofs.YtihnkeflcnndpaaDoor
open Go.RowKit Go.WideShapes Go.Shelf
set_option maxRecDepth 100000

abbrev k1L : List (Nat × Nat) := [(3, 8), (6, 2), (4, 8), (3, 4), (8, 4), (7, 0), (8, 1), (4, 4)]
abbrev k4L : List (Nat × Nat) := [(3, 8), (6, 4), (4, 8), (3, 4), (8, 4), (7, 0), (8, 1), (4, 4)]
abbrev k5L : List (Nat × Nat) := [(3, 8), (6, 0), (4, 8), (3, 4), (8, 4), (7, 0), (8, 1), (4, 4)]
abbrev k6L : List (Nat × Nat) := [(3, 8), (6, 2), (8, 1), (3, 4), (8, 4), (7, 0), (8, 1), (4, 4)]
abbrev k7L : List (Nat × Nat) := [(3, 8), (6, 2), (4, 4), (3, 4), (8, 4), (7, 0), (8, 1), (4, 4)]
theorem k1C : CkR k1L (prL k1L) 0 0 := .inl ⟨rfl, rfl, ckAll_ok (by decide +kernel)⟩
theorem k1B : FdB k1L [3] [] 0 134 := .inr (.inr (.inr (.inl ⟨by decide +kernel, by decide +kernel, k1C, .inr ⟨rfl, by decide, by decide +kernel, fun j hj => absurd hj (by omega)⟩⟩)))
theorem k2B : FdB k1L [6, 4] [] 1 134 := .inr (.inr (.inr (.inl ⟨by decide +kernel, by decide +kernel, k1C, .inr ⟨rfl, by decide, by decide +kernel, fun j hj => by
  have : ∀ j, j < 1 → okJ k1L [6, 4] j = true := by decide +kernel
  exact this j hj⟩⟩)))
theorem k3B : FdB k1L [] [(⟨#[102]⟩, 4)] 0 135 := .inr (.inr (.inr (.inr ⟨by decide +kernel, by decide +kernel, k1C, .inl ⟨rfl, rfl, fun j hj => absurd hj (by simp)⟩, .inr ⟨rfl, by decide, by decide +kernel, fun j hj => absurd hj (by omega)⟩⟩)))
theorem k4B : FdB k4L [] [] 1 132 := .inr (.inr (.inl ⟨by decide +kernel, by decide +kernel, .inr ⟨by decide, 0, by decide +kernel, by decide +kernel, by decide +kernel, by decide +kernel, fun j _ h2 => by
  have : ∀ j, j < 1 → errP k4L ((prL k4L).getD 0 (0, 0, 0)) j = 0 := by decide +kernel
  exact this j h2, fun q hq => absurd hq (by omega)⟩⟩))
theorem k5B : FdB k5L [] [] 1 132 := .inr (.inr (.inl ⟨by decide +kernel, by decide +kernel, .inr ⟨by decide, 0, by decide +kernel, by decide +kernel, by decide +kernel, by decide +kernel, fun j _ h2 => by
  have : ∀ j, j < 1 → errP k5L ((prL k5L).getD 0 (0, 0, 0)) j = 0 := by decide +kernel
  exact this j h2, fun q hq => absurd hq (by omega)⟩⟩))
theorem k6B : FdB k6L [] [] 2 133 := .inr (.inr (.inl ⟨by decide +kernel, by decide +kernel, .inr ⟨by decide, 0, by decide +kernel, by decide +kernel, by decide +kernel, by decide +kernel, fun j _ h2 => by
  have : ∀ j, j < 2 → errP k6L ((prL k6L).getD 0 (0, 0, 0)) j = 0 := by decide +kernel
  exact this j h2, fun q hq => absurd hq (by omega)⟩⟩))
theorem k7B : FdB k7L [] [] 2 131 := .inr (.inr (.inl ⟨by decide +kernel, by decide +kernel, .inr ⟨by decide, 0, by decide +kernel, by decide +kernel, by decide +kernel, by decide +kernel, fun j _ h2 => by
  have : ∀ j, j < 2 → errP k7L ((prL k7L).getD 0 (0, 0, 0)) j = 0 := by decide +kernel
  exact this j h2, fun q hq => absurd hq (by omega)⟩⟩))
theorem k8B : FdB [] [] [] 0 130 := .inr (.inl ⟨by decide +kernel, by decide +kernel, rfl, rfl⟩)
theorem jrd_nil (W : World) (B : Nat) : JRd W none [] B := fun h => absurd h (by simp)
theorem nrd_nil (W : World) (B : Nat) : NRd W none [] B := fun h => absurd h (by simp)
/-- Find of code that may not be -/
theorem kfind {L : List (Nat × Nat)} {J : List Nat} {M : List (ByteArray × Nat)} {i x : Nat} (hB : FdB L J M i x) (hx : x ≠ 0) (zi zx : Int) (hzi : (i : Int) = zi) (hzx : (x : Int) = zx) (W : World) (ao aj an : Option Addr) (cap nl nj nn capj capn : Nat) (hl : L.length = nl) (hjl : J.length = nj) (hnl : M.length = nn) (h8 : L.length ≤ 8 ∧ J.length ≤ 8 ∧ M.length ≤ 8) (hwf : Wfc L) (hJ : ∀ z ∈ J, z < 4294967296) (hM : ∀ j, j < M.length → (M.getD j (.empty, 0)).2 < 4294967296)
    (hr : CRd W ao L W.heap.size) (hrJ : JRd W aj J W.heap.size) (hrN : NRd W an M W.heap.size) (hT : TabW W) (hp : 0 < W.heap.size) :
    Calls Tryd.prog 11 #[.slice ao nl cap, .slice aj nj capj, .slice an nn capn] W fun e w' => e = .returned (.tuple #[.pointer none, .int .i64 zi, .int .i64 zx]) ∧ Below W.heap.size W w' := by
  subst hl hjl hnl hzi hzx
  refine (find_any ao aj an cap capj capn L J M W (by omega) (by omega) (by omega) hwf hJ hM hr hrJ hrN hT hp).mono ?_
  rintro e w' ⟨hb, ⟨i', x', rfl, hx', hB'⟩ | ⟨B, pp, p1, g1, p2, g2, lv, A, C, rfl, _, _, _, _, _, hG⟩⟩
  · obtain ⟨rfl, rfl⟩ := fdB_det hB hx hB' hx'
    exact ⟨rfl, hb⟩
  · exact absurd (fdG_not hG hB) hx
set_option maxHeartbeats 4000000 in
theorem known_any (w : World) (hT : TabW w) (hp : 0 < w.heap.size) :
    Calls Tryd.prog 6 #[] w fun e w' => e = .returned (.bool true) ∧ Below w.heap.size w w' := by
  have hSm := small_any w hT hp
  have HTb : Hid (∀ W, Below w.heap.size w W → TabW W ∧ 0 < W.heap.size) := hidS (fun W hW => ⟨hT.below hW hp, Nat.lt_of_lt_of_le hp hW.size⟩)
  go_enter Tryd.func6, Tryd.ntmps6
  go_wp2_with fail
  refine hSm.mono ?_
  clear hSm
  rintro e w1 ⟨hb1, B, pp, p1, g1, p2, g2, lv, A, C, rfl, hP, hA, hC⟩
  have HT1 : Hid (TabW w1) := hidS (hT.below hb1 hp)
  have hE : isEn smL 0 = true := by decide +kernel
  have hl : smL.length ≤ 16384 := by decide
  obtain ⟨al, capl, hlv, _⟩ := hP.reads
  have HCT : Hid (∀ W, Below w1.heap.size w1 W → Calls Tryd.prog 12 #[.pointer (some ⟨pp, 0, none⟩)] W fun e w' => e = .returned (.int .i64 2) ∧ w' = W) := hidS (fun W hW => pcount_any pp 2 capl al W (hP.below hW).c0 ((hP.below hW).c1.trans (by rw [hlv]; rfl)))
  have HPR : Hid (Calls Tryd.prog 13 #[.pointer (some ⟨pp, 0, none⟩), .int .i64 1] w1 fun e w' => e = .returned (.tuple #[.agg #[.int .u32 3, .int .u32 8, .int .u32 4, .int .i64 0], .bool true]) ∧ Below w1.heap.size w1 w') := hidS (by
    have := pproc_in 1 w1 (by decide +kernel) hP
    rw [show (prL smL).getD 1 (0, 0, 0) = (3, 8, 4) by decide +kernel] at this
    exact this)
  have HO2 : Hid (∀ W, Below w1.heap.size w1 W → Calls Tryd.prog 14 #[.pointer (some ⟨pp, 0, none⟩), .int .u32 2] W fun e w' => e = .returned (.int .i64 (0)) ∧ Below W.heap.size W w') := hidS (fun W hW => by
    have := pof_any 2 W hl hE (hP.below hW)
    rw [show ofL smL 2 = 0 by decide +kernel] at this
    exact this)
  have HO8 : Hid (∀ W, Below w1.heap.size w1 W → Calls Tryd.prog 14 #[.pointer (some ⟨pp, 0, none⟩), .int .u32 8] W fun e w' => e = .returned (.int .i64 (-1)) ∧ Below W.heap.size W w') := hidS (fun W hW => by
    have := pof_any 8 W hl hE (hP.below hW)
    rw [show ofL smL 8 = -1 by decide +kernel] at this
    exact this)
  have HB3 : Hid (∀ W, Below w1.heap.size w1 W → Calls Tryd.prog 15 #[.pointer (some ⟨pp, 0, none⟩), .int .u32 3] W fun e w' => e = .returned (.bool true) ∧ w' = W) := hidS (fun W hW => by
    have := pbegins_any 3 W (by decide) (hP.below hW)
    rw [hA, show isEn smL 3 = true by decide +kernel] at this
    exact this)
  have HL56 : Hid (∀ W, Below w1.heap.size w1 W → Calls Tryd.prog 17 #[.pointer (some ⟨pp, 0, none⟩), .int .u32 5, .int .u32 6] W fun e w' => e = .returned (.bool true) ∧ Below W.heap.size W w') := hidS (fun W hW => by
    have := plegal_any 5 6 W (by decide) hl hE (hP.below hW)
    rw [hC, show (decide (6 ∈ [4, 6]) && (ofL smL 5 == ofL smL 6)) = true by decide +kernel] at this
    exact this)
  have HL16 : Hid (∀ W, Below w1.heap.size w1 W → Calls Tryd.prog 17 #[.pointer (some ⟨pp, 0, none⟩), .int .u32 1, .int .u32 6] W fun e w' => e = .returned (.bool false) ∧ Below W.heap.size W w') := hidS (fun W hW => by
    have := plegal_any 1 6 W (by decide) hl hE (hP.below hW)
    rw [hC, show (decide (6 ∈ [4, 6]) && (ofL smL 1 == ofL smL 6)) = false by decide +kernel] at this
    exact this)
  have HL55 : Hid (∀ W, Below w1.heap.size w1 W → Calls Tryd.prog 17 #[.pointer (some ⟨pp, 0, none⟩), .int .u32 5, .int .u32 5] W fun e w' => e = .returned (.bool false) ∧ Below W.heap.size W w') := hidS (fun W hW => by
    have := plegal_any 5 5 W (by decide) hl hE (hP.below hW)
    rw [hC, show (decide (5 ∈ [4, 6]) && (ofL smL 5 == ofL smL 5)) = false by decide +kernel] at this
    exact this)
  have HG1 : Hid (∀ W, Below w1.heap.size w1 W → Calls Tryd.prog 18 #[.pointer (some ⟨pp, 0, none⟩), .int .i64 1] W fun e w' => (∃ a c, e = .returned (.slice a 2 c)) ∧ Below W.heap.size W w') := hidS (fun W hW => by
    have := ptargets_in 1 W (by decide +kernel) (by decide) (by decide +kernel) (HT1.out.below hW (by have := hP.s1.ltp; omega)) (hP.below hW)
    rw [show (prL smL).getD 1 (0, 0, 0) = (3, 8, 4) by decide +kernel, show hasW C = fun y => decide (y ∈ [4, 6]) from funext hC, show (rng (fun y => decide (y ∈ [4, 6])) 3 8).length = 2 by decide +kernel] at this
    refine this.mono ?_
    rintro e w' ⟨v, rfl, ho, hb⟩
    refine ⟨?_, hb⟩
    rcases ho.2 with ⟨rfl, hz⟩ | ⟨g', cap', cur', rfl, _⟩
    · first | exact ⟨none, 0, rfl⟩ | cases hz
    · exact ⟨_, _, rfl⟩)
  have HG0 : Hid (∀ W, Below w1.heap.size w1 W → Calls Tryd.prog 18 #[.pointer (some ⟨pp, 0, none⟩), .int .i64 0] W fun e w' => (∃ a c, e = .returned (.slice a 0 c)) ∧ Below W.heap.size W w') := hidS (fun W hW => by
    have := ptargets_in 0 W (by decide +kernel) (by decide) (by decide +kernel) (HT1.out.below hW (by have := hP.s1.ltp; omega)) (hP.below hW)
    rw [show (prL smL).getD 0 (0, 0, 0) = (0, 3, 8) by decide +kernel, show hasW C = fun y => decide (y ∈ [4, 6]) from funext hC, show (rng (fun y => decide (y ∈ [4, 6])) 0 3).length = 0 by decide +kernel] at this
    refine this.mono ?_
    rintro e w' ⟨v, rfl, ho, hb⟩
    refine ⟨?_, hb⟩
    rcases ho.2 with ⟨rfl, hz⟩ | ⟨g', cap', cur', rfl, _⟩
    · first | exact ⟨none, 0, rfl⟩ | cases hz
    · exact ⟨_, _, rfl⟩)
  have HB1 := hidS hb1
  clear hP hA hC hlv hb1 hE hl
  have hbX : Below w1.heap.size w1 w1 := Below.refl _ _
  go_wp2_with (first
    | (go_at_call 13; with_reducible refine HPR.out.mono ?_; rintro e2 w2 ⟨rfl, hb2⟩; have hbX := belP (o := Obj.cells #[.int .u32 3, .int .u32 8, .int .u32 4, .int .i64 0] 43) (btP hbX hb2))
    | (go_at_call 12; with_reducible refine (HCT.out _ hbX).mono ?_; rintro e3 w3 ⟨rfl, hw3⟩; have hw3 := hw3.symm; subst hw3)
    | (go_at_call 14; with_reducible refine (HO2.out _ hbX).mono ?_; rintro e4 w4 ⟨rfl, hb4⟩; have hbX := btP hbX hb4)
    | (go_at_call 14; with_reducible refine (HO8.out _ hbX).mono ?_; rintro e5 w5 ⟨rfl, hb5⟩; have hbX := btP hbX hb5)
    | (go_at_call 15; with_reducible refine (HB3.out _ hbX).mono ?_; rintro e6 w6 ⟨rfl, hw6⟩; have hw6 := hw6.symm; subst hw6)
    | (go_at_call 17; with_reducible refine (HL56.out _ hbX).mono ?_; rintro e7 w7 ⟨rfl, hb7⟩; have hbX := btP hbX hb7)
    | (go_at_call 17; with_reducible refine (HL16.out _ hbX).mono ?_; rintro e8 w8 ⟨rfl, hb8⟩; have hbX := btP hbX hb8)
    | (go_at_call 17; with_reducible refine (HL55.out _ hbX).mono ?_; rintro e9 w9 ⟨rfl, hb9⟩; have hbX := btP hbX hb9)
    | (go_at_call 18; with_reducible refine (HG1.out _ hbX).mono ?_; rintro e10 w10 ⟨⟨ta, tc, rfl⟩, hb10⟩; have hbX := btP hbX hb10)
    | (go_at_call 18; with_reducible refine (HG0.out _ hbX).mono ?_; rintro e11 w11 ⟨⟨ua, uc, rfl⟩, hb11⟩; have hbX := btP hbX hb11))
  have hWX : Below w.heap.size w w11 := btP HB1.out hbX
  clear hbX HB1 HCT HPR HO2 HO8 HB3 HL56 HL16 HL55 HG1 HG0 HT1
  obtain ⟨kc, hkc⟩ : ∃ k, w11.heap.size = k := ⟨_, rfl⟩
  have hzX := hWX.size
  obtain ⟨WA, hWA⟩ : ∃ W, (w11.alloc (Obj.cells #[.int .u8 3, .int .u32 8, .int .u8 6, .int .u32 2, .int .u8 4, .int .u32 8, .int .u8 3, .int .u32 4, .int .u8 8, .int .u32 4, .int .u8 7, .int .u32 0, .int .u8 8, .int .u32 1, .int .u8 4, .int .u32 4] 48)).alloc (Obj.cells #[.int .u32 3] 32) = W := ⟨_, rfl⟩
  have hWX : Below w.heap.size w WA := by rw [← hWA]; exact belP (belP hWX)
  have oJ : WA.heap[w11.heap.size + 1]? = some (Obj.cells #[.int .u32 3] 32) := by
    have := heap_alloc_new (w11.alloc (Obj.cells #[.int .u8 3, .int .u32 8, .int .u8 6, .int .u32 2, .int .u8 4, .int .u32 8, .int .u8 3, .int .u32 4, .int .u8 8, .int .u32 4, .int .u8 7, .int .u32 0, .int .u8 8, .int .u32 1, .int .u8 4, .int .u32 4] 48)) (Obj.cells #[.int .u32 3] 32)
    rw [World.size_alloc] at this
    rw [← hWA]
    exact this
  have oC : WA.heap[w11.heap.size]? = some (Obj.cells #[.int .u8 3, .int .u32 8, .int .u8 6, .int .u32 2, .int .u8 4, .int .u32 8, .int .u8 3, .int .u32 4, .int .u8 8, .int .u32 4, .int .u8 7, .int .u32 0, .int .u8 8, .int .u32 1, .int .u8 4, .int .u32 4] 48) := by
    rw [← hWA, Below.heap_alloc _ _ _ (by simp)]
    exact heap_alloc_new _ _
  rw [hWA]
  rw [hkc] at oJ oC hzX ⊢
  clear hWA hkc
  refine (kfind k1B (by decide) 0 134 rfl rfl WA (some ⟨kc, 0, none⟩) (some ⟨kc + 1, 0, none⟩) none 8 8 1 0 1 0 rfl rfl rfl (by decide) (by unfold Wfc; decide) (by decide) (by decide) (crd_block oC k1L rfl) (jrd_block oJ [3] rfl) (nrd_nil _ _) (HTb.out WA hWX).1 (HTb.out WA hWX).2).mono ?_
  rintro e wA ⟨rfl, hbq⟩
  have oC := (hbq.block kc (Array.getElem?_eq_some_iff.1 oC).1).trans oC
  have hWX := btP hWX hbq
  clear oJ hbq
  go_wp2_with fail
  have hbn : Below wA.heap.size wA (wA.alloc (Obj.cells #[.int .u32 6, .int .u32 4] 32)) := belP (Below.refl _ _)
  have oJ := heap_alloc_new wA (Obj.cells #[.int .u32 6, .int .u32 4] 32)
  have oC := (hbn.block kc (Array.getElem?_eq_some_iff.1 oC).1).trans oC
  have hWX := btP hWX hbn
  refine (kfind k2B (by decide) 1 134 rfl rfl (wA.alloc (Obj.cells #[.int .u32 6, .int .u32 4] 32)) (some ⟨kc, 0, none⟩) (some ⟨wA.heap.size, 0, none⟩) none 8 8 2 0 2 0 rfl rfl rfl (by decide) (by unfold Wfc; decide) (by decide) (by decide) (crd_block oC k1L rfl) (jrd_block oJ [6, 4] rfl) (nrd_nil _ _) (HTb.out (wA.alloc (Obj.cells #[.int .u32 6, .int .u32 4] 32)) hWX).1 (HTb.out (wA.alloc (Obj.cells #[.int .u32 6, .int .u32 4] 32)) hWX).2).mono ?_
  rintro e wB ⟨rfl, hbq⟩
  have oC := (hbq.block kc (Array.getElem?_eq_some_iff.1 oC).1).trans oC
  have hWX := btP hWX hbq
  clear oJ hbq hbn
  go_wp2_with fail
  have hbn : Below wB.heap.size wB (wB.alloc (Obj.cells #[.string ⟨#[102]⟩, .int .u32 4] 61)) := belP (Below.refl _ _)
  have oJ := heap_alloc_new wB (Obj.cells #[.string ⟨#[102]⟩, .int .u32 4] 61)
  have oC := (hbn.block kc (Array.getElem?_eq_some_iff.1 oC).1).trans oC
  have hWX := btP hWX hbn
  refine (kfind k3B (by decide) 0 135 rfl rfl (wB.alloc (Obj.cells #[.string ⟨#[102]⟩, .int .u32 4] 61)) (some ⟨kc, 0, none⟩) none (some ⟨wB.heap.size, 0, none⟩) 8 8 0 1 0 1 rfl rfl rfl (by decide) (by unfold Wfc; decide) (by decide) (by decide) (crd_block oC k1L rfl) (jrd_nil _ _) (nrd_block oJ [(⟨#[102]⟩, 4)] rfl) (HTb.out (wB.alloc (Obj.cells #[.string ⟨#[102]⟩, .int .u32 4] 61)) hWX).1 (HTb.out (wB.alloc (Obj.cells #[.string ⟨#[102]⟩, .int .u32 4] 61)) hWX).2).mono ?_
  rintro e wC ⟨rfl, hbq⟩
  have oC := (hbq.block kc (Array.getElem?_eq_some_iff.1 oC).1).trans oC
  have hWX := btP hWX hbq
  clear oJ hbq hbn
  have cS := (obj_cell oC 3).trans rfl
  have fS := obj_frozen oC 3
  go_wp2_with fail
  have oC := (heap_setCell_same wC kc 3 _ _ (.int .u32 4) oC).trans rfl
  have oC : (wC.setCell ⟨kc, 3, none⟩ (.int .u32 4)).heap[kc]? = some (Obj.cells #[.int .u8 3, .int .u32 8, .int .u8 6, .int .u32 4, .int .u8 4, .int .u32 8, .int .u8 3, .int .u32 4, .int .u8 8, .int .u32 4, .int .u8 7, .int .u32 0, .int .u8 8, .int .u32 1, .int .u8 4, .int .u32 4] 48) := oC
  have hWX : Below w.heap.size w (wC.setCell ⟨kc, 3, none⟩ (.int .u32 4)) := hWX.setCell (p := ⟨kc, 3, none⟩) hzX _
  refine (kfind k4B (by decide) 1 132 rfl rfl (wC.setCell ⟨kc, 3, none⟩ (.int .u32 4)) (some ⟨kc, 0, none⟩) none none 8 8 0 0 0 0 rfl rfl rfl (by decide) (by unfold Wfc; decide) (by decide) (by decide) (crd_block oC k4L rfl) (jrd_nil _ _) (nrd_nil _ _) (HTb.out (wC.setCell ⟨kc, 3, none⟩ (.int .u32 4)) hWX).1 (HTb.out (wC.setCell ⟨kc, 3, none⟩ (.int .u32 4)) hWX).2).mono ?_
  rintro e wD ⟨rfl, hbq⟩
  have oC := (hbq.block kc (Array.getElem?_eq_some_iff.1 oC).1).trans oC
  have hWX := btP hWX hbq
  clear hbq cS fS
  have cS := (obj_cell oC 3).trans rfl
  have fS := obj_frozen oC 3
  go_wp2_with fail
  have oC := (heap_setCell_same wD kc 3 _ _ (.int .u32 0) oC).trans rfl
  have oC : (wD.setCell ⟨kc, 3, none⟩ (.int .u32 0)).heap[kc]? = some (Obj.cells #[.int .u8 3, .int .u32 8, .int .u8 6, .int .u32 0, .int .u8 4, .int .u32 8, .int .u8 3, .int .u32 4, .int .u8 8, .int .u32 4, .int .u8 7, .int .u32 0, .int .u8 8, .int .u32 1, .int .u8 4, .int .u32 4] 48) := oC
  have hWX : Below w.heap.size w (wD.setCell ⟨kc, 3, none⟩ (.int .u32 0)) := hWX.setCell (p := ⟨kc, 3, none⟩) hzX _
  refine (kfind k5B (by decide) 1 132 rfl rfl (wD.setCell ⟨kc, 3, none⟩ (.int .u32 0)) (some ⟨kc, 0, none⟩) none none 8 8 0 0 0 0 rfl rfl rfl (by decide) (by unfold Wfc; decide) (by decide) (by decide) (crd_block oC k5L rfl) (jrd_nil _ _) (nrd_nil _ _) (HTb.out (wD.setCell ⟨kc, 3, none⟩ (.int .u32 0)) hWX).1 (HTb.out (wD.setCell ⟨kc, 3, none⟩ (.int .u32 0)) hWX).2).mono ?_
  rintro e wE ⟨rfl, hbq⟩
  have oC := (hbq.block kc (Array.getElem?_eq_some_iff.1 oC).1).trans oC
  have hWX := btP hWX hbq
  clear hbq cS fS
  have cS := (obj_cell oC 3).trans rfl
  have fS := obj_frozen oC 3
  have oV := (heap_setCell_same wE kc 3 _ _ (.int .u32 2) oC).trans rfl
  have oV : (wE.setCell ⟨kc, 3, none⟩ (.int .u32 2)).heap[kc]? = some (Obj.cells #[.int .u8 3, .int .u32 8, .int .u8 6, .int .u32 2, .int .u8 4, .int .u32 8, .int .u8 3, .int .u32 4, .int .u8 8, .int .u32 4, .int .u8 7, .int .u32 0, .int .u8 8, .int .u32 1, .int .u8 4, .int .u32 4] 48) := oV
  have cV4 := (obj_cell oV 4).trans rfl
  have fV4 := obj_frozen oV 4
  have cV5 := (obj_cell oV 5).trans rfl
  have fV5 := obj_frozen oV 5
  go_wp2_with fail
  have oC := (heap_setCell_same wE kc 3 _ _ (.int .u32 2) oC).trans rfl
  have oC : (wE.setCell ⟨kc, 3, none⟩ (.int .u32 2)).heap[kc]? = some (Obj.cells #[.int .u8 3, .int .u32 8, .int .u8 6, .int .u32 2, .int .u8 4, .int .u32 8, .int .u8 3, .int .u32 4, .int .u8 8, .int .u32 4, .int .u8 7, .int .u32 0, .int .u8 8, .int .u32 1, .int .u8 4, .int .u32 4] 48) := oC
  have hWX : Below w.heap.size w (wE.setCell ⟨kc, 3, none⟩ (.int .u32 2)) := hWX.setCell (p := ⟨kc, 3, none⟩) hzX _
  have oC := (heap_setCell_same (wE.setCell ⟨kc, 3, none⟩ (.int .u32 2)) kc 4 _ _ (.int .u8 8) oC).trans rfl
  have oC : ((wE.setCell ⟨kc, 3, none⟩ (.int .u32 2)).setCell ⟨kc, 4, none⟩ (.int .u8 8)).heap[kc]? = some (Obj.cells #[.int .u8 3, .int .u32 8, .int .u8 6, .int .u32 2, .int .u8 8, .int .u32 8, .int .u8 3, .int .u32 4, .int .u8 8, .int .u32 4, .int .u8 7, .int .u32 0, .int .u8 8, .int .u32 1, .int .u8 4, .int .u32 4] 48) := oC
  have hWX : Below w.heap.size w ((wE.setCell ⟨kc, 3, none⟩ (.int .u32 2)).setCell ⟨kc, 4, none⟩ (.int .u8 8)) := hWX.setCell (p := ⟨kc, 4, none⟩) hzX _
  have oC := (heap_setCell_same ((wE.setCell ⟨kc, 3, none⟩ (.int .u32 2)).setCell ⟨kc, 4, none⟩ (.int .u8 8)) kc 5 _ _ (.int .u32 1) oC).trans rfl
  have oC : (((wE.setCell ⟨kc, 3, none⟩ (.int .u32 2)).setCell ⟨kc, 4, none⟩ (.int .u8 8)).setCell ⟨kc, 5, none⟩ (.int .u32 1)).heap[kc]? = some (Obj.cells #[.int .u8 3, .int .u32 8, .int .u8 6, .int .u32 2, .int .u8 8, .int .u32 1, .int .u8 3, .int .u32 4, .int .u8 8, .int .u32 4, .int .u8 7, .int .u32 0, .int .u8 8, .int .u32 1, .int .u8 4, .int .u32 4] 48) := oC
  have hWX : Below w.heap.size w (((wE.setCell ⟨kc, 3, none⟩ (.int .u32 2)).setCell ⟨kc, 4, none⟩ (.int .u8 8)).setCell ⟨kc, 5, none⟩ (.int .u32 1)) := hWX.setCell (p := ⟨kc, 5, none⟩) hzX _
  refine (kfind k6B (by decide) 2 133 rfl rfl (((wE.setCell ⟨kc, 3, none⟩ (.int .u32 2)).setCell ⟨kc, 4, none⟩ (.int .u8 8)).setCell ⟨kc, 5, none⟩ (.int .u32 1)) (some ⟨kc, 0, none⟩) none none 8 8 0 0 0 0 rfl rfl rfl (by decide) (by unfold Wfc; decide) (by decide) (by decide) (crd_block oC k6L rfl) (jrd_nil _ _) (nrd_nil _ _) (HTb.out (((wE.setCell ⟨kc, 3, none⟩ (.int .u32 2)).setCell ⟨kc, 4, none⟩ (.int .u8 8)).setCell ⟨kc, 5, none⟩ (.int .u32 1)) hWX).1 (HTb.out (((wE.setCell ⟨kc, 3, none⟩ (.int .u32 2)).setCell ⟨kc, 4, none⟩ (.int .u8 8)).setCell ⟨kc, 5, none⟩ (.int .u32 1)) hWX).2).mono ?_
  rintro e wF ⟨rfl, hbq⟩
  have oC := (hbq.block kc (Array.getElem?_eq_some_iff.1 oC).1).trans oC
  have hWX := btP hWX hbq
  clear hbq cS fS oV cV4 fV4 cV5 fV5
  have cV4 := (obj_cell oC 4).trans rfl
  have fV4 := obj_frozen oC 4
  have cV5 := (obj_cell oC 5).trans rfl
  have fV5 := obj_frozen oC 5
  go_wp2_with fail
  have oC := (heap_setCell_same wF kc 4 _ _ (.int .u8 4) oC).trans rfl
  have oC : (wF.setCell ⟨kc, 4, none⟩ (.int .u8 4)).heap[kc]? = some (Obj.cells #[.int .u8 3, .int .u32 8, .int .u8 6, .int .u32 2, .int .u8 4, .int .u32 1, .int .u8 3, .int .u32 4, .int .u8 8, .int .u32 4, .int .u8 7, .int .u32 0, .int .u8 8, .int .u32 1, .int .u8 4, .int .u32 4] 48) := oC
  have hWX : Below w.heap.size w (wF.setCell ⟨kc, 4, none⟩ (.int .u8 4)) := hWX.setCell (p := ⟨kc, 4, none⟩) hzX _
  have oC := (heap_setCell_same (wF.setCell ⟨kc, 4, none⟩ (.int .u8 4)) kc 5 _ _ (.int .u32 4) oC).trans rfl
  have oC : ((wF.setCell ⟨kc, 4, none⟩ (.int .u8 4)).setCell ⟨kc, 5, none⟩ (.int .u32 4)).heap[kc]? = some (Obj.cells #[.int .u8 3, .int .u32 8, .int .u8 6, .int .u32 2, .int .u8 4, .int .u32 4, .int .u8 3, .int .u32 4, .int .u8 8, .int .u32 4, .int .u8 7, .int .u32 0, .int .u8 8, .int .u32 1, .int .u8 4, .int .u32 4] 48) := oC
  have hWX : Below w.heap.size w ((wF.setCell ⟨kc, 4, none⟩ (.int .u8 4)).setCell ⟨kc, 5, none⟩ (.int .u32 4)) := hWX.setCell (p := ⟨kc, 5, none⟩) hzX _
  refine (kfind k7B (by decide) 2 131 rfl rfl ((wF.setCell ⟨kc, 4, none⟩ (.int .u8 4)).setCell ⟨kc, 5, none⟩ (.int .u32 4)) (some ⟨kc, 0, none⟩) none none 8 8 0 0 0 0 rfl rfl rfl (by decide) (by unfold Wfc; decide) (by decide) (by decide) (crd_block oC k7L rfl) (jrd_nil _ _) (nrd_nil _ _) (HTb.out ((wF.setCell ⟨kc, 4, none⟩ (.int .u8 4)).setCell ⟨kc, 5, none⟩ (.int .u32 4)) hWX).1 (HTb.out ((wF.setCell ⟨kc, 4, none⟩ (.int .u8 4)).setCell ⟨kc, 5, none⟩ (.int .u32 4)) hWX).2).mono ?_
  rintro e wG ⟨rfl, hbq⟩
  have hWX := btP hWX hbq
  clear hbq oC cV4 fV4 cV5 fV5
  go_wp2_with fail
  refine (kfind k8B (by decide) 0 130 rfl rfl wG none none none 0 0 0 0 0 0 rfl rfl rfl (by decide) (by unfold Wfc; decide) (by decide) (by decide) (fun h => absurd h (by simp)) (jrd_nil _ _) (nrd_nil _ _) (HTb.out wG hWX).1 (HTb.out wG hWX).2).mono ?_
  rintro e wH ⟨rfl, hbq⟩
  have hWX := btP hWX hbq
  clear hbq
  go_wp2_with fail
  go_ret
  exact ⟨rfl, hWX⟩
end Go.Proofs.YtihnkeflcnndpaaDoor
namespace Go.Proofs.YtihnkeflcnndpaaDoor
open Go.RowKit Go.WideShapes Go.Shelf
set_option maxRecDepth 100000
theorem own_jrd {w : World} {B n c : Nat} {a : Option Addr} {J : List Nat} (h : w.ownsRow B 32 1 (.slice a n c) n (dv J)) (hn : J.length = n) : JRd w a J w.heap.size := by
  intro hp
  obtain ⟨g, rfl⟩ := own_posW' h (by omega)
  exact ownJ h hn hp
theorem farW {w w1 : World} {B n n' e e' s s' : Nat} {v v' : Value} {xs xs' : List Value} (h : w.ownsRow B e s v n xs) (h' : w1.ownsRow w.heap.size e' s' v' n' xs') : (v.ownBlock = none ∨ v.ownBlock ≠ v'.ownBlock) ∧ (v'.ownBlock = none ∨ v'.ownBlock ≠ v.ownBlock) := by
  constructor
  · cases hv : v.ownBlock with
    | none => exact .inl rfl
    | some g =>
      right
      intro e
      have h1 := (h.lt g hv).2
      have h2 := (h'.lt g e.symm).1
      omega
  · cases hv : v'.ownBlock with
    | none => exact .inl rfl
    | some g =>
      right
      intro e
      have h1 := (h'.lt g hv).1
      have h2 := (h.lt g e.symm).2
      omega
theorem lowW {w : World} {B B' e sz : Nat} {v : Value} {n : Nat} {xs : List Value} (h : w.ownsRow B e sz v n xs) (hle : B' ≤ B) : w.ownsRow B' e sz v n xs :=
  ⟨h.1, h.2.imp id (fun ⟨g, cap, cur, a, b, c⟩ => ⟨g, cap, cur, a, Nat.le_trans hle b, c⟩)⟩
def zT (T : List Nat) : List Int := T.map fun (z : Nat) => (z : Int)
theorem dv_zT (T : List Nat) : dv T = biW (zT T) := by simp [dv, biW, zT]
theorem zT_len (T : List Nat) : (zT T).length = T.length := by simp [zT]
def two (a c : Value) (i : Nat) : Value := if i = 0 then a else c
theorem own2W {w : World} {B n : Nat} {a c : Value} {T : List Nat} (hT : T.length = n) (hB : B ≤ w.heap.size) (ha : w.ownsRow B 32 1 a n (dv T)) (hc : w.ownsRow B 32 1 c n (dv T)) (f : (a.ownBlock = none ∨ a.ownBlock ≠ c.ownBlock) ∧ (c.ownBlock = none ∨ c.ownBlock ≠ a.ownBlock)) :
    OwnLW (w.alloc (.cells #[a, c] 23)) B (some ⟨w.heap.size, 0, none⟩) 2 2 (two a c) (fun _ => zT T) := by
  subst hT
  rw [dv_zT, ← zT_len] at ha hc
  refine ⟨World.ownsRow_lit (size := 1) (base := B) (e := 23) w #[a, c] 2 hB (by decide) rfl, ?_, ?_⟩
  · intro i hi
    rcases (show i = 0 ∨ i = 1 by omega) with rfl | rfl
    · exact ha.alloc _
    · exact hc.alloc _
  · intro i j hi hj hne
    rcases (show i = 0 ∨ i = 1 by omega) with rfl | rfl <;> rcases (show j = 0 ∨ j = 1 by omega) with rfl | rfl <;> first | exact absurd rfl hne | exact f.1 | exact f.2
theorem ptgt {w : World} {L : List (Nat × Nat)} {J : List Nat} {M : List (ByteArray × Nat)} {B pp p1 g1 p2 g2 : Nat} {lv : Value} {A C : List Nat} {ao aj : Option Addr} (hI : AnI w L J M B pp p1 g1 p2 g2 lv A C ao aj) (x : Int) :
    Calls Tryd.prog 18 #[.pointer (some ⟨pp, 0, none⟩), .int .i64 x] w fun e w' => ∃ v, e = .returned v ∧ w'.ownsRow w.heap.size 32 1 v (tgL L J x).length (dv (tgL L J x)) ∧ Below w.heap.size w w' := by
  by_cases hx : x < 0 ∨ ((prL L).length : Int) ≤ x
  · rw [tg_out hI.hG (by rw [prs_len] at hx; exact hx)]
    exact (ptargets_out x w hx hI.hP).mono (by
      rintro e w' ⟨rfl, hb⟩
      exact ⟨_, rfl, World.ownsRow_nil _ _ _ _, hb⟩)
  · obtain ⟨i, rfl⟩ : ∃ i : Nat, x = (i : Int) := ⟨x.toNat, by omega⟩
    have hi : i < (prL L).length := by omega
    have hi' : i < (bgs L).length := by rw [prs_len] at hi; exact hi
    have h := ptargets_in i w hi (encX_len hI.hG.enc) (by rw [prL_get L hi']; exact ⟨bgs_end _, bgs_end _⟩) hI.hT hI.hP
    rw [prL_get L hi'] at h
    dsimp only at h
    rw [tg_in hI.hG hI.hC hi'] at h
    exact h
theorem tg_small {w : World} {L : List (Nat × Nat)} {J : List Nat} {M : List (ByteArray × Nat)} {B pp p1 g1 p2 g2 : Nat} {lv : Value} {A C : List Nat} {ao aj : Option Addr} (hI : AnI w L J M B pp p1 g1 p2 g2 lv A C ao aj) (x : Int) : (tgL L J x).length ≤ 16384 := by
  by_cases hx : x < 0 ∨ ((bgs L).length : Int) ≤ x
  · rw [tg_out hI.hG hx]
    exact Nat.zero_le _
  · obtain ⟨i, rfl⟩ : ∃ i : Nat, x = (i : Int) := ⟨x.toNat, by omega⟩
    have hi' : i < (bgs L).length := by omega
    rw [← tg_in hI.hG hI.hC hi']
    have := rng_len (hasW C) (bAt L i) (bAt L (i + 1))
    have h2 : bAt L (i + 1) ≤ L.length := bgs_end _
    have := encX_len hI.hG.enc
    omega
set_option maxHeartbeats 2000000 in
theorem ans5 {L : List (Nat × Nat)} {J : List Nat} {M : List (ByteArray × Nat)} {B pp p1 g1 p2 g2 : Nat} {lv : Value} {A C : List Nat} (ao aj an : Option Addr) (cap capj ml capn : Nat) (on x : Int) (b c : Nat) (hneg : ¬ x < 0) (w : World) (hx0 : -9223372036854775808 ≤ x) (hx1 : x ≤ 9223372036854775807) (hb4 : b < 4294967296) (hc4 : c < 4294967296) (hI : AnI w L J M B pp p1 g1 p2 g2 lv A C ao aj) :
    Calls Tryd.prog 9 #[.pointer (some ⟨pp, 0, none⟩), .agg #[.slice ao L.length cap, .slice aj J.length capj, .slice an ml capn], .agg #[.int .i64 on, .int .i64 5, .int .i64 x, .int .u32 b, .int .u32 c]] w fun e w' => e = .returned (.bool true) ∧ Below w.heap.size w w' := by
  have _hu := And.intro hx0 (And.intro hx1 (And.intro hb4 hc4))
  clear _hu
  have hlen := encX_len hI.hG.enc
  have HI := hidS (fun W (hb : Below w.heap.size w W) => hI.below hb (hI.hT.below hb hI.h0))
  have HPr : Hid (∀ W, Below w.heap.size w W → Calls Tryd.prog 26 #[.slice ao L.length cap] W fun e w' => ∃ v, e = .returned v ∧ w'.ownsRow W.heap.size 43 4 v (prL L).length (pv (prL L)) ∧ Below W.heap.size W w') := hidS (fun W hW => rprocs_any ao cap L W hlen (HI.out W hW).hr)
  obtain ⟨al, capl, rfl, _⟩ := hI.hP.reads
  have HTs := hidS (tg_small hI x)
  have HTg := hidS (fun W hb => ptgt (HI.out W hb) x)
  have HRt := hidS (fun W hb => rtargets_any ao aj cap capj L J x W hlen hI.hJn hI.hJ (HI.out W hb).hr (HI.out W hb).hrJ)
  have HTn : Hid (x < 0 → tgL L J x = []) := hidS (fun h => tg_out hI.hG (.inl h))
  obtain ⟨T, hTT⟩ : ∃ T, tgL L J x = T := ⟨_, rfl⟩
  rw [hTT] at HTs HTg HRt HTn
  clear hTT
  clear hI
  go_enter Tryd.func9, Tryd.ntmps9
  go_wp2_with (go_at_call 26; refine (HPr.out _ (belP (belP (Below.refl _ _)))).mono ?_; rintro e w2 ⟨lv2, rfl, hown2, hb2⟩; obtain ⟨la, lc, rfl, hrd2⟩ := own_pr hown2; have hB2 : Below w.heap.size w w2 := btP (belP (belP (Below.refl _ _))) hb2; have oC := (hb2.block w.heap.size (by simp; omega)).trans (((Below.heap_alloc _ _ _ (by simp)).trans (heap_alloc_new w _))); have oA := (hb2.block (w.heap.size + 1) (by simp)).trans (show _ = some (Obj.cells #[.int .i64 on, .int .i64 5, .int .i64 x, .int .u32 (b : Int), .int .u32 (c : Int)] 34) from heap_alloc_new' _ _ _ (by simp)); have cC0 := obj_cell oC 0; have cC1 := obj_cell oC 1; have cA1 := obj_cell oA 1; have cA2 := obj_cell oA 2; have cA3 := obj_cell oA 3; have cA4 := obj_cell oA 4; simp only [List.getElem?_toArray, List.getElem?_cons_succ, List.getElem?_cons_zero] at cC0 cC1 cA1 cA2 cA3 cA4; have hSz : w.heap.size + 1 < w2.heap.size := Nat.lt_of_lt_of_le (by simp) hb2.size; clear oC oA hown2 hb2)
  go_wp2_with (go_at_call 29; refine (HRt.out _ hB2).mono ?_; rintro e w3 ⟨vw, rfl, hownw, hb3⟩; obtain ⟨wa, wc, rfl⟩ := own_form0W' hownw; have hB3 := btP hB2 hb3; have d3 : w3.cell? ⟨w.heap.size + 1, 2, none⟩ = some (.int .i64 x) := (hb3.cell (p := ⟨w.heap.size + 1, 2, none⟩) hSz).trans cA2)
  have hS3 := Nat.lt_of_lt_of_le hSz hb3.size
  have hT3 := HTg.out _ hB3
  go_wp2_with (go_at_call 18; with_reducible refine hT3.mono ?_; rintro e w4 ⟨vx, rfl, hownx, hb4'⟩; obtain ⟨xa, xc, rfl⟩ := own_form0W' hownx; have d4 : w4.cell? ⟨w.heap.size + 1, 2, none⟩ = some (.int .i64 x) := (hb4'.cell (p := ⟨w.heap.size + 1, 2, none⟩) hS3).trans d3)
  have hB4 := btP hB3 hb4'
  have hS4 := Nat.lt_of_lt_of_le hS3 hb4'.size
  have hT4 := HTg.out _ hB4
  go_wp2_with (go_at_call 18; with_reducible refine hT4.mono ?_; rintro e w5 ⟨vy, rfl, howny, hb5⟩; obtain ⟨ya, yc, rfl⟩ := own_form0W' howny; have d5 : w5.cell? ⟨w.heap.size + 1, 2, none⟩ = some (.int .i64 x) := (hb5.cell (p := ⟨w.heap.size + 1, 2, none⟩) hS4).trans d4)
  have hS5 := Nat.lt_of_lt_of_le hS4 hb5.size
  have HF := hidS (farW hownx howny)
  have hB5 := btP hB4 hb5
  have x5 := own_below hownx hb5
  have hw5 := own_below (own_below hownw hb4') hb5
  have s1 := samew_eq xa wa xc wc T w5 (by have := HTs.out; omega) (own_jrd x5 rfl) (own_jrd hw5 rfl)
  go_wp2_with (go_at_call 30; with_reducible refine s1.mono ?_; rintro e w6 ⟨rfl, hb6⟩)
  have y6 := own_below howny hb6
  have x6 := own_below x5 hb6
  have hw6 := own_below hw5 hb6
  have s2 := samew_eq ya wa yc wc T w6 (by have := HTs.out; omega) (own_jrd y6 rfl) (own_jrd hw6 rfl)
  go_wp2_with (go_at_call 30; with_reducible refine s2.mono ?_; rintro e w7 ⟨rfl, hb7⟩)
  have y7 := own_below y6 hb7
  have x7 := own_below x6 hb7
  have hw7 := own_below hw6 hb7
  have b37 : Below w3.heap.size w3 w7 := btP (btP (btP hb4' hb5) hb6) hb7
  have OL := own2W (B := w3.heap.size) (T := T) rfl b37.size x7 (lowW y7 hb4'.size) HF.out
  have b38 : Below w3.heap.size w3 (w7.alloc (.cells #[.slice xa T.length xc, .slice ya T.length yc] 23)) := belP b37
  have hAp := apart_anyW _ _ 2 w3.heap.size _ _ _ (by decide) (fun i _ => by rw [zT_len]; have := HTs.out; omega) b38.size OL
  have HTB := hidS (fun w' (T8 : TouchW 2 (two (.slice xa T.length xc) (.slice ya T.length yc)) (w7.alloc (.cells #[.slice xa T.length xc, .slice ya T.length yc] 23)) w') => b38.trans (T8.below b38.size (fun i b hi e => by
    rcases (show i = 0 ∨ i = 1 by omega) with rfl | rfl
    · exact (x7.lt b e).1
    · exact Nat.le_trans hb4'.size (y7.lt b e).1)))
  clear OL
  go_wp2_with (go_at_call 31; with_reducible refine hAp.mono ?_; rintro e w8 ⟨rfl, T8⟩; have b39 := HTB.out w8 T8; have d8 : w8.cell? ⟨w.heap.size + 1, 2, none⟩ = some (.int .i64 x) := (b39.cell (p := ⟨w.heap.size + 1, 2, none⟩) hS3).trans d3)
  have hB8 := btP hB3 b39
  have hT8 := HTg.out _ hB8
  have hw8 := own_below hownw b39
  go_wp2_with (go_at_call 18; with_reducible refine hT8.mono ?_; rintro e w9 ⟨vz, rfl, hownz, hb9⟩; obtain ⟨za, zc, rfl⟩ := own_form0W' hownz)
  have hw9 := own_below hw8 hb9
  have s3 := samew_eq za wa zc wc T w9 (by have := HTs.out; omega) (own_jrd hownz rfl) (own_jrd hw9 rfl)
  go_wp2_with (go_at_call 30; with_reducible refine s3.mono ?_; rintro e w10 ⟨rfl, hb10⟩)
  go_ret
  exact ⟨rfl, btP (btP hB8 hb9) hb10⟩
end Go.Proofs.YtihnkeflcnndpaaDoor
namespace Go.Proofs.YtihnkeflcnndpaaDoor
open Go.RowKit Go.WideShapes Go.Shelf
set_option maxRecDepth 100000
set_option maxHeartbeats 2000000 in
theorem ans5n {L : List (Nat × Nat)} {J : List Nat} {M : List (ByteArray × Nat)} {B pp p1 g1 p2 g2 : Nat} {lv : Value} {A C : List Nat} (ao aj an : Option Addr) (cap capj ml capn : Nat) (on x : Int) (b c : Nat) (hneg : x < 0) (w : World) (hx0 : -9223372036854775808 ≤ x) (hx1 : x ≤ 9223372036854775807) (hb4 : b < 4294967296) (hc4 : c < 4294967296) (hI : AnI w L J M B pp p1 g1 p2 g2 lv A C ao aj) :
    Calls Tryd.prog 9 #[.pointer (some ⟨pp, 0, none⟩), .agg #[.slice ao L.length cap, .slice aj J.length capj, .slice an ml capn], .agg #[.int .i64 on, .int .i64 5, .int .i64 x, .int .u32 b, .int .u32 c]] w fun e w' => e = .returned (.bool true) ∧ Below w.heap.size w w' := by
  have _hu := And.intro hx0 (And.intro hx1 (And.intro hb4 hc4))
  clear _hu
  have hlen := encX_len hI.hG.enc
  have HI := hidS (fun W (hb : Below w.heap.size w W) => hI.below hb (hI.hT.below hb hI.h0))
  have HPr : Hid (∀ W, Below w.heap.size w W → Calls Tryd.prog 26 #[.slice ao L.length cap] W fun e w' => ∃ v, e = .returned v ∧ w'.ownsRow W.heap.size 43 4 v (prL L).length (pv (prL L)) ∧ Below W.heap.size W w') := hidS (fun W hW => rprocs_any ao cap L W hlen (HI.out W hW).hr)
  obtain ⟨al, capl, rfl, _⟩ := hI.hP.reads
  have HTs := hidS (tg_small hI x)
  have HTg := hidS (fun W hb => ptgt (HI.out W hb) x)
  have HRt := hidS (fun W hb => rtargets_any ao aj cap capj L J x W hlen hI.hJn hI.hJ (HI.out W hb).hr (HI.out W hb).hrJ)
  have HTn : Hid (x < 0 → tgL L J x = []) := hidS (fun h => tg_out hI.hG (.inl h))
  obtain ⟨T, hTT⟩ : ∃ T, tgL L J x = T := ⟨_, rfl⟩
  rw [hTT] at HTs HTg HRt HTn
  clear hTT
  clear hI
  go_enter Tryd.func9, Tryd.ntmps9
  go_wp2_with (go_at_call 26; refine (HPr.out _ (belP (belP (Below.refl _ _)))).mono ?_; rintro e w2 ⟨lv2, rfl, hown2, hb2⟩; obtain ⟨la, lc, rfl, hrd2⟩ := own_pr hown2; have hB2 : Below w.heap.size w w2 := btP (belP (belP (Below.refl _ _))) hb2; have oC := (hb2.block w.heap.size (by simp; omega)).trans (((Below.heap_alloc _ _ _ (by simp)).trans (heap_alloc_new w _))); have oA := (hb2.block (w.heap.size + 1) (by simp)).trans (show _ = some (Obj.cells #[.int .i64 on, .int .i64 5, .int .i64 x, .int .u32 (b : Int), .int .u32 (c : Int)] 34) from heap_alloc_new' _ _ _ (by simp)); have cC0 := obj_cell oC 0; have cC1 := obj_cell oC 1; have cA1 := obj_cell oA 1; have cA2 := obj_cell oA 2; have cA3 := obj_cell oA 3; have cA4 := obj_cell oA 4; simp only [List.getElem?_toArray, List.getElem?_cons_succ, List.getElem?_cons_zero] at cC0 cC1 cA1 cA2 cA3 cA4; have hSz : w.heap.size + 1 < w2.heap.size := Nat.lt_of_lt_of_le (by simp) hb2.size; clear oC oA hown2 hb2)
  have hx9 : x < 0 := hneg
  have hTe := HTn.out hneg
  subst hTe
  go_wp2_with (go_at_call 29; refine (HRt.out _ hB2).mono ?_; rintro e w3 ⟨vw, rfl, hownw, hb3⟩; obtain ⟨wa, wc, rfl⟩ := own_form0W' hownw; have hB3 := btP hB2 hb3; have d3 : w3.cell? ⟨w.heap.size + 1, 2, none⟩ = some (.int .i64 x) := (hb3.cell (p := ⟨w.heap.size + 1, 2, none⟩) hSz).trans cA2)
  have hS3 := Nat.lt_of_lt_of_le hSz hb3.size
  have hT3 := HTg.out _ hB3
  go_wp2_with (go_at_call 18; with_reducible refine hT3.mono ?_; rintro e w4 ⟨vx, rfl, hownx, hb4'⟩; simp only [List.length_nil] at hownx; obtain ⟨xa, xc, rfl⟩ := own_form0W' hownx; have d4 : w4.cell? ⟨w.heap.size + 1, 2, none⟩ = some (.int .i64 x) := (hb4'.cell (p := ⟨w.heap.size + 1, 2, none⟩) hS3).trans d3)
  have hB4 := btP hB3 hb4'
  have hS4 := Nat.lt_of_lt_of_le hS3 hb4'.size
  have hT4 := HTg.out _ hB4
  go_wp2_with (go_at_call 18; with_reducible refine hT4.mono ?_; rintro e w5 ⟨vy, rfl, howny, hb5⟩; simp only [List.length_nil] at howny; obtain ⟨ya, yc, rfl⟩ := own_form0W' howny; have d5 : w5.cell? ⟨w.heap.size + 1, 2, none⟩ = some (.int .i64 x) := (hb5.cell (p := ⟨w.heap.size + 1, 2, none⟩) hS4).trans d4)
  have hS5 := Nat.lt_of_lt_of_le hS4 hb5.size
  have HF := hidS (farW hownx howny)
  have hB5 := btP hB4 hb5
  have x5 := own_below hownx hb5
  have hw5 := own_below (own_below hownw hb4') hb5
  have s1 := samew_eq xa none xc 0 [] w5 (by have := HTs.out; omega) (own_jrd x5 rfl) (jrd_nil _ _)
  simp only [List.length_nil] at s1
  go_wp2_with (go_at_call 30; with_reducible refine s1.mono ?_; rintro e w6 ⟨rfl, hb6⟩)
  have y6 := own_below howny hb6
  have x6 := own_below x5 hb6
  have hw6 := own_below hw5 hb6
  have s2 := samew_eq ya none yc 0 [] w6 (by have := HTs.out; omega) (own_jrd y6 rfl) (jrd_nil _ _)
  simp only [List.length_nil] at s2
  go_wp2_with (go_at_call 30; with_reducible refine s2.mono ?_; rintro e w7 ⟨rfl, hb7⟩)
  have y7 := own_below y6 hb7
  have x7 := own_below x6 hb7
  have hw7 := own_below hw6 hb7
  have b37 : Below w3.heap.size w3 w7 := btP (btP (btP hb4' hb5) hb6) hb7
  have OL := own2W (B := w3.heap.size) (T := []) rfl b37.size x7 (lowW y7 hb4'.size) HF.out
  have b38 : Below w3.heap.size w3 (w7.alloc (.cells #[.slice xa 0 xc, .slice ya 0 yc] 23)) := belP b37
  have hAp := apart_anyW _ _ 2 w3.heap.size _ _ _ (by decide) (fun i _ => by rw [zT_len]; have := HTs.out; omega) b38.size OL
  have HTB := hidS (fun w' (T8 : TouchW 2 (two (.slice xa 0 xc) (.slice ya 0 yc)) (w7.alloc (.cells #[.slice xa 0 xc, .slice ya 0 yc] 23)) w') => b38.trans (T8.below b38.size (fun i b hi e => by
    rcases (show i = 0 ∨ i = 1 by omega) with rfl | rfl
    · exact (x7.lt b e).1
    · exact Nat.le_trans hb4'.size (y7.lt b e).1)))
  clear OL
  go_wp2_with (go_at_call 31; with_reducible refine hAp.mono ?_; rintro e w8 ⟨rfl, T8⟩; have b39 := HTB.out w8 T8; have d8 : w8.cell? ⟨w.heap.size + 1, 2, none⟩ = some (.int .i64 x) := (b39.cell (p := ⟨w.heap.size + 1, 2, none⟩) hS3).trans d3)
  have hB8 := btP hB3 b39
  have hT8 := HTg.out _ hB8
  have hw8 := own_below hownw b39
  go_wp2_with (go_at_call 18; with_reducible refine hT8.mono ?_; rintro e w9 ⟨vz, rfl, hownz, hb9⟩; simp only [List.length_nil] at hownz; obtain ⟨za, zc, rfl⟩ := own_form0W' hownz)
  have hw9 := own_below hw8 hb9
  have s3 := samew_eq za none zc 0 [] w9 (by have := HTs.out; omega) (own_jrd hownz rfl) (jrd_nil _ _)
  simp only [List.length_nil] at s3
  go_wp2_with (go_at_call 30; with_reducible refine s3.mono ?_; rintro e w10 ⟨rfl, hb10⟩)
  go_ret
  exact ⟨rfl, btP (btP hB8 hb9) hb10⟩
end Go.Proofs.YtihnkeflcnndpaaDoor
namespace Go.Proofs.YtihnkeflcnndpaaDoor
open Go.RowKit Go.WideShapes Go.Shelf
set_option maxRecDepth 100000

/-- one call of the script -/
abbrev Ak : Type := Int × Int × Int × Nat × Nat
structure AkOk (s : Ak) : Prop where
  o0 : -9223372036854775808 ≤ s.1
  o1 : s.1 ≤ 9223372036854775807
  x0 : -9223372036854775808 ≤ s.2.2.1
  x1 : s.2.2.1 ≤ 9223372036854775807
  b4 : s.2.2.2.1 < 4294967296
  c4 : s.2.2.2.2 < 4294967296
/-- a script in memory -/
def AkRd (w : World) (ao : Option Addr) (S : List Ak) (B : Nat) : Prop :=
  0 < S.length → ∃ b off, ao = some ⟨b, off, none⟩ ∧ b < B ∧ ∀ j, j < S.length →
    w.cell? ⟨b, off + j * 5, none⟩ = some (.int .i64 (S.getD j (0, 0, 0, 0, 0)).1) ∧ w.cell? ⟨b, off + j * 5 + 1, none⟩ = some (.int .i64 (S.getD j (0, 0, 0, 0, 0)).2.1) ∧ w.cell? ⟨b, off + j * 5 + 2, none⟩ = some (.int .i64 (S.getD j (0, 0, 0, 0, 0)).2.2.1) ∧ w.cell? ⟨b, off + j * 5 + 3, none⟩ = some (.int .u32 ((S.getD j (0, 0, 0, 0, 0)).2.2.2.1 : Nat)) ∧ w.cell? ⟨b, off + j * 5 + 4, none⟩ = some (.int .u32 ((S.getD j (0, 0, 0, 0, 0)).2.2.2.2 : Nat))
theorem AkRd.below {w w' : World} {ao : Option Addr} {S : List Ak} {B : Nat} (h : AkRd w ao S B) (hb : Below B w w') : AkRd w' ao S B := by
  intro hp
  obtain ⟨b, off, e, hB, hx⟩ := h hp
  exact ⟨b, off, e, hB, fun j hj => ⟨(hb.cell (p := ⟨b, _, none⟩) hB).trans (hx j hj).1, (hb.cell (p := ⟨b, _, none⟩) hB).trans (hx j hj).2.1, (hb.cell (p := ⟨b, _, none⟩) hB).trans (hx j hj).2.2.1, (hb.cell (p := ⟨b, _, none⟩) hB).trans (hx j hj).2.2.2.1, (hb.cell (p := ⟨b, _, none⟩) hB).trans (hx j hj).2.2.2.2⟩⟩
/-- the law's answers: of what Find has made, each call of a script answers as the document says -/
theorem answers_any {L : List (Nat × Nat)} {J : List Nat} {M : List (ByteArray × Nat)} {B pp p1 g1 p2 g2 : Nat} {lv : Value} {A C : List Nat} (ao aj an : Option Addr) (cap capj ml capn : Nat) (on kd x : Int) (b c : Nat) (w : World) (hx0 : -9223372036854775808 ≤ x) (hx1 : x ≤ 9223372036854775807) (hb4 : b < 4294967296) (hc4 : c < 4294967296) (hI : AnI w L J M B pp p1 g1 p2 g2 lv A C ao aj) :
    Calls Tryd.prog 9 #[.pointer (some ⟨pp, 0, none⟩), .agg #[.slice ao L.length cap, .slice aj J.length capj, .slice an ml capn], .agg #[.int .i64 on, .int .i64 kd, .int .i64 x, .int .u32 b, .int .u32 c]] w fun e w' => e = .returned (.bool true) ∧ Below w.heap.size w w' := by
  by_cases k0 : kd = 0
  · subst k0
    exact ans0 ao aj an cap capj ml capn on x b c w hx0 hx1 hb4 hc4 hI
  by_cases k1 : kd = 1
  · subst k1
    by_cases hx : x < 0 ∨ ((prL L).length : Int) ≤ x
    · exact ans1o ao aj an cap capj ml capn on x b c hx w hx0 hx1 hb4 hc4 hI
    · obtain ⟨i, rfl⟩ : ∃ i : Nat, x = (i : Int) := ⟨x.toNat, by omega⟩
      exact ans1 ao aj an cap capj ml capn on b c i (by omega) w hb4 hc4 hI
  by_cases k2 : kd = 2
  · subst k2
    exact ans2 ao aj an cap capj ml capn on x b c w hx0 hx1 hb4 hc4 hI
  by_cases k3 : kd = 3
  · subst k3
    by_cases hb : b < L.length
    · by_cases he : isEn L b = true
      · exact ans3e ao aj an cap capj ml capn on x b c hb he w hx0 hx1 hb4 hc4 hI
      · exact ans3n ao aj an cap capj ml capn on x b c hb (by simpa using he) w hx0 hx1 hb4 hc4 hI
    · exact ans3o ao aj an cap capj ml capn on x b c hb w hx0 hx1 hb4 hc4 hI
  by_cases k4 : kd = 4
  · subst k4
    exact ans4 ao aj an cap capj ml capn on x b c w hx0 hx1 hb4 hc4 hI
  by_cases k5 : kd = 5
  · subst k5
    by_cases hx : x < 0
    · exact ans5n ao aj an cap capj ml capn on x b c hx w hx0 hx1 hb4 hc4 hI
    · exact ans5 ao aj an cap capj ml capn on x b c hx w hx0 hx1 hb4 hc4 hI
  exact ans6 ao aj an cap capj ml capn on x b c kd k0 k1 k2 k3 k4 k5 w hx0 hx1 hb4 hc4 hI
end Go.Proofs.YtihnkeflcnndpaaDoor
namespace Go.Proofs.YtihnkeflcnndpaaDoor
open Go.RowKit Go.WideShapes Go.Shelf
set_option maxRecDepth 100000

theorem FdV.two {w w1 w2 : World} {L : List (Nat × Nat)} {J : List Nat} {M : List (ByteArray × Nat)} {v : Value} {i x : Nat} (h : FdV w L J M v i x w1) (hb : Below w1.heap.size w1 w2) : FdV w L J M v i x w2 :=
  h.later (Kp.ofBelow (S := fun _ => False) hb) (fun _ h => h.elim)
theorem FdV.an {w w1 : World} {L : List (Nat × Nat)} {J : List Nat} {M : List (ByteArray × Nat)} {v : Value} {i x : Nat} {ao aj : Option Addr} (h : FdV w L J M v i x w1) (hr : CRd w1 ao L w1.heap.size) (hrJ : JRd w1 aj J w1.heap.size) (hJ : ∀ z ∈ J, z < 4294967296) (hJn : J.length ≤ 35184372087808) (hT : TabW w1) (h0 : 0 < w1.heap.size) :
    v = .pointer none ∨ ∃ (B pp p1 g1 p2 g2 : Nat) (lv : Value) (A C : List Nat), v = .pointer (some ⟨pp, 0, none⟩) ∧ AnI w1 L J M B pp p1 g1 p2 g2 lv A C ao aj := by
  rcases h with ⟨h, _⟩ | ⟨h1, h2, h3, B, pp, p1, g1, p2, g2, lv, A, C, e, hP, hA, hC, _, _⟩
  · exact .inl h
  · exact .inr ⟨B, pp, p1, g1, p2, g2, lv, A, C, e, ⟨h3, hP, hA, hC, hr, hrJ, hJ, hJn, hT, h0⟩⟩
set_option maxHeartbeats 4000000 in
theorem findlaw_any (ao aj an : Option Addr) (cap capj capn : Nat) (L : List (Nat × Nat)) (J : List Nat) (M : List (ByteArray × Nat)) (ao' aj' an' : Option Addr) (cap' capj' capn' : Nat) (L' : List (Nat × Nat)) (J' : List Nat) (M' : List (ByteArray × Nat)) (sa : Option Addr) (caps : Nat) (S : List Ak) (w : World)
    (hn : L.length ≤ 17592186043904) (hJn : J.length ≤ 35184372087808) (hMn : M.length ≤ 5864062014634) (hnil : an = none → capn = 0) (hwf : Wfc L) (hJ : ∀ z ∈ J, z < 4294967296) (hM : ∀ j, j < M.length → (M.getD j (.empty, 0)).2 < 4294967296) (hr : CRd w ao L w.heap.size) (hrJ : JRd w aj J w.heap.size) (hrN : NRd w an M w.heap.size)
    (hn' : L'.length ≤ 17592186043904) (hJn' : J'.length ≤ 35184372087808) (hMn' : M'.length ≤ 5864062014634) (hnil' : an' = none → capn' = 0) (hwf' : Wfc L') (hJ' : ∀ z ∈ J', z < 4294967296) (hM' : ∀ j, j < M'.length → (M'.getD j (.empty, 0)).2 < 4294967296) (hr' : CRd w ao' L' w.heap.size) (hrJ' : JRd w aj' J' w.heap.size) (hrN' : NRd w an' M' w.heap.size)
    (hS : AkRd w sa S w.heap.size) (hSo : ∀ s ∈ S, AkOk s) (hSn : S.length ≤ 4611686018427387904) (hT : TabW w) (hp : 0 < w.heap.size) :
    Calls Tryd.prog 3 #[.agg #[.slice ao L.length cap, .slice aj J.length capj, .slice an M.length capn], .agg #[.slice ao' L'.length cap', .slice aj' J'.length capj', .slice an' M'.length capn'], .slice sa S.length caps] w fun e w' => e = .returned (.bool true) ∧ Below w.heap.size w w' := by
  have HRd : Hid (∀ W, Below w.heap.size w W → (CRd W ao L W.heap.size ∧ JRd W aj J W.heap.size ∧ NRd W an M W.heap.size) ∧ (CRd W ao' L' W.heap.size ∧ JRd W aj' J' W.heap.size ∧ NRd W an' M' W.heap.size) ∧ TabW W ∧ 0 < W.heap.size) := hidS (fun W hW => ⟨⟨(hr.below hW).mono hW.size, fun q => by obtain ⟨b, o, e1, e2, e3⟩ := (hrJ.below hW) q; exact ⟨b, o, e1, Nat.lt_of_lt_of_le e2 hW.size, e3⟩, fun q => by obtain ⟨b, o, e1, e2, e3⟩ := (hrN.below hW) q; exact ⟨b, o, e1, Nat.lt_of_lt_of_le e2 hW.size, e3⟩⟩, ⟨(hr'.below hW).mono hW.size, fun q => by obtain ⟨b, o, e1, e2, e3⟩ := (hrJ'.below hW) q; exact ⟨b, o, e1, Nat.lt_of_lt_of_le e2 hW.size, e3⟩, fun q => by obtain ⟨b, o, e1, e2, e3⟩ := (hrN'.below hW) q; exact ⟨b, o, e1, Nat.lt_of_lt_of_le e2 hW.size, e3⟩⟩, hT.below hW hp, Nat.lt_of_lt_of_le hp hW.size⟩)
  have HF1 : Hid (∀ W, Below w.heap.size w W → Calls Tryd.prog 7 #[.agg #[.slice ao L.length cap, .slice aj J.length capj, .slice an M.length capn]] W fun e w' => ∃ (v : Value) (i x : Nat), e = .returned (.tuple #[v, .bool true]) ∧ FdV W L J M v i x w' ∧ Below W.heap.size W w') := hidS (fun W hW => by
    obtain ⟨⟨q1, q2, q3⟩, _, q4, q5⟩ := HRd.out W hW
    exact found_any ao aj an cap capj capn L J M W hn hJn hMn hnil hwf hJ hM q1 q2 q3 q4 q5)
  have HF2 : Hid (∀ W, Below w.heap.size w W → Calls Tryd.prog 7 #[.agg #[.slice ao' L'.length cap', .slice aj' J'.length capj', .slice an' M'.length capn']] W fun e w' => ∃ (v : Value) (i x : Nat), e = .returned (.tuple #[v, .bool true]) ∧ FdV W L' J' M' v i x w' ∧ Below W.heap.size W w') := hidS (fun W hW => by
    obtain ⟨_, ⟨q1, q2, q3⟩, q4, q5⟩ := HRd.out W hW
    exact found_any ao' aj' an' cap' capj' capn' L' J' M' W hn' hJn' hMn' hnil' hwf' hJ' hM' q1 q2 q3 q4 q5)
  have HSr := hidS (fun W (hW : Below w.heap.size w W) => hS.below hW)
  have HSo := hidS hSo
  clear hr hrJ hrN hr' hrJ' hrN' hS hT hSo
  go_enter Tryd.func3, Tryd.ntmps3
  go_wp2_with (go_at_call 7; with_reducible refine (HF1.out _ (belP (belP (Below.refl _ _)))).mono ?_; rintro e w1 ⟨v1, i1, x1, rfl, hV1, hb1⟩; have hB1 : Below w.heap.size w w1 := btP (belP (belP (Below.refl _ _))) hb1; have o1 := (hb1.block w.heap.size (by simp; omega)).trans ((Below.heap_alloc _ _ _ (by simp)).trans (heap_alloc_new w _)); have o2 := (hb1.block (w.heap.size + 1) (by simp)).trans (show _ = some (Obj.cells #[.slice ao' L'.length cap', .slice aj' J'.length capj', .slice an' M'.length capn'] 26) from heap_alloc_new' _ _ _ (by simp)); have t0 := obj_cell o2 0; have t1 := obj_cell o2 1; have t2 := obj_cell o2 2; simp only [List.getElem?_toArray, List.getElem?_cons_succ, List.getElem?_cons_zero] at t0 t1 t2)
  have hs1 : w.heap.size + 1 < w1.heap.size := (Array.getElem?_eq_some_iff.1 o2).1
  have HO := hidS (And.intro o1 o2)
  have HV1 := hidS hV1
  clear o1 o2 hV1
  go_wp2_with (go_at_call 7; with_reducible refine (HF2.out _ hB1).mono ?_; rintro e w2 ⟨v2, i2, x2, rfl, hV2, hb2⟩)
  have HV1' := hidS (HV1.out.two hb2)
  have HV2 := hidS hV2
  have hB2 := btP hB1 hb2
  have HO2 := hidS (And.intro ((hb2.block _ (Nat.lt_of_succ_lt hs1)).trans HO.out.1) ((hb2.block _ hs1).trans HO.out.2))
  have hs2 := Nat.lt_of_lt_of_le hs1 hb2.size
  clear hV2 HV1 HO t0 t1 t2 HF1 HF2
  have C1 : v1 = .pointer none ∨ ∃ pp : Nat, v1 = .pointer (some ⟨pp, 0, none⟩) ∧ Hid (∀ (s : Ak) (W : World), AkOk s → Below w2.heap.size w2 W → Calls Tryd.prog 9 #[.pointer (some ⟨pp, 0, none⟩), .agg #[.slice ao L.length cap, .slice aj J.length capj, .slice an M.length capn], .agg #[.int .i64 s.1, .int .i64 s.2.1, .int .i64 s.2.2.1, .int .u32 (s.2.2.2.1 : Nat), .int .u32 (s.2.2.2.2 : Nat)]] W fun e w' => e = .returned (.bool true) ∧ Below W.heap.size W w') := by
    obtain ⟨⟨q1, q2, q3⟩, _, q4, q5⟩ := HRd.out _ hB2
    rcases HV1'.out.an q1 q2 hJ hJn q4 q5 with h | ⟨B, pp, p1, g1, p2, g2, lv, A, C, h, hI⟩
    · exact .inl h
    · exact .inr ⟨pp, h, hidS (fun s W hs hW => answers_any ao aj an cap capj M.length capn s.1 s.2.1 s.2.2.1 s.2.2.2.1 s.2.2.2.2 W hs.x0 hs.x1 hs.b4 hs.c4 (hI.below hW (q4.below hW q5)))⟩
  have C2 : v2 = .pointer none ∨ ∃ pp : Nat, v2 = .pointer (some ⟨pp, 0, none⟩) ∧ Hid (∀ (s : Ak) (W : World), AkOk s → Below w2.heap.size w2 W → Calls Tryd.prog 9 #[.pointer (some ⟨pp, 0, none⟩), .agg #[.slice ao' L'.length cap', .slice aj' J'.length capj', .slice an' M'.length capn'], .agg #[.int .i64 s.1, .int .i64 s.2.1, .int .i64 s.2.2.1, .int .u32 (s.2.2.2.1 : Nat), .int .u32 (s.2.2.2.2 : Nat)]] W fun e w' => e = .returned (.bool true) ∧ Below W.heap.size W w') := by
    obtain ⟨_, ⟨q1, q2, q3⟩, q4, q5⟩ := HRd.out _ hB2
    rcases HV2.out.an q1 q2 hJ' hJn' q4 q5 with h | ⟨B, pp, p1, g1, p2, g2, lv, A, C, h, hI⟩
    · exact .inl h
    · exact .inr ⟨pp, h, hidS (fun s W hs hW => answers_any ao' aj' an' cap' capj' M'.length capn' s.1 s.2.1 s.2.2.1 s.2.2.2.1 s.2.2.2.2 W hs.x0 hs.x1 hs.b4 hs.c4 (hI.below hW (q4.below hW q5)))⟩
  have HC1 := hidS C1
  have HC2 := hidS C2
  clear C1 C2 HV1' HV2 HRd hwf hwf' hJ hJ' hM hM' hnil hnil'
  go_wp2
  go_loopw [10] (fun v wr => ∃ k : Nat, v = .int .i64 k ∧ k ≤ S.length ∧ Below w2.heap.size w2 wr) (fun v _ => S.length - (intOf v).toNat)
  case atStart => exact ⟨0, rfl, Nat.zero_le _, Below.refl _ _⟩
  case round =>
    obtain ⟨k, rfl, hk, hw⟩ := hrel
    by_cases hlt : k < S.length
    · have hltI : (k : Int) < (S.length : Int) := by omega
      have hk0 : (0 : Int) ≤ (k : Int) := by omega
      have hBW := btP hB2 hw
      have hsr := hw.size
      obtain ⟨b, off, rfl, hb, hc⟩ := HSr.out wr hBW (Nat.lt_of_le_of_lt (Nat.zero_le _) hlt)
      obtain ⟨s0, s1, s2, s3, s4⟩ := hc k hlt
      have hso : AkOk (S.getD k (0, 0, 0, 0, 0)) := HSo.out _ (by rw [List.getD_eq_getElem?_getD, List.getElem?_eq_getElem hlt]; exact List.getElem_mem hlt)
      obtain ⟨sk, hsk⟩ : ∃ sk, S.getD k (0, 0, 0, 0, 0) = sk := ⟨_, rfl⟩
      rw [hsk] at s0 s1 s2 s3 s4 hso
      clear hc hsk
      have HSk := hidS hso
      have hPk := pick_any sk.1 2 (wr.alloc (Obj.cells #[.slice ao L.length cap, .slice aj J.length capj, .slice an M.length capn] 26)) hso.o0 hso.o1 (by decide) (by decide)
      obtain ⟨on, kd, x, bb, cc⟩ := sk
      dsimp only at s0 s1 s2 s3 s4 hPk
      have q1 := (hw.block _ (Nat.lt_of_succ_lt hs2)).trans HO2.out.1
      have q2 := (hw.block _ hs2).trans HO2.out.2
      have p0 := obj_cell q1 0
      have p1 := obj_cell q1 1
      have p2 := obj_cell q1 2
      have t0 := obj_cell q2 0
      have t1 := obj_cell q2 1
      have t2 := obj_cell q2 2
      simp only [List.getElem?_toArray, List.getElem?_cons_succ, List.getElem?_cons_zero] at p0 p1 p2 t0 t1 t2
      have hbw : b < wr.heap.size := Nat.lt_of_lt_of_le hb (Nat.le_trans hB2.size hsr)
      have z0 : ∀ o, (wr.alloc o).cell? ⟨b, off + k * 5, none⟩ = some (.int .i64 on) := fun o => ((belP (o := o) (Below.refl _ wr)).cell (p := ⟨b, off + k * 5, none⟩) hbw).trans s0
      clear q1 q2 hso
      by_cases hon : on % 2 = 1
      · rw [hon] at hPk
        have y0 : ∀ o, (wr.alloc o).cell? ⟨w.heap.size + 1, 0, none⟩ = some (.slice ao' L'.length cap') := fun o => ((belP (o := o) (Below.refl _ wr)).cell (p := ⟨w.heap.size + 1, 0, none⟩) (Nat.lt_of_lt_of_le hs2 hsr)).trans t0
        have y1 : ∀ o, (wr.alloc o).cell? ⟨w.heap.size + 1, 1, none⟩ = some (.slice aj' J'.length capj') := fun o => ((belP (o := o) (Below.refl _ wr)).cell (p := ⟨w.heap.size + 1, 1, none⟩) (Nat.lt_of_lt_of_le hs2 hsr)).trans t1
        have y2 : ∀ o, (wr.alloc o).cell? ⟨w.heap.size + 1, 2, none⟩ = some (.slice an' M'.length capn') := fun o => ((belP (o := o) (Below.refl _ wr)).cell (p := ⟨w.heap.size + 1, 2, none⟩) (Nat.lt_of_lt_of_le hs2 hsr)).trans t2
        clear t0 t1 t2
        go_wp2_with (go_at_call 8; with_reducible refine hPk.mono ?_; rintro e w3 ⟨rfl, hw3⟩; have hw3 := hw3.symm; subst hw3)
        have hw15 : Below w2.heap.size w2 (wr.alloc (Obj.cells #[.slice ao' L'.length cap', .slice aj' J'.length capj', .slice an' M'.length capn'] 26)) := belP hw
        have HB15 := hidS hw15
        have HB15D : Hid (Below w2.heap.size w2 (wr.alloc (Obj.cells #[.slice ao' L'.length cap', .slice aj' J'.length capj', .slice an' M'.length capn'] 26)).drew) := hidS (below_drewN hw15 1)
        have HS : Hid (∀ V, Below (wr.alloc (Obj.cells #[.slice ao' L'.length cap', .slice aj' J'.length capj', .slice an' M'.length capn'] 26)).heap.size (wr.alloc (Obj.cells #[.slice ao' L'.length cap', .slice aj' J'.length capj', .slice an' M'.length capn'] 26)) V → V.cell? ⟨wr.heap.size, 0, none⟩ = some (.slice ao' L'.length cap') ∧ V.cell? ⟨wr.heap.size, 1, none⟩ = some (.slice aj' J'.length capj') ∧ V.cell? ⟨wr.heap.size, 2, none⟩ = some (.slice an' M'.length capn') ∧ V.cell? ⟨b, off + k * 5, none⟩ = some (.int .i64 on) ∧ V.cell? ⟨b, off + k * 5 + 1, none⟩ = some (.int .i64 kd) ∧ V.cell? ⟨b, off + k * 5 + 2, none⟩ = some (.int .i64 x) ∧ V.cell? ⟨b, off + k * 5 + 3, none⟩ = some (.int .u32 (bb : Int)) ∧ V.cell? ⟨b, off + k * 5 + 4, none⟩ = some (.int .u32 (cc : Int))) := hidS (fun V hV => ⟨(hV.cell (p := ⟨wr.heap.size, 0, none⟩) (by simp)).trans (obj_cell (heap_alloc_new wr _) 0), (hV.cell (p := ⟨wr.heap.size, 1, none⟩) (by simp)).trans (obj_cell (heap_alloc_new wr _) 1), (hV.cell (p := ⟨wr.heap.size, 2, none⟩) (by simp)).trans (obj_cell (heap_alloc_new wr _) 2), (hV.cell (p := ⟨b, off + k * 5, none⟩) (Nat.lt_of_lt_of_le hbw (belP (Below.refl _ wr)).size)).trans (((belP (Below.refl _ wr)).cell (p := ⟨b, off + k * 5, none⟩) hbw).trans s0), (hV.cell (p := ⟨b, off + k * 5 + 1, none⟩) (Nat.lt_of_lt_of_le hbw (belP (Below.refl _ wr)).size)).trans (((belP (Below.refl _ wr)).cell (p := ⟨b, off + k * 5 + 1, none⟩) hbw).trans s1), (hV.cell (p := ⟨b, off + k * 5 + 2, none⟩) (Nat.lt_of_lt_of_le hbw (belP (Below.refl _ wr)).size)).trans (((belP (Below.refl _ wr)).cell (p := ⟨b, off + k * 5 + 2, none⟩) hbw).trans s2), (hV.cell (p := ⟨b, off + k * 5 + 3, none⟩) (Nat.lt_of_lt_of_le hbw (belP (Below.refl _ wr)).size)).trans (((belP (Below.refl _ wr)).cell (p := ⟨b, off + k * 5 + 3, none⟩) hbw).trans s3), (hV.cell (p := ⟨b, off + k * 5 + 4, none⟩) (Nat.lt_of_lt_of_le hbw (belP (Below.refl _ wr)).size)).trans (((belP (Below.refl _ wr)).cell (p := ⟨b, off + k * 5 + 4, none⟩) hbw).trans s4)⟩)
        have HR0 := hidS (Below.refl (wr.alloc (Obj.cells #[.slice ao' L'.length cap', .slice aj' J'.length capj', .slice an' M'.length capn'] 26)).heap.size (wr.alloc (Obj.cells #[.slice ao' L'.length cap', .slice aj' J'.length capj', .slice an' M'.length capn'] 26)))
        have HR1 : Hid (Below (wr.alloc (Obj.cells #[.slice ao' L'.length cap', .slice aj' J'.length capj', .slice an' M'.length capn'] 26)).heap.size (wr.alloc (Obj.cells #[.slice ao' L'.length cap', .slice aj' J'.length capj', .slice an' M'.length capn'] 26)) (wr.alloc (Obj.cells #[.slice ao' L'.length cap', .slice aj' J'.length capj', .slice an' M'.length capn'] 26)).drew) := hidS (below_drewN (Below.refl _ _) 1)
        clear s0 s1 s2 s3 s4 z0 hPk hon
        rcases HC2.out with rfl | ⟨pp, rfl, HA⟩
        · go_quiet (fail)
          go_wp2
          go_roundw
          case rel => exact ⟨k + 1, by go_num, by omega, by first | exact HB15D.out | exact below_drewN HB15.out _⟩
          case measure => simp [intOf]; omega
        · have hA := HA.out (on, kd, x, bb, cc) (wr.alloc (Obj.cells #[.slice ao' L'.length cap', .slice aj' J'.length capj', .slice an' M'.length capn'] 26)).drew HSk.out HB15D.out
          dsimp only at hA
          go_region_held3 (fun V => V.cell? ⟨wr.heap.size, 0, none⟩ = some (.slice ao' L'.length cap') ∧ V.cell? ⟨wr.heap.size, 1, none⟩ = some (.slice aj' J'.length capj') ∧ V.cell? ⟨wr.heap.size, 2, none⟩ = some (.slice an' M'.length capn') ∧ V.cell? ⟨b, off + k * 5, none⟩ = some (.int .i64 on) ∧ V.cell? ⟨b, off + k * 5 + 1, none⟩ = some (.int .i64 kd) ∧ V.cell? ⟨b, off + k * 5 + 2, none⟩ = some (.int .i64 x) ∧ V.cell? ⟨b, off + k * 5 + 3, none⟩ = some (.int .u32 (bb : Int)) ∧ V.cell? ⟨b, off + k * 5 + 4, none⟩ = some (.int .u32 (cc : Int))) (first | exact HS.out _ HR0.out | exact HS.out _ HR1.out | exact HS.out _ (btP HR1.out hb4)) (first
            | (go_at_call 9; with_reducible refine hA.mono ?_; rintro e4 w4 ⟨rfl, hb4⟩))
          have hb24 := btP HB15D.out hb4
          go_wp2
          go_roundw
          case rel => exact ⟨k + 1, by go_num, by omega, hb24⟩
          case measure => simp [intOf]; omega
      · have hon0 : on % 2 = 0 := by omega
        rw [hon0] at hPk
        go_wp2_with (go_at_call 8; with_reducible refine hPk.mono ?_; rintro e w3 ⟨rfl, hw3⟩; have hw3 := hw3.symm; subst hw3)
        have hw15 : Below w2.heap.size w2 (wr.alloc (Obj.cells #[.slice ao L.length cap, .slice aj J.length capj, .slice an M.length capn] 26)) := belP hw
        have HB15 := hidS hw15
        have HB15D : Hid (Below w2.heap.size w2 (wr.alloc (Obj.cells #[.slice ao L.length cap, .slice aj J.length capj, .slice an M.length capn] 26)).drew) := hidS (below_drewN hw15 1)
        have HS : Hid (∀ V, Below (wr.alloc (Obj.cells #[.slice ao L.length cap, .slice aj J.length capj, .slice an M.length capn] 26)).heap.size (wr.alloc (Obj.cells #[.slice ao L.length cap, .slice aj J.length capj, .slice an M.length capn] 26)) V → V.cell? ⟨wr.heap.size, 0, none⟩ = some (.slice ao L.length cap) ∧ V.cell? ⟨wr.heap.size, 1, none⟩ = some (.slice aj J.length capj) ∧ V.cell? ⟨wr.heap.size, 2, none⟩ = some (.slice an M.length capn) ∧ V.cell? ⟨b, off + k * 5, none⟩ = some (.int .i64 on) ∧ V.cell? ⟨b, off + k * 5 + 1, none⟩ = some (.int .i64 kd) ∧ V.cell? ⟨b, off + k * 5 + 2, none⟩ = some (.int .i64 x) ∧ V.cell? ⟨b, off + k * 5 + 3, none⟩ = some (.int .u32 (bb : Int)) ∧ V.cell? ⟨b, off + k * 5 + 4, none⟩ = some (.int .u32 (cc : Int))) := hidS (fun V hV => ⟨(hV.cell (p := ⟨wr.heap.size, 0, none⟩) (by simp)).trans (obj_cell (heap_alloc_new wr _) 0), (hV.cell (p := ⟨wr.heap.size, 1, none⟩) (by simp)).trans (obj_cell (heap_alloc_new wr _) 1), (hV.cell (p := ⟨wr.heap.size, 2, none⟩) (by simp)).trans (obj_cell (heap_alloc_new wr _) 2), (hV.cell (p := ⟨b, off + k * 5, none⟩) (Nat.lt_of_lt_of_le hbw (belP (Below.refl _ wr)).size)).trans (((belP (Below.refl _ wr)).cell (p := ⟨b, off + k * 5, none⟩) hbw).trans s0), (hV.cell (p := ⟨b, off + k * 5 + 1, none⟩) (Nat.lt_of_lt_of_le hbw (belP (Below.refl _ wr)).size)).trans (((belP (Below.refl _ wr)).cell (p := ⟨b, off + k * 5 + 1, none⟩) hbw).trans s1), (hV.cell (p := ⟨b, off + k * 5 + 2, none⟩) (Nat.lt_of_lt_of_le hbw (belP (Below.refl _ wr)).size)).trans (((belP (Below.refl _ wr)).cell (p := ⟨b, off + k * 5 + 2, none⟩) hbw).trans s2), (hV.cell (p := ⟨b, off + k * 5 + 3, none⟩) (Nat.lt_of_lt_of_le hbw (belP (Below.refl _ wr)).size)).trans (((belP (Below.refl _ wr)).cell (p := ⟨b, off + k * 5 + 3, none⟩) hbw).trans s3), (hV.cell (p := ⟨b, off + k * 5 + 4, none⟩) (Nat.lt_of_lt_of_le hbw (belP (Below.refl _ wr)).size)).trans (((belP (Below.refl _ wr)).cell (p := ⟨b, off + k * 5 + 4, none⟩) hbw).trans s4)⟩)
        have HR0 := hidS (Below.refl (wr.alloc (Obj.cells #[.slice ao L.length cap, .slice aj J.length capj, .slice an M.length capn] 26)).heap.size (wr.alloc (Obj.cells #[.slice ao L.length cap, .slice aj J.length capj, .slice an M.length capn] 26)))
        have HR1 : Hid (Below (wr.alloc (Obj.cells #[.slice ao L.length cap, .slice aj J.length capj, .slice an M.length capn] 26)).heap.size (wr.alloc (Obj.cells #[.slice ao L.length cap, .slice aj J.length capj, .slice an M.length capn] 26)) (wr.alloc (Obj.cells #[.slice ao L.length cap, .slice aj J.length capj, .slice an M.length capn] 26)).drew) := hidS (below_drewN (Below.refl _ _) 1)
        clear s0 s1 s2 s3 s4 z0 hPk hon
        rcases HC1.out with rfl | ⟨pp, rfl, HA⟩
        · go_quiet (fail)
          go_wp2
          go_roundw
          case rel => exact ⟨k + 1, by go_num, by omega, by first | exact HB15D.out | exact below_drewN HB15.out _⟩
          case measure => simp [intOf]; omega
        · have hA := HA.out (on, kd, x, bb, cc) (wr.alloc (Obj.cells #[.slice ao L.length cap, .slice aj J.length capj, .slice an M.length capn] 26)).drew HSk.out HB15D.out
          dsimp only at hA
          go_region_held3 (fun V => V.cell? ⟨wr.heap.size, 0, none⟩ = some (.slice ao L.length cap) ∧ V.cell? ⟨wr.heap.size, 1, none⟩ = some (.slice aj J.length capj) ∧ V.cell? ⟨wr.heap.size, 2, none⟩ = some (.slice an M.length capn) ∧ V.cell? ⟨b, off + k * 5, none⟩ = some (.int .i64 on) ∧ V.cell? ⟨b, off + k * 5 + 1, none⟩ = some (.int .i64 kd) ∧ V.cell? ⟨b, off + k * 5 + 2, none⟩ = some (.int .i64 x) ∧ V.cell? ⟨b, off + k * 5 + 3, none⟩ = some (.int .u32 (bb : Int)) ∧ V.cell? ⟨b, off + k * 5 + 4, none⟩ = some (.int .u32 (cc : Int))) (first | exact HS.out _ HR0.out | exact HS.out _ HR1.out | exact HS.out _ (btP HR1.out hb4)) (first
            | (go_at_call 9; with_reducible refine hA.mono ?_; rintro e4 w4 ⟨rfl, hb4⟩))
          have hb24 := btP HB15D.out hb4
          go_wp2
          go_roundw
          case rel => exact ⟨k + 1, by go_num, by omega, hb24⟩
          case measure => simp [intOf]; omega
    · have hltI : ¬ (k : Int) < (S.length : Int) := by omega
      go_wp2
      go_ret
      exact ⟨rfl, btP hB2 hw⟩
end Go.Proofs.YtihnkeflcnndpaaDoor
