import Derived.Test.YtpahpdgkahomlaaGreatDoorCVSm
import Derived.Deep.RegionHeld3
import Derived.BigQuiet
namespace Go.Proofs.YtpahpdgkahomlaaGreatDoor
open Go.RowKit Go.WideShapes Go.Shelf
set_option maxRecDepth 100000

set_option maxHeartbeats 16000000 in
theorem sound_k8 (pm i op arg pb pe pf wi mo ta gi : Nat) (wd : ByteArray) (nd : Int) (D : List Int) (e3 e5 bk : Bool) (w : World)
    (HAt : Hid (∀ W, Below w.heap.size w W → Calls Tryz.prog 24 #[.pointer (some ⟨pm, 0, none⟩), .int .u32 i] W fun e w' => e = .returned (.tuple #[.agg #[.int .u8 op, .int .u32 arg], .bool true]) ∧ Below W.heap.size W w'))
    (HPr : Hid (∀ W, Below w.heap.size w W → Calls Tryz.prog 25 #[.pointer (some ⟨pm, 0, none⟩), .int .u32 i] W fun e w' => e = .returned (.tuple #[.agg #[.int .u32 pb, .int .u32 pe, .int .u32 pf, .int .i64 nd], .bool true]) ∧ Below W.heap.size W w'))
    (HIn : Hid (∀ W, Calls Tryz.prog 26 #[.int .u8 op] W fun e w' => e = .returned (.tuple #[.agg #[.string wd, .int .i64 wi, .int .u32 mo, .int .i64 ta, .int .i64 gi, .int .u8 8], .bool true]) ∧ Below W.heap.size W w'))
    (HBe : Hid (∀ W, Below w.heap.size w W → Calls Tryz.prog 27 #[.pointer (some ⟨pm, 0, none⟩), .int .u32 i] W fun e w' => e = .returned (.bool e3) ∧ w' = W))
    (HDe : Hid (∀ (j : Nat) W, j < 4294967296 → Below w.heap.size w W → Calls Tryz.prog 8 #[.pointer (some ⟨pm, 0, none⟩), .int .u32 j] W fun e w' => e = .returned (.int .i64 (D.getD j (-1))) ∧ w' = W))
    (HBk : Hid (∀ W, Below w.heap.size w W → Calls Tryz.prog 28 #[.pointer (some ⟨pm, 0, none⟩), .int .u32 ((i : Int) + 1)] W fun e w' => e = .returned (.bool bk) ∧ Below W.heap.size W w'))
    (hi : i < 16384) (harg : arg < 4294967296) (hpe : pe ≤ 16384) (h1 : pb ≤ i) (h2 : i < pe) (hE3 : ((op : Int) == 3) = e3) (hP3 : ((i : Int) == (pb : Int)) = e3) (hE5 : ((op : Int) == 5) = e5) (hnd : 0 ≤ nd ∧ nd ≤ 64)
    (HL : Hid (i + 1 = pe → 8 = 3 ∨ 8 = 4 ∨ 8 = 7 ∨ 8 = 8)) (H7 : Hid (8 = 7 → arg = pf)) (HA : Hid (8 = 3 ∨ 8 = 2 → pb < arg ∧ arg < pe))
    (HN : Hid (D.getD i (-1) < 0 → bk = false))
    (HP : Hid (0 ≤ D.getD i (-1) → bk = e5 ∧ D.getD i (-1) ≤ nd ∧ D.getD i (-1) - ta + gi ≤ nd ∧ (ta : Int) ≤ D.getD i (-1) ∧ (8 = 7 → D.getD i (-1) = 1) ∧ (8 ≠ 3 → 8 ≠ 4 → 8 ≠ 7 → 8 ≠ 8 → i + 1 < pe ∧ D.getD (i + 1) (-1) = D.getD i (-1) - ta + gi) ∧ (8 = 3 ∨ 8 = 2 → D.getD arg (-1) = D.getD i (-1) - ta + gi))) :
    Calls Tryz.prog 10 #[.pointer (some ⟨pm, 0, none⟩), .int .u32 i] w fun e w' => e = .returned (.bool true) ∧ Below w.heap.size w w' := by
  have _hu := And.intro HL (And.intro H7 (And.intro HA (And.intro harg (And.intro hpe hi))))
  clear _hu
  have h1I : decide ((i : Int) < (pb : Int)) = false := by simp; omega
  have h2I : decide ((pe : Int) ≤ (i : Int)) = false := by simp; omega
  go_enter Tryz.func10, Tryz.ntmps10
  go_wp2_with fail
  refine (HAt.out w (Below.refl _ _)).mono ?_
  rintro e w1 ⟨rfl, hb1⟩
  obtain ⟨W1, hW1⟩ : ∃ W1, w1.alloc (Obj.cells #[.int .u8 op, .int .u32 arg] 70) = W1 := ⟨_, rfl⟩
  have hbW1 : Below w.heap.size w W1 := by rw [← hW1]; exact belP hb1
  have o5 : W1.heap[w1.heap.size]? = some (Obj.cells #[.int .u8 op, .int .u32 arg] 70) := by rw [← hW1]; exact heap_alloc_last w1 _
  go_wp2_with fail
  refine (HPr.out W1 hbW1).mono ?_
  rintro e w2 ⟨rfl, hb2⟩
  obtain ⟨W2, hW2⟩ : ∃ W2, w2.alloc (Obj.cells #[.int .u32 pb, .int .u32 pe, .int .u32 pf, .int .i64 nd] 40) = W2 := ⟨_, rfl⟩
  have hbW2 : Below W1.heap.size W1 W2 := by rw [← hW2]; exact belP hb2
  have o7 : W2.heap[w2.heap.size]? = some (Obj.cells #[.int .u32 pb, .int .u32 pe, .int .u32 pf, .int .i64 nd] 40) := by rw [← hW2]; exact heap_alloc_last w2 _
  have o52 := (hbW2.block _ (Array.getElem?_eq_some_iff.1 o5).1).trans o5
  have c5a : W2.cell? ⟨w1.heap.size, 0, none⟩ = some (.int .u8 op) := (obj_cell o52 0).trans rfl
  have c5b : (w2.alloc (Obj.cells #[.int .u32 pb, .int .u32 pe, .int .u32 pf, .int .i64 nd] 40)).cell? ⟨w1.heap.size, 0, none⟩ = some (.int .u8 op) := by rw [hW2]; exact c5a
  go_wp2_with fail
  refine (HIn.out W2).mono ?_
  rintro e w3 ⟨rfl, hb3⟩
  obtain ⟨W3, hW3⟩ : ∃ W3, w3.alloc (Obj.cells #[.string wd, .int .i64 wi, .int .u32 mo, .int .i64 ta, .int .i64 gi, .int .u8 8] 77) = W3 := ⟨_, rfl⟩
  have hbW3 : Below W2.heap.size W2 W3 := by rw [← hW3]; exact belP hb3
  have o9 : W3.heap[w3.heap.size]? = some (Obj.cells #[.string wd, .int .i64 wi, .int .u32 mo, .int .i64 ta, .int .i64 gi, .int .u8 8] 77) := by rw [← hW3]; exact heap_alloc_last w3 _
  have o53 := (hbW3.block _ (Array.getElem?_eq_some_iff.1 o52).1).trans o52
  have o73 := (hbW3.block _ (Array.getElem?_eq_some_iff.1 o7).1).trans o7
  have hbW : Below w.heap.size w W3 := btP hbW1 (btP hbW2 hbW3)
  have HCe : Hid (∀ W, Below W3.heap.size W3 W → (W.cell? ⟨w1.heap.size, 0, none⟩ = some (.int .u8 op) ∧ W.cell? ⟨w1.heap.size, 1, none⟩ = some (.int .u32 arg)) ∧ (W.cell? ⟨w2.heap.size, 0, none⟩ = some (.int .u32 pb) ∧ W.cell? ⟨w2.heap.size, 1, none⟩ = some (.int .u32 pe) ∧ W.cell? ⟨w2.heap.size, 2, none⟩ = some (.int .u32 pf) ∧ W.cell? ⟨w2.heap.size, 3, none⟩ = some (.int .i64 nd)) ∧ (W.cell? ⟨w3.heap.size, 3, none⟩ = some (.int .i64 ta) ∧ W.cell? ⟨w3.heap.size, 4, none⟩ = some (.int .i64 gi) ∧ W.cell? ⟨w3.heap.size, 5, none⟩ = some (.int .u8 8))) := hidS (fun W hW => by
    have p5 := (hW.block _ (Array.getElem?_eq_some_iff.1 o53).1).trans o53
    have p7 := (hW.block _ (Array.getElem?_eq_some_iff.1 o73).1).trans o73
    have p9 := (hW.block _ (Array.getElem?_eq_some_iff.1 o9).1).trans o9
    exact ⟨⟨(obj_cell p5 0).trans rfl, (obj_cell p5 1).trans rfl⟩, ⟨(obj_cell p7 0).trans rfl, (obj_cell p7 1).trans rfl, (obj_cell p7 2).trans rfl, (obj_cell p7 3).trans rfl⟩, (obj_cell p9 3).trans rfl, (obj_cell p9 4).trans rfl, (obj_cell p9 5).trans rfl⟩)
  obtain ⟨⟨c50, c51⟩, ⟨c70, c71, c72, c73⟩, c93, c94, c95⟩ := HCe.out W3 (Below.refl _ _)
  have HBW := hidS hbW
  clear o5 o7 o9 o52 o53 o73 hW1 hW2 hb1 hb2 hb3 hbW1 hbW2 hbW3 c5a c5b hbW HAt HPr HIn
  go_wp2_with fail
  clear hW3
  go_quiet ((go_at_call 27; exact Calls.quiet_of ((HBe.out _ (below_drewN HBW.out _)).mono (fun e w' h => ⟨h.1, 0, h.2⟩))))
  obtain ⟨W4, hW4⟩ : ∃ W4, W3.drewN nq = W4 := ⟨_, rfl⟩
  have hb34 : Below W3.heap.size W3 W4 := by rw [← hW4]; exact below_drewN (Below.refl _ _) _
  have HB4 := hidS (btP HBW.out hb34)
  have HC4 : Hid (∀ W, Below W4.heap.size W4 W → (W.cell? ⟨w1.heap.size, 0, none⟩ = some (.int .u8 op) ∧ W.cell? ⟨w1.heap.size, 1, none⟩ = some (.int .u32 arg)) ∧ (W.cell? ⟨w2.heap.size, 0, none⟩ = some (.int .u32 pb) ∧ W.cell? ⟨w2.heap.size, 1, none⟩ = some (.int .u32 pe) ∧ W.cell? ⟨w2.heap.size, 2, none⟩ = some (.int .u32 pf) ∧ W.cell? ⟨w2.heap.size, 3, none⟩ = some (.int .i64 nd)) ∧ (W.cell? ⟨w3.heap.size, 3, none⟩ = some (.int .i64 ta) ∧ W.cell? ⟨w3.heap.size, 4, none⟩ = some (.int .i64 gi) ∧ W.cell? ⟨w3.heap.size, 5, none⟩ = some (.int .u8 8))) := hidS (fun W hW => HCe.out W (btP hb34 hW))
  rw [hW4, show decide (i < pb) = false from decide_eq_false (by omega), show decide (pe ≤ i) = false from decide_eq_false (by omega)]
  simp only [Bool.or_self]
  clear c50 c51 c70 c71 c72 c73 c93 c94 c95 HCe HBW hb34 hW4 HBe h1I h2I
  obtain ⟨⟨c50, c51⟩, ⟨c70, c71, c72, c73⟩, c93, c94, c95⟩ := HC4.out W4 (Below.refl _ _)
  have hD4 := HDe.out i W4 (by omega) HB4.out
  generalize D.getD i (-1) = d at hD4 HN HP
  have hq : ((pe : Int) - 1) % 4294967296 = (pe : Int) - 1 := by omega
  have hq1 : ((i : Int) + 1) % 4294967296 = (i : Int) + 1 := by omega
  have hnd0 : decide (nd < 0) = false := by simp; omega
  have hnd1 : decide (64 < nd) = false := by simp; omega
  have HND := hidS hnd
  have HPB := hidS h1
  clear hnd hE3 hP3 h1
  · -- kind 8
    have HPk := HP.out
    have HNk := HN.out
    clear HP HN
    by_cases hnl : i + 1 = pe
    · have hel : ((i : Int) == (pe : Int) - 1) = true := by rw [beq_iff_eq]; omega
      by_cases hd : d < 0
      · have hbk := HNk hd
        subst hbk
        have hBk := HBk.out W4 HB4.out
        clear HPk HNk HL H7 HA HDe HC4 HBk HND hnl
        go_wp2_with (first
          | (go_at_call 8; refine hD4.mono ?_; rintro e w5 ⟨rfl, hw5⟩; have hw5 := hw5.symm; subst hw5)
          | (go_at_call 28; refine hBk.mono ?_; rintro e w6 ⟨rfl, hb6⟩))
        go_ret
        exact ⟨rfl, btP HB4.out hb6⟩
      · obtain ⟨hbk, hp1, hp2, hp3, hp4, hp5, hp6⟩ := HPk (by omega)
        subst hbk
        have hdI : ¬ d < 0 := hd
        have hta : (ta : Int) ≤ d := hp3
        have ht1 : decide (nd < d) = false := by simp; omega
        have ht2 : decide (nd < d - (ta : Int) + (gi : Int)) = false := by simp; omega
        have ht3 : decide (d < (ta : Int)) = false := by simp; omega
        have hb64 : d ≤ 64 := by have := HND.out; omega
        have hg64 : (gi : Int) ≤ 64 := by have := HND.out; omega
        go_wp2_with (go_at_call 8; refine hD4.mono ?_; rintro e w5 ⟨rfl, hw5⟩; have hw5 := hw5.symm; subst hw5)
        obtain ⟨rs, hrs⟩ : ∃ rs, d - (ta : Int) + (gi : Int) = rs := ⟨_, rfl⟩
        rw [hrs] at ht2
        simp only [hrs]
        have hw32 : IntKind.u32.wrap ((i : Int) + 1) = (i : Int) + 1 := by rw [IntKind.wrap_u32]; omega
        have gW : ∀ w', Below W4.heap.size W4 w' → (w'.cell? ⟨w2.heap.size, 3, none⟩ = some (.int .i64 nd) ∧ w'.cell? ⟨w3.heap.size, 3, none⟩ = some (.int .i64 ta) ∧ w'.cell? ⟨w1.heap.size, 0, none⟩ = some (.int .u8 op)) := fun w' h => ⟨(HC4.out w' h).2.1.2.2.2, (HC4.out w' h).2.2.1, (HC4.out w' h).1.1⟩
        have HB : Below W4.heap.size W4 W4 := Below.refl _ _
        have HRS := hidS hrs
        clear hrs
        go_region_held3 (fun w' => w'.cell? ⟨w2.heap.size, 3, none⟩ = some (.int .i64 nd) ∧ w'.cell? ⟨w3.heap.size, 3, none⟩ = some (.int .i64 ta) ∧ w'.cell? ⟨w1.heap.size, 0, none⟩ = some (.int .u8 op)) ((refine gW _ ?_; (repeat (first | exact HB | exact Below.refl _ _ | with_reducible refine belP ?_ | with_reducible refine Below.drew ?_)))) (first
          | (go_at_call 28; with_reducible refine (HBk.out _ (btP HB4.out (show Below W4.heap.size W4 _ from by (repeat (first | exact HB | exact Below.refl _ _ | with_reducible refine belP ?_ | with_reducible refine Below.drew ?_))))).mono ?_; rintro e w6 ⟨rfl, hq⟩; replace HB : Below W4.heap.size W4 w6 := btP (show Below W4.heap.size W4 _ from by (repeat (first | exact HB | exact Below.refl _ _ | with_reducible refine belP ?_ | with_reducible refine Below.drew ?_))) hq; clear hq))
        obtain ⟨⟨m50, m51⟩, ⟨m70, m71, m72, m73⟩, m93, m94, m95⟩ := HC4.out w6 HB
        have hb06 := btP HB4.out HB
        have HB6 := hidS hb06
        clear c50 c51 c70 c71 c72 c73 c93 c94 c95 HB gW HC4 HDe HBk HRS hD4 hb06
        go_wp2_with fail
        go_ret
        exact ⟨rfl, HB6.out⟩
    · have hel : ((i : Int) == (pe : Int) - 1) = false := by rw [beq_eq_false_iff_ne]; omega
      by_cases hd : d < 0
      · have hbk := HNk hd
        subst hbk
        have hBk := HBk.out W4 HB4.out
        clear HPk HNk HL H7 HA HDe HC4 HBk HND hnl
        go_wp2_with (first
          | (go_at_call 8; refine hD4.mono ?_; rintro e w5 ⟨rfl, hw5⟩; have hw5 := hw5.symm; subst hw5)
          | (go_at_call 28; refine hBk.mono ?_; rintro e w6 ⟨rfl, hb6⟩))
        go_ret
        exact ⟨rfl, btP HB4.out hb6⟩
      · obtain ⟨hbk, hp1, hp2, hp3, hp4, hp5, hp6⟩ := HPk (by omega)
        subst hbk
        have hdI : ¬ d < 0 := hd
        have hta : (ta : Int) ≤ d := hp3
        have ht1 : decide (nd < d) = false := by simp; omega
        have ht2 : decide (nd < d - (ta : Int) + (gi : Int)) = false := by simp; omega
        have ht3 : decide (d < (ta : Int)) = false := by simp; omega
        have hb64 : d ≤ 64 := by have := HND.out; omega
        have hg64 : (gi : Int) ≤ 64 := by have := HND.out; omega
        go_wp2_with (go_at_call 8; refine hD4.mono ?_; rintro e w5 ⟨rfl, hw5⟩; have hw5 := hw5.symm; subst hw5)
        obtain ⟨rs, hrs⟩ : ∃ rs, d - (ta : Int) + (gi : Int) = rs := ⟨_, rfl⟩
        rw [hrs] at ht2
        simp only [hrs]
        have hw32 : IntKind.u32.wrap ((i : Int) + 1) = (i : Int) + 1 := by rw [IntKind.wrap_u32]; omega
        have gW : ∀ w', Below W4.heap.size W4 w' → (w'.cell? ⟨w2.heap.size, 3, none⟩ = some (.int .i64 nd) ∧ w'.cell? ⟨w3.heap.size, 3, none⟩ = some (.int .i64 ta) ∧ w'.cell? ⟨w1.heap.size, 0, none⟩ = some (.int .u8 op)) := fun w' h => ⟨(HC4.out w' h).2.1.2.2.2, (HC4.out w' h).2.2.1, (HC4.out w' h).1.1⟩
        have HB : Below W4.heap.size W4 W4 := Below.refl _ _
        have HRS := hidS hrs
        clear hrs
        go_region_held3 (fun w' => w'.cell? ⟨w2.heap.size, 3, none⟩ = some (.int .i64 nd) ∧ w'.cell? ⟨w3.heap.size, 3, none⟩ = some (.int .i64 ta) ∧ w'.cell? ⟨w1.heap.size, 0, none⟩ = some (.int .u8 op)) ((refine gW _ ?_; (repeat (first | exact HB | exact Below.refl _ _ | with_reducible refine belP ?_ | with_reducible refine Below.drew ?_)))) (first
          | (go_at_call 28; with_reducible refine (HBk.out _ (btP HB4.out (show Below W4.heap.size W4 _ from by (repeat (first | exact HB | exact Below.refl _ _ | with_reducible refine belP ?_ | with_reducible refine Below.drew ?_))))).mono ?_; rintro e w6 ⟨rfl, hq⟩; replace HB : Below W4.heap.size W4 w6 := btP (show Below W4.heap.size W4 _ from by (repeat (first | exact HB | exact Below.refl _ _ | with_reducible refine belP ?_ | with_reducible refine Below.drew ?_))) hq; clear hq))
        obtain ⟨⟨m50, m51⟩, ⟨m70, m71, m72, m73⟩, m93, m94, m95⟩ := HC4.out w6 HB
        have hb06 := btP HB4.out HB
        have HB6 := hidS hb06
        clear c50 c51 c70 c71 c72 c73 c93 c94 c95 HB gW HC4 HDe HBk HRS hD4 hb06
        go_wp2_with fail
        go_ret
        exact ⟨rfl, HB6.out⟩
end Go.Proofs.YtpahpdgkahomlaaGreatDoor
