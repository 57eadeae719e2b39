import Derived.Test.YtnlfgijmkgihcaaDoorPTi
namespace Go.Proofs.YtnlfgijmkgihcaaDoor
open Go.RowKit Go.WideShapes Go.Shelf
set_option maxRecDepth 100000

theorem stepNt_all (B p g bound : Nat) (ws : List Nat) (v : Value) (on kd : Int) (x : Int) (w : World) (h : LsNt w B p g bound ws v) (hx0 : -9223372036854775808 ≤ x) (hx1 : x ≤ 9223372036854775807) (hB : B ≤ w.heap.size) (hp0 : p ≠ 0) (hg0 : g ≠ 0) :
    Calls Tryd.prog 29 #[.pointer (some ⟨p, 0, none⟩), v, .int .i64 bound, .agg #[.int .i64 on, .int .i64 kd, .int .i64 x]] w fun e w' => ∃ ws' v', e = .returned (.tuple #[v', .bool true]) ∧ LsNt w' B p g bound ws' v' ∧ Kp (fun k => k = p ∨ k = g) w w' := by
  by_cases hx : x < 0
  · exact stepNt_neg B p g bound ws v on kd x hx hx0 w h
  · obtain ⟨y, hy⟩ : ∃ y : Nat, x = y := ⟨x.toNat, by omega⟩
    by_cases hb : y < bound
    · exact stepNt_in B p g bound ws v on kd x y w hy hb h hB hp0 hg0
    · exact stepNt_big B p g bound ws v on kd x y hy hx1 hx0 (by omega) (by omega) w h hp0 hg0
theorem els_mem {n : Nat} {p : Nat → Bool} (hp : ∀ z, p z = true → z < n) (x : Nat) : x ∈ els n p ↔ p x = true := by
  rw [mem_els]
  exact ⟨fun h => h.2, fun h => ⟨hp x h, h⟩⟩
theorem els_same {n m : Nat} {p q : Nat → Bool} (hp : ∀ z, p z = true → z < n) (hq : ∀ z, q z = true → z < m) : els n p = els m q ↔ ∀ x, p x = q x := by
  constructor
  · intro h x
    rw [Bool.eq_iff_iff, ← els_mem hp, ← els_mem hq, h]
  · intro h
    rw [← els_beyond (Nat.le_max_left n m) hp, ← els_beyond (Nat.le_max_right n m) hq]
    exact els_congr (fun y _ => h y)
/-- a script that is read -/
def ScR (w : World) (ao : Option Addr) (S : List (Int × Int × Int)) (B : Nat) : Prop :=
  0 < S.length → ∃ b off, ao = some ⟨b, off, none⟩ ∧ b < B ∧ ∀ j, j < S.length → w.cell? ⟨b, off + j * 3, none⟩ = some (.int .i64 (S.getD j (0, 0, 0)).1) ∧ w.cell? ⟨b, off + j * 3 + 1, none⟩ = some (.int .i64 (S.getD j (0, 0, 0)).2.1) ∧ w.cell? ⟨b, off + j * 3 + 2, none⟩ = some (.int .i64 (S.getD j (0, 0, 0)).2.2)
/-- the numbers of a step -/
def StOk (s : Int × Int × Int) : Prop := (-9223372036854775808 ≤ s.1 ∧ s.1 ≤ 9223372036854775807) ∧ (-9223372036854775808 ≤ s.2.1 ∧ s.2.1 ≤ 9223372036854775807) ∧ (-9223372036854775808 ≤ s.2.2 ∧ s.2.2 ≤ 9223372036854775807)
/-- the two sets of the law, their lists -/
structure NuS (w wr : World) (B p1 g1 p2 g2 n1 n2 : Nat) (A C : List Nat) (lv mv : Value) : Prop where
  a : LsNt wr B p1 g1 n1 A lv
  c : LsNt wr B p2 g2 n2 C mv
  bel : Below w.heap.size w wr
  hB : B ≤ wr.heap.size
theorem NuS.below {w wr wr' : World} {B p1 g1 p2 g2 n1 n2 : Nat} {A C : List Nat} {lv mv : Value} (h : NuS w wr B p1 g1 p2 g2 n1 n2 A C lv mv) (hb : Below wr.heap.size wr wr') : NuS w wr' B p1 g1 p2 g2 n1 n2 A C lv mv :=
  ⟨h.a.below hb, h.c.below hb, btP h.bel hb, Nat.le_trans h.hB hb.size⟩
theorem LsNt.kept {w w' : World} {B p g bound p' g' : Nat} {ws : List Nat} {v : Value} (h : LsNt w B p g bound ws v) (hk : Kp (fun k => k = p' ∨ k = g') w w') (h1 : p ≠ p' ∧ p ≠ g' ∧ g ≠ p' ∧ g ≠ g') (h2 : p' < B ∧ g' < B) (h3 : p' ≠ 0 ∧ g' ≠ 0) : LsNt w' B p g bound ws v :=
  ⟨h.set.kept hk (by omega) (by omega), hk.own h.row (fun k e => by have := (h.row.lt k e).1; omega), h.lp, h.lg, fun j hj => (hk.cell (p := ⟨0, j, none⟩) (by have := h.set.ltp; show 0 < w.heap.size; omega) (by show ¬ (0 = p' ∨ 0 = g'); omega)).trans (h.tab j hj)⟩
set_option maxHeartbeats 4000000 in
theorem procsnum_any (one two : Int) (ao : Option Addr) (cap : Nat) (S : List (Int × Int × Int)) (w : World) (hT : TabW w) (hw0 : 0 < w.heap.size) (ho0 : -9223372036854775808 ≤ one) (ho1 : one ≤ 9223372036854775807) (ht0 : -9223372036854775808 ≤ two) (ht1 : two ≤ 9223372036854775807) (hn : S.length ≤ 9223372036854775807) (hok : ∀ s ∈ S, StOk s) (hr : ScR w ao S w.heap.size) :
    Calls Tryd.prog 5 #[.int .i64 one, .int .i64 two, .slice ao S.length cap] w fun e w' => e = .returned (.bool true) ∧ Below w.heap.size w w' := by
  have hp1 := pick_any one 1048577 w ho0 ho1 (by decide) (by decide)
  have hp2 := pick_any two 70 w ht0 ht1 (by decide) (by decide)
  obtain ⟨n1, hn1⟩ : ∃ n : Nat, one % 1048577 = (n : Int) := ⟨(one % 1048577).toNat, (Int.toNat_of_nonneg (Int.emod_nonneg _ (by decide))).symm⟩
  obtain ⟨n2, hn2⟩ : ∃ n : Nat, two % 70 = (n : Int) := ⟨(two % 70).toNat, (Int.toNat_of_nonneg (Int.emod_nonneg _ (by decide))).symm⟩
  have hb1 : n1 ≤ 1048576 := by have := Int.emod_lt_of_pos one (b := 1048577) (by decide); omega
  have hb2 : n2 ≤ 1048576 := by have := Int.emod_lt_of_pos two (b := 70) (by decide); omega
  rw [hn1] at hp1
  rw [hn2] at hp2
  clear hn1 hn2
  have HN1 := hidS (fun W => newset_anyI n1 W hb1)
  have HN2 := hidS (fun W => newset_anyI n2 W hb2)
  have HR := hidS hr
  have HOK := hidS hok
  clear hr hok
  go_enter Tryd.func5, Tryd.ntmps5
  have tk : Hid True := hidS trivial
  go_wp2_with (first
    | (go_at_call 23; first | (with_reducible refine hp1.mono ?_; rintro e w1 ⟨rfl, hw1⟩; subst hw1) | (with_reducible refine hp2.mono ?_; rintro e w1 ⟨rfl, hw1⟩; subst hw1))
    | (go_at_call 13; with_reducible refine (HN1.out _).mono ?_; clear tk; rintro e w2 ⟨p1, g1, rfl, hs1, hl1, hl2, hB1⟩)
    | (go_at_call 13; with_reducible refine (HN2.out _).mono ?_; rintro e w3 ⟨p2, g2, rfl, hs2, hl3, hl4, hB2⟩))
  have h0 : NuS w1 w3 w3.heap.size p1 g1 p2 g2 n1 n2 (List.replicate ((n1 + 63) / 64) 0) (List.replicate ((n2 + 63) / 64) 0) (.slice none 0 0) (.slice none 0 0) := by
    have e0 : ∀ n m : Nat, els n (hasW (List.replicate m 0)) = [] := fun n m => by unfold els; exact List.filter_eq_nil_iff.2 (fun x _ => by rw [hasW_zeros]; simp)
    have hs1' := hs1.kept (Kp.ofBelow (S := fun _ => False) hB2) (fun q => q) (fun q => q)
    have l1 := hs1'.ltp; have l2 := hs1'.ltg; have l3 := hs2.ltp; have l4 := hs2.ltg
    have ht : TabW w3 := (hT.below hB1 hw0).below hB2 (by have := hB1.size; omega)
    exact ⟨⟨hs1', by rw [e0]; exact World.ownsRow_nil _ _ _ _, l1, l2, ht⟩, ⟨hs2, by rw [e0]; exact World.ownsRow_nil _ _ _ _, l3, l4, ht⟩, btP hB1 hB2, Nat.le_refl _⟩
  have lp1 := hs1.ltp
  have lg1 := hs1.ltg
  have HD : Hid ((p1 ≠ p2 ∧ p1 ≠ g2 ∧ g1 ≠ p2 ∧ g1 ≠ g2) ∧ w1.heap.size ≤ p1 ∧ w1.heap.size ≤ g1 ∧ w1.heap.size ≤ p2 ∧ w1.heap.size ≤ g2 ∧ 0 < w1.heap.size) := hidS (by have := hB1.size; omega)
  have H0 := hidS h0
  obtain ⟨B, hB⟩ : ∃ B, w3.heap.size = B := ⟨_, rfl⟩
  rw [hB] at H0
  clear hs1 hs2 hl1 hl2 hl3 hl4 hB1 hB2 lp1 lg1 h0 hB HN1 HN2 hp1 hp2
  go_loopw [11, 12, 13] (fun lv mv i wr => ∃ (k : Nat) (A C : List Nat), k ≤ S.length ∧ i = .int .i64 k ∧ NuS w1 wr B p1 g1 p2 g2 n1 n2 A C lv mv)
    (fun _ _ i _ => S.length - (intOf i).toNat)
  case atStart => exact ⟨0, _, _, Nat.zero_le _, rfl, H0.out⟩
  case round =>
    clear H0
    obtain ⟨k, A, C, hk, rfl, hN⟩ := hrel
    by_cases hlt : k < S.length
    · obtain ⟨b, off, rfl, hb, hc⟩ := HR.out (by omega)
      obtain ⟨r0, r1, r2⟩ := hc k hlt
      have hso := HOK.out (S.getD k (0, 0, 0)) (by simp [List.getD, List.getElem?_eq_getElem hlt])
      have v0 := (hN.bel.cell (p := ⟨b, off + k * 3, none⟩) hb).trans r0
      have v1 := (hN.bel.cell (p := ⟨b, off + k * 3 + 1, none⟩) hb).trans r1
      have v2 := (hN.bel.cell (p := ⟨b, off + k * 3 + 2, none⟩) hb).trans r2
      generalize S.getD k (0, 0, 0) = st at hso v0 v1 v2
      obtain ⟨on, kd, x⟩ := st
      obtain ⟨⟨o0, o1⟩, ⟨d0, d1⟩, x0, x1⟩ := hso
      simp only at v0 v1 v2 o0 o1 d0 d1 x0 x1
      have hltI : (k : Int) < (S.length : Int) := by omega
      have HN := hidS hN
      clear hc r0 r1 r2 hN
      obtain ⟨⟨dd1, dd2, dd3, dd4⟩, dl1, dl2, dl3, dl4, dl5⟩ := HD.out
      by_cases hout : kd < 0 ∨ 4 < kd
      · obtain ⟨a1, c1, rfl, q1, q2, hrd1⟩ := ownNt_rd HN.out.a.row
        obtain ⟨a2, c2, rfl, q3, q4, hrd2⟩ := ownNt_rd HN.out.c.row
        have hl1 : (els n1 (hasW A)).length ≤ 1048576 := Nat.le_trans (els_le _ _) HN.out.a.set.bd
        have hL1 := HN.out.below ((Below.refl _ wr).alloc (Nat.le_refl _) (Obj.cells #[.int .i64 on, .int .i64 kd, .int .i64 x] 60))
        have hba : Below wr.heap.size wr (wr.alloc (Obj.cells #[.int .i64 on, .int .i64 kd, .int .i64 x] 60)) := (Below.refl _ wr).alloc (Nat.le_refl _) _
        have hS0 := sameNt_any a1 a2 c1 c2 (els n1 (hasW A)) (els n2 (hasW C)) (wr.alloc (Obj.cells #[.int .i64 on, .int .i64 kd, .int .i64 x] 60)) hl1 (fun hp => by obtain ⟨b, off, e1, e2, e3⟩ := hrd1.below hba hp; exact ⟨b, off, e1, Nat.lt_of_lt_of_le e2 hba.size, e3⟩) (fun hp => by obtain ⟨b, off, e1, e2, e3⟩ := hrd2.below hba hp; exact ⟨b, off, e1, Nat.lt_of_lt_of_le e2 hba.size, e3⟩)
        have HSW : Hid (decide (els n1 (hasW A) = els n2 (hasW C)) = sameW A C) := hidS (by
          rw [Bool.eq_iff_iff, decide_eq_true_eq, els_same HN.out.a.set.hi HN.out.c.set.hi, sameW_iff HN.out.a.set.wf HN.out.c.set.wf])
        have HSV : Hid (sameW C A = sameW A C) := hidS (by
          rw [Bool.eq_iff_iff, sameW_iff HN.out.c.set.wf HN.out.a.set.wf, sameW_iff HN.out.a.set.wf HN.out.c.set.wf]
          exact ⟨fun q y => (q y).symm, fun q y => (q y).symm⟩)
        rw [HSW.out] at hS0
        obtain ⟨V, hV⟩ : ∃ V, wr.alloc (Obj.cells #[.int .i64 on, .int .i64 kd, .int .i64 x] 60) = V := ⟨_, rfl⟩
        have HV := hidS hV
        have HL1 : Hid (NuS w1 V B p1 g1 p2 g2 n1 n2 A C (.slice a1 (els n1 (hasW A)).length c1) (.slice a2 (els n2 (hasW C)).length c2)) := hidS (by rw [← hV]; exact hL1)
        have cd : ∀ m, (V.drewN m).cell? ⟨wr.heap.size, 1, none⟩ = some (.int .i64 kd) := fun m => by
          show V.cell? ⟨wr.heap.size, 1, none⟩ = _
          rw [← hV]; simp
        have cd0 := cd 0
        rw [show V.drewN 0 = V from rfl] at cd0
        rw [hV] at hS0
        have HSAB : Hid (∀ m, Calls Tryd.prog 18 #[.pointer (some ⟨p1, 0, none⟩), .pointer (some ⟨p2, 0, none⟩)] (V.drewN m) fun e w' => e = .returned (.bool (sameW A C)) ∧ ∃ m', w' = (V.drewN m).drewN m') := hidS (fun m => same_anyI p1 g1 n1 _ p2 g2 n2 _ A C (V.drewN m) (HL1.out.a.drewN m).set (HL1.out.c.drewN m).set)
        have HSBA : Hid (∀ m, Calls Tryd.prog 18 #[.pointer (some ⟨p2, 0, none⟩), .pointer (some ⟨p1, 0, none⟩)] (V.drewN m) fun e w' => e = .returned (.bool (sameW A C)) ∧ ∃ m', w' = (V.drewN m).drewN m') := hidS (fun m => by
          have := same_anyI p2 g2 n2 _ p1 g1 n1 _ C A (V.drewN m) (HL1.out.c.drewN m).set (HL1.out.a.drewN m).set
          rw [HSV.out] at this
          exact this)
        have HS0 := hidS hS0
        clear hS0 hL1 hba hrd1 hrd2
        generalize sameW A C = q at HS0 HSAB HSBA
        have hcond : (decide (kd < 0) || decide (4 < kd)) = true := by
          rcases hout with h | h <;> simp [h]
        cases q <;> by_cases hneg : kd < 0
        all_goals
          go_wp2_with (first
            | (go_at_call 28; with_reducible refine HS0.out.mono ?_; rintro e w5 ⟨rfl, m5, hw5⟩; subst hw5)
            | (go_at_call 18; first | (with_reducible refine (HSAB.out _).mono ?_; rintro e w6 ⟨rfl, m6, hw6⟩; rw [World.drewN_drewN] at hw6; subst hw6) | (with_reducible refine (HSBA.out _).mono ?_; rintro e w7 ⟨rfl, m7, hw7⟩; rw [World.drewN_drewN] at hw7; subst hw7)))
          go_roundw
          case rel => exact ⟨k + 1, A, C, by omega, by go_num, HL1.out.below ⟨rfl, rfl, rfl, Nat.le_refl _, fun _ _ => rfl⟩⟩
          case measure => simp [intOf]; omega
      · have hk0 : ¬ kd < 0 := by omega
        have hk4 : ¬ 4 < kd := by omega
        have hd1' : decide (kd < 0) = false := decide_eq_false hk0
        have hd2' : decide (4 < kd) = false := decide_eq_false hk4
        have hpk := fun W => pick_any on 2 W o0 o1 (by decide) (by decide)
        have hL1 := HN.out.below ((Below.refl _ wr).alloc (Nat.le_refl _) (Obj.cells #[.int .i64 on, .int .i64 kd, .int .i64 x] 60))
        have hm2 : on % 2 = 0 ∨ on % 2 = 1 := by omega
        rcases hm2 with hm | hm
        · have hst := stepNt_all B p1 g1 n1 A u11 on kd x _ hL1.a x0 x1 hL1.hB (by omega) (by omega)
          have HL1 := hidS hL1
          have HPK := hidS hpk
          rw [hm] at HPK
          clear hpk hL1
          go_wp2_with (first
            | (go_at_call 23; with_reducible refine (HPK.out _).mono ?_; rintro e w5 ⟨rfl, hw5⟩; subst hw5)
            | (go_at_call 29; with_reducible refine hst.mono ?_; rintro e w6 ⟨A', lv', rfl, hA6, hk6⟩))
          go_roundw
          case rel => exact ⟨k + 1, A', C, by omega, by go_num, ⟨hA6, HL1.out.c.kept hk6 ⟨by omega, by omega, by omega, by omega⟩ ⟨HN.out.a.lp, HN.out.a.lg⟩ ⟨by omega, by omega⟩, HL1.out.bel.trans (hk6.below HL1.out.bel.size (fun i e => by omega)), Nat.le_trans HL1.out.hB hk6.size⟩⟩
          case measure => simp [intOf]; omega
        · have hst := stepNt_all B p2 g2 n2 C u12 on kd x _ hL1.c x0 x1 hL1.hB (by omega) (by omega)
          have HL1 := hidS hL1
          have HPK := hidS hpk
          rw [hm] at HPK
          clear hpk hL1
          go_wp2_with (first
            | (go_at_call 23; with_reducible refine (HPK.out _).mono ?_; rintro e w5 ⟨rfl, hw5⟩; subst hw5)
            | (go_at_call 29; with_reducible refine hst.mono ?_; rintro e w6 ⟨C', mv', rfl, hC6, hk6⟩))
          go_roundw
          case rel => exact ⟨k + 1, A, C', by omega, by go_num, ⟨HL1.out.a.kept hk6 ⟨by omega, by omega, by omega, by omega⟩ ⟨HN.out.c.lp, HN.out.c.lg⟩ ⟨by omega, by omega⟩, hC6, HL1.out.bel.trans (hk6.below HL1.out.bel.size (fun i e => by omega)), Nat.le_trans HL1.out.hB hk6.size⟩⟩
          case measure => simp [intOf]; omega
    · have hke : k = S.length := by omega
      subst hke
      obtain ⟨a1, c1, rfl, q1, q2, hrd1⟩ := ownNt_rd hN.a.row
      obtain ⟨a2, c2, rfl, q3, q4, hrd2⟩ := ownNt_rd hN.c.row
      have hl1 : (els n1 (hasW A)).length ≤ 1048576 := Nat.le_trans (els_le _ _) hN.a.set.bd
      have hl2 : (els n2 (hasW C)).length ≤ 1048576 := Nat.le_trans (els_le _ _) hN.c.set.bd
      have hA1 := allNt_any p1 g1 n1 _ A a1 c1 ((els n1 (hasW A)).length : Int) wr hN.a.set hrd1 hN.a.tab (by omega) (by omega)
      have HA2 : Hid (∀ W, Below wr.heap.size wr W → Calls Tryd.prog 30 #[.pointer (some ⟨p2, 0, none⟩), .slice a2 (els n2 (hasW C)).length c2, .int .i64 ((els n2 (hasW C)).length : Int)] W fun e w' => e = .returned (.bool true) ∧ Below W.heap.size W w') := hidS (fun W hW => by
        have h3 := hN.c.below hW
        exact allNt_any p2 g2 n2 _ C a2 c2 ((els n2 (hasW C)).length : Int) W h3.set (fun hp => by obtain ⟨b, off, e1, e2, e3⟩ := hrd2.below hW hp; exact ⟨b, off, e1, Nat.lt_of_lt_of_le e2 hW.size, e3⟩) h3.tab (by omega) (by omega))
      have HN := hidS hN
      clear hN hrd1 hrd2
      go_wp2_with (first
        | (go_at_call 30; first | (with_reducible refine hA1.mono ?_; rintro e w5 ⟨rfl, hb5⟩) | (with_reducible refine (HA2.out _ hb5).mono ?_; rintro e w6 ⟨rfl, hb6⟩)))
      go_ret
      exact ⟨rfl, btP (btP HN.out.bel hb5) hb6⟩
end Go.Proofs.YtnlfgijmkgihcaaDoor
