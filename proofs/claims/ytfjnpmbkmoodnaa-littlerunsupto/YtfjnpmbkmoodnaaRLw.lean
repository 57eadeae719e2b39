import Derived.Test.YtfjnpmbkmoodnaaRTl
import Derived.Laws.AppendOwnNone
namespace Go.Proofs.Ytfjnpmbkmoodnaa
open Go.RowKit Go.WideShapes
set_option maxRecDepth 100000
theorem ROp.At.of {x : ROp} {w w1 : World} {b : Nat} (h : x.At w b 0) (e : w1.heap[b]? = w.heap[b]?) : x.At w1 b 0 :=
  ⟨(World.cell?_of_block (a := ⟨b, 0, none⟩) e).trans h.c0, (World.cell?_of_block (a := ⟨b, 0 + 1, none⟩) e).trans h.c1, (World.cell?_of_block (a := ⟨b, 0 + 2, none⟩) e).trans h.c2, (World.cell?_of_block (a := ⟨b, 0 + 3, none⟩) e).trans h.c3⟩
theorem at_grow {w w1 : World} {x : ROp} {b : Nat} {o1 : Obj} {ob : Option Nat} (h : x.At w b 0) (hb : b < w.heap.size) (hg : (w.alloc o1).grownBy w1 ob) (hne : some b ≠ ob) : x.At w1 b 0 :=
  h.of ((hg.block b (by simp; omega) hne).trans ((belS (Below.refl w.heap.size w)).block b hb))
theorem at_below {w w1 : World} {x : ROp} {b : Nat} (h : x.At w b 0) (hb : b < w.heap.size) (hB : Below w.heap.size w w1) : x.At w1 b 0 := h.of (hB.block b hb)
theorem at_over {w w1 : World} {x : ROp} {b g : Nat} (h : x.At w b 0) (hb : b < w.heap.size) (hg : w.grownBy w1 (some g)) (hne : b ≠ g) : x.At w1 b 0 := h.of (hg.block b hb (by simpa using hne))
theorem own_ne_ob {w : World} {B e s n b : Nat} {v : Value} {xs : List Value} (h : w.ownsRow B e s v n xs) (hb : w.heap.size ≤ b) : some b ≠ v.ownBlock := fun e => by have := (h.lt b e.symm).2; omega
theorem runs_mono {w : World} {B B' : Nat} {v : Value} {T : List Tr} (h : OwnRuns w B v T) (hle : B' ≤ B) : OwnRuns w B' v T := ⟨own_monoB h.row hle, fun t ht => own_monoB (h.each t ht) hle, h.ap⟩
set_option maxHeartbeats 60000000 in
theorem runs_law (ao : Option Addr) (N cap : Nat) (S : Nat → ROp) (W : World) (hN : N ≤ 1048576) (hS : RScript W ao N S) :
    Calls Try.prog 3 #[.slice ao N cap] W fun e w' => e = .returned (.bool true) ∧ Below W.heap.size W w' := by
  obtain ⟨s0, hs, hs0, hs1, hs2⟩ := info_parts infoRL
  obtain ⟨j0, hj, hy0, hy1, hy2⟩ := info_parts Try.infoBs
  have HSc : Hid (RScript W ao N S) := hS
  clear hS
  have HLv := hidS (lives_any W)
  go_enter Try.func3, Try.ntmps3
  go_wp2_with (go_at_call 4; with_reducible refine HLv.out.mono ?_; rintro e w0 ⟨rfl, hb0⟩; have HB1 := hidS hb0; clear hb0)
  clear HLv
  go_loopw [3, 4, 5, 6, 7] (fun kv qv cv0 pv0 i wr => ∃ (t n m : Nat) (lo : Option Addr) (lc : Nat) (wo : Option Addr) (wc : Nat) (vals wv : Nat → Value) (Z : Nat → List Int) (co : Option Addr) (cc : Nat) (po : Option Addr) (pc : Nat) (cv pv : Nat → Value) (T T' : Nat → List Tr), t ≤ N ∧ i = .int .i64 t ∧ kv = .slice lo n lc ∧ qv = .slice wo n wc ∧ cv0 = .slice co m cc ∧ pv0 = .slice po m pc ∧ LrS W wr t n m lo lc wo wc vals wv Z co cc po pc cv pv T T')
    (fun _ _ _ _ i _ => N - (intOf i).toNat)
  case atStart =>
    exact ⟨0, 0, 0, none, 0, none, 0, fun _ => .slice none 0 0, fun _ => .slice none 0 0, fun _ => [], none, 0, none, 0, fun _ => .slice none 0 0, fun _ => .slice none 0 0, fun _ => [], fun _ => [], Nat.zero_le _, rfl, rfl, rfl, rfl, rfl, ⟨Nat.zero_le _, Nat.zero_le _, fun i hi => absurd hi (Nat.not_lt_zero _), fun i hi => absurd hi (Nat.not_lt_zero _), fun i hi => absurd hi (Nat.not_lt_zero _), ⟨⟨World.ownsRow_nil _ _ _ _, fun i hi => absurd hi (Nat.not_lt_zero _), fun i j hi => absurd hi (Nat.not_lt_zero _)⟩, World.ownsRow_nil _ _ _ _, fun i hi => absurd hi (Nat.not_lt_zero _), .inl rfl⟩, ⟨World.ownsRow_nil _ _ _ _, fun i hi => absurd hi (Nat.not_lt_zero _), World.ownsRow_nil _ _ _ _, fun i hi => absurd hi (Nat.not_lt_zero _), fun i hi => absurd hi (Nat.not_lt_zero _), fun i j hi => absurd hi (Nat.not_lt_zero _), fun i j hi => absurd hi (Nat.not_lt_zero _), fun b hb => by cases hb⟩, fun i j hi => absurd hi (Nat.not_lt_zero _), HB1.out⟩⟩
  case round =>
    clear HB1
    obtain ⟨t, n, m, lo, lc, wo, wc, vals, wv, Z, co, cc, po, pc, cv, pv, T, T', ht, rfl, rfl, rfl, rfl, rfl, hL⟩ := hrel
    have HL := hidS hL
    have hb := hL.bl
    by_cases hlt : t < N
    · obtain ⟨b, off, rfl, hbl, hAt, hOk⟩ := HSc.out t hlt
      have HOk := hidS hOk
      generalize S t = x at *
      have c0 := (hb.cell (p := ⟨b, off + t * 4, none⟩) hbl).trans hAt.c0
      have c1 := (hb.cell (p := ⟨b, off + t * 4 + 1, none⟩) hbl).trans hAt.c1
      have c2 := (hb.cell (p := ⟨b, off + t * 4 + 2, none⟩) hbl).trans hAt.c2
      have c3 := (hb.cell (p := ⟨b, off + t * 4 + 3, none⟩) hbl).trans hAt.c3
      have hltI : (t : Int) < (N : Int) := by omega
      obtain ⟨wA, hwA⟩ : ∃ wA, wA = wr.alloc (.cells (ropV x) 29) := ⟨_, rfl⟩
      have HOA : Hid (∀ w', Below wA.heap.size wA w' → x.At w' wr.heap.size 0) := fun w' hw' => ropAt x (by rw [← hwA]; exact hw')
      have HbA : Hid (Below wr.heap.size wr wA) := by rw [hwA]; exact belS (Below.refl _ _)
      have HLA := hidS (HL.out.below HbA.out)
      have HRW : Hid (∀ w', Below W.heap.size W w' → Reads w' x.fo x.fs w'.heap.size ∧ Reads w' x.so x.ts w'.heap.size ∧ RunsR w' x.ro x.R w'.heap.size) := fun w' hB =>
        ⟨(HOk.out.fr.below hB).mono hB.size, (HOk.out.tr.below hB).mono hB.size, (HOk.out.rr.below hB).mono hB.size⟩
      have HRd : Hid (∀ w', Below wA.heap.size wA w' → Reads w' x.fo x.fs w'.heap.size ∧ Reads w' x.so x.ts w'.heap.size ∧ RunsR w' x.ro x.R w'.heap.size) := fun w' hw' => HRW.out w' (btS (btS HL.out.bl HbA.out) hw')
      have HNb : Hid (∀ {e s n : Nat} {v : Value} {xs : List Value}, wr.ownsRow W.heap.size e s v n xs → some wr.heap.size ≠ v.ownBlock) := fun h => own_ne_ob h (Nat.le_refl _)
      obtain ⟨mm, fo, fc, fs, so, sc, ts, ro, rc, R⟩ := x
      have HAl := hidS hwA
      have k0 := (HOA.out wA (Below.refl _ _)).c0
      have k1 := (HOA.out wA (Below.refl _ _)).c1
      have hso : wr.heap.size < wA.heap.size := by rw [hwA]; simp
      have HLe := hidS (lent_any fo fc fs wA (by have := HOk.out.fl; simp only at this; omega) (HRd.out wA (Below.refl _ _)).1)
      have hfl : fs.length ≤ 1048576 := HOk.out.fl
      have htl : ts.length ≤ 1048576 := HOk.out.tl
      have hRl : R.length ≤ 1048576 := HOk.out.rl
      have HRe : Hid (∀ r ∈ R, r.1 ≤ 4294967295 ∧ r.2.length ≤ 140737488355328) := fun r hr => ⟨HOk.out.ra r hr, Nat.le_trans (HOk.out.re r hr) (by decide)⟩
      have HRg : Hid (∀ k, k < R.length → (R.getD k (0, [])).2.length ≤ 1048576) := fun k hk => HOk.out.re _ (by simp [List.getD, List.getElem?_eq_getElem hk])
      simp only [Nat.zero_add] at c0 c1 c2 c3 k0 k1
      clear hAt hOk hL hwA
      go_wp2_with fail
      rw [← HAl.out]
      clear c0 c1 c2 c3 HAl
      go_wp2_with fail
      with_reducible refine HLe.out.mono ?_
      rintro e w1 ⟨v1, rfl, own1, hb1⟩
      obtain ⟨g, cf, rfl, hcf⟩ := own_form own1 (by omega)
      have k01 : w1.cell? ⟨wr.heap.size, 0, none⟩ = some (.bool mm) := (HOA.out w1 hb1).c0
      have hcfI : (fs.length : Int) ≤ (cf : Int) := by omega
      clear HLe k0 k1
      cases mm
      case false =>
        have k21 : w1.cell? ⟨wr.heap.size, 2, none⟩ = some (.slice so ts.length sc) := (HOA.out w1 hb1).c2
        have HLr := hidS (lent_any so sc ts w1 (by omega) (HRd.out w1 hb1).2.1)
        go_wp2_with fail
        with_reducible refine HLr.out.mono ?_
        rintro e w2 ⟨v2, rfl, own2, hb2⟩
        obtain ⟨gt, ct, rfl, hct⟩ := own_form own2 (by omega)
        have hctI : (ts.length : Int) ≤ (ct : Int) := by omega
        have hb12 := btS hb1 hb2
        have k12 : w2.cell? ⟨wr.heap.size, 1, none⟩ = some (.slice fo fs.length fc) := (HOA.out w2 hb12).c1
        have k22 : w2.cell? ⟨wr.heap.size, 2, none⟩ = some (.slice so ts.length sc) := (HOA.out w2 hb12).c2
        have HDl := hidS (rrunsA fo so fc sc fs ts w2 hfl htl (HRd.out w2 hb12).1 (HRd.out w2 hb12).2.1)
        clear HLr k21 k01
        go_wp2_with fail
        with_reducible refine HDl.out.mono ?_
        rintro e w3 ⟨⟨v3, T3, rfl, own3, hm3, _⟩, hb3⟩
        have HPl : Hid (∀ W', Below w3.heap.size w3 W' → Calls Try.prog 11 #[.slice (some ⟨g, 0, none⟩) fs.length cf, .slice (some ⟨gt, 0, none⟩) ts.length ct] W' fun e w' => (∃ v T, e = .returned (.tuple #[v, .int .i64 (rnE fs ts)]) ∧ OwnRuns w' W'.heap.size v T ∧ T.map trun = rnL fs ts ∧ T.length ≤ 1048576) ∧ Below W'.heap.size W' w') := fun W' hW' => runsA (some ⟨g, 0, none⟩) (some ⟨gt, 0, none⟩) cf ct fs ts W' hfl htl (by omega) (reads_own (own_below (own_below own1 (btS hb2 hb3)) hW') (by simp)) (reads_own (own_below (own_below own2 hb3) hW') (by simp))
        have hb13 := btS hb12 hb3
        have k13 : w3.cell? ⟨wr.heap.size, 1, none⟩ = some (.slice fo fs.length fc) := (HOA.out w3 hb13).c1
        have k23 : w3.cell? ⟨wr.heap.size, 2, none⟩ = some (.slice so ts.length sc) := (HOA.out w3 hb13).c2
        have HTl : Hid (∀ X : List Tr, X.map trun = rnL fs ts → ∀ s ∈ X, s.2.2.length ≤ 8388608) := fun X hX => rnL_le hX htl
        generalize hEr : rnE fs ts = er at *
        generalize hLr : rnL fs ts = Lr at *
        clear HDl k12 k22 hEr hLr
        go_wp2_with fail
        refine (fun (hrest : ?P3) => ?main3) ?sub3
        case main3 =>
          go_region_with (go_at_call 11; with_reducible refine (HPl.out _ (Below.refl _ _).drew).mono ?_; rintro e w4 ⟨⟨vw4, T4, rfl, ownw4, hm4, hl4⟩, hbw4⟩)
          all_goals
            revert ownw4 hm4 hl4 hbw4
            revert vw4 T4
            revert w4
            exact hrest
        intro w4 vw4 T4 hbw4 ownw4 hm4 hl4
        replace hbw4 : Below w3.heap.size w3 w4 := (Below.refl w3.heap.size w3).drew.trans hbw4
        replace ownw4 : OwnRuns w4 w3.heap.size vw4 T4 := ownw4
        have hb14 := btS hb13 hbw4
        have k14 : w4.cell? ⟨wr.heap.size, 1, none⟩ = some (.slice fo fs.length fc) := (HOA.out w4 hb14).c1
        have k24 : w4.cell? ⟨wr.heap.size, 2, none⟩ = some (.slice so ts.length sc) := (HOA.out w4 hb14).c2
        go_wp2_with fail
        refine (fun (hrest : ?P4) => ?main4) ?sub4
        case main4 =>
          go_region_with (go_at_call 11; with_reducible refine (HPl.out _ hbw4.drew).mono ?_; rintro e w5 ⟨⟨vw5, T5, rfl, ownw5, hm5, hl5⟩, hbw5⟩)
          all_goals
            revert ownw5 hm5 hl5 hbw5
            revert vw5 T5
            revert w5
            exact hrest
        intro w5 vw5 T5 hbw5 ownw5 hm5 hl5
        replace hbw5 : Below w4.heap.size w4 w5 := (Below.refl w4.heap.size w4).drew.trans hbw5
        replace ownw5 : OwnRuns w5 w4.heap.size vw5 T5 := ownw5
        have hb15 := btS hb14 hbw5
        have k25 : w5.cell? ⟨wr.heap.size, 2, none⟩ = some (.slice so ts.length sc) := (HOA.out w5 hb15).c2
        have HKp := hidS (kept_any so sc ts gt ct w5 (by omega) (HRd.out w5 hb15).2.1 (fun i hi => own_get (own_below own2 (btS hb3 (btS hbw4 hbw5))) (by simpa [marks_len] using hi)))
        clear HPl k13 k23 k14 k24
        obtain ⟨xq, xcq, rfl⟩ := own_form0' own3.row
        obtain ⟨xa, xca, rfl⟩ := own_form0' ownw4.row
        obtain ⟨xb, xcb, rfl⟩ := own_form0' ownw5.row
        have hn2 : m ≤ 2 * 1048576 := by have := HLA.out.m2; omega
        have hsA := HLA.out.bl.size
        have hs12 := hb12.size
        have hs13 := hb13.size
        have hs14 := hb14.size
        have ha5 := hidS (runs_mono (ownw4.kept hbw5) (show W.heap.size ≤ w3.heap.size by omega))
        have hbb5 := hidS (runs_mono ownw5 (show W.heap.size ≤ w4.heap.size by omega))
        have hq5 := hidS (runs_mono (own3.kept (btS hbw4 hbw5)) (show W.heap.size ≤ w2.heap.size by omega))
        have hab5 : Hid (Apt (.slice xa T4.length xca) (.slice xb T5.length xcb)) := Apt.later ownw4.row ownw5.row (Nat.le_refl _)
        have hva5 : Hid (∀ i, i < m → Apt (cv i) (.slice xa T4.length xca)) := fun i hi => Apt.later (HLA.out.kr.each i hi).row ownw4.row (by omega)
        have hvb5 : Hid (∀ i, i < m → Apt (cv i) (.slice xb T5.length xcb)) := fun i hi => Apt.later (HLA.out.kr.each i hi).row ownw5.row (by omega)
        have hxab5 : Hid (∀ s ∈ T4, ∀ t ∈ T5, Apt s.2.1 t.2.1) := fun s hs t ht => Apt.later (ownw4.each s hs) (ownw5.each t ht) (Nat.le_refl _)
        have hxa5 : Hid (∀ i, i < m → ∀ s ∈ T i, ∀ t ∈ T4, Apt s.2.1 t.2.1) := fun i hi s hs t ht => Apt.later ((HLA.out.kr.each i hi).each s hs) (ownw4.each t ht) (by omega)
        have hxb5 : Hid (∀ i, i < m → ∀ s ∈ T i, ∀ t ∈ T5, Apt s.2.1 t.2.1) := fun i hi s hs t ht => Apt.later ((HLA.out.kr.each i hi).each s hs) (ownw5.each t ht) (by omega)
        have hta5 : Hid (∀ i, i < n → ∀ s ∈ T4, Apt (vals i) s.2.1) := fun i hi s hs => Apt.later (HLA.out.kw.own.each i hi) (ownw4.each s hs) (by omega)
        have htb5 : Hid (∀ i, i < n → ∀ s ∈ T5, Apt (vals i) s.2.1) := fun i hi s hs => Apt.later (HLA.out.kw.own.each i hi) (ownw5.each s hs) (by omega)
        have HLt := hidS (show wr.heap.size < w5.heap.size by have := hb15.size; omega)
        have HM4 := hidS hm4
        have HM5 := hidS hm5
        have HM3 := hidS hm3
        clear hsA hs12 hs13 hs14 hm3 hm4 hm5
        go_wp2_with (first
          | (go_at_call 12; with_reducible refine HKp.out.mono ?_; rintro e w6 ⟨rfl, mk6, hq6e⟩; have hb6 : Below w5.heap.size w5 w6 := (by rw [hq6e]; exact below_drewN (Below.refl _ _) _); have HB6 := hidS hb6; have HL6 := hidS (HLA.out.below (btS hb15 hb6)); have HA6 := hidS (HOA.out w6 (btS hb15 hb6)); clear hb6 hq6e)
          | (at_builtin; refine wpList_append_lies _ rfl _ _ 25 rfl W.heap.size 27 s0 (.slice none 0 0) 1 24 Try.underlying25 hs hs0 hs1 hs2 rfl (by decide) _ m ((List.range m).map cv) rfl (HL6.out.kr.row.alloc _) ⟨_, 0, none⟩ 2 2 [.slice xa T4.length xca, .slice xb T5.length xcb] rfl rfl ?x1 ?x2 (by decide) ?x3 ?x4 ?x5 (w6.heap.size + 1) (by simp) ?_))
        case x1 =>
          intro j u hj
          match j, hj with
          | 0, hj => simp at hj; subst hj; simp [Addr.add]
          | 1, hj => simp at hj; subst hj; simp [Addr.add]
          | (j + 2), hj => simp at hj
        case x2 => intro u hu; simp at hu; rcases hu with rfl | rfl <;> rfl
        case x3 => unfold maxLen; omega
        case x4 => omega
        case x5 => have := HL6.out.bl.size; simp; omega
        intro g7 c7 w7 own7 hg7 hor7 _
        have HNb1 : Hid (some wr.heap.size ≠ (Value.slice co m cc).ownBlock) := HNb.out HL.out.kr.row
        have HNb2 : Hid (some wr.heap.size ≠ (Value.slice po m pc).ownBlock) := HNb.out HL.out.kr.wrow
        have HA7 := hidS (at_grow HA6.out (Nat.lt_of_lt_of_le HLt.out HB6.out.size) hg7 HNb1.out)
        have HLt7 := hidS (show wr.heap.size < w7.heap.size by have h1 := HLt.out; have h2 := HB6.out.size; have h3 := hg7.size; simp at h3; omega)
        have hwr7 := hidS ((HL6.out.kr.wrow.alloc _).kept hg7 HL6.out.kr.sep.symm.l)
        have HX7 := hidS ((HL6.out.kw.alloc _).kty (HL6.out.kr.row.alloc _) (by decide) (by decide) hg7)
        have HB7 := hidS (grown_below HL6.out.bl HL6.out.bl.size HL6.out.kr.row hg7)
        have HF6 := hidS (own_below own1 (btS hb2 (btS hb3 (btS hbw4 (btS hbw5 HB6.out)))))
        have HF7 := hidS ((HF6.out.alloc _).kept hg7 (rows_type (e := 5) (e' := 27) (by decide) HF6.out HL6.out.kr.row))
        have HT6 := hidS (own_below own2 (btS hb3 (btS hbw4 (btS hbw5 HB6.out))))
        have HT7 := hidS ((HT6.out.alloc _).kept hg7 (rows_type (e := 5) (e' := 27) (by decide) HT6.out HL6.out.kr.row))
        have HO7 := hidS own7
        have HG7 := hidS hg7
        have HR7 := hidS hor7
        clear own7 hg7 hor7
        go_wp2_with (at_builtin; refine wpList_append_lies _ rfl _ _ 25 rfl W.heap.size 27 s0 (.slice none 0 0) 1 24 Try.underlying25 hs hs0 hs1 hs2 rfl (by decide) _ m ((List.range m).map pv) rfl (hwr7.out.alloc _) ⟨_, 0, none⟩ 2 2 [.slice xq T3.length xcq, .slice xq T3.length xcq] rfl rfl ?z1 ?z2 (by decide) ?z3 ?z4 ?z5 (w7.heap.size + 1) (by simp) ?_)
        case z1 =>
          intro j u hj
          match j, hj with
          | 0, hj => simp at hj; subst hj; simp [Addr.add]
          | 1, hj => simp at hj; subst hj; simp [Addr.add]
          | (j + 2), hj => simp at hj
        case z2 => intro u hu; simp at hu; subst hu; rfl
        case z3 => unfold maxLen; omega
        case z4 => omega
        case z5 => have := HB7.out.size; simp; omega
        intro g8 c8 w8 own8 hg8 hor8 _
        have HK8 := hidS (kr_ext HL6.out.kr (ha5.out.kept HB6.out) (hbb5.out.kept HB6.out) (hq5.out.kept HB6.out) (HM3.out.trans HM4.out.symm) (HM3.out.trans HM5.out.symm) hab5.out hva5.out hvb5.out hxab5.out hxa5.out hxb5.out HO7.out HG7.out HR7.out own8 hg8 hor8)
        have HX8 := hidS ((HX7.out.alloc _).kty (hwr7.out.alloc _) (by decide) (by decide) hg8)
        have HB8 := hidS (grown_below HB7.out HB7.out.size hwr7.out hg8)
        have HA8 := hidS (at_grow HA7.out HLt7.out hg8 HNb2.out)
        have HF8 := hidS ((HF7.out.alloc _).kept hg8 (rows_type (e := 5) (e' := 27) (by decide) HF7.out hwr7.out))
        have HT8 := hidS ((HT7.out.alloc _).kept hg8 (rows_type (e := 5) (e' := 27) (by decide) HT7.out hwr7.out))
        have HLt8 := hidS (show wr.heap.size < w8.heap.size by have h1 := HLt7.out; have h3 := hg8.size; simp at h3; omega)
        have hgA := (own1.lt g rfl)
        have hgT := (own2.lt gt rfl)
        have HN : Hid (∀ q, (q = g ∨ q = gt) → (∀ i, i < n → (vals i).ownBlock ≠ some q ∧ (wv i).ownBlock ≠ some q) ∧ (∀ i, i < m + 2 → (∀ s ∈ ext2 T m T4 T5 i, s.2.1.ownBlock ≠ some q) ∧ (∀ s ∈ ext2 T' m T3 T3 i, s.2.1.ownBlock ≠ some q))) := fun q hq => by
          have hqA : wA.heap.size ≤ q ∧ q < w2.heap.size := by have := hb1.size; have := hb2.size; rcases hq with rfl | rfl <;> omega
          have h3 := hb3.size
          have h4 := hbw4.size
          refine ⟨fun i hi => ⟨own_lt_ne (HLA.out.kw.own.each i hi) hqA.1, own_lt_ne (HLA.out.kw.weach i hi) hqA.1⟩, fun i hi => ⟨?_, ?_⟩⟩
          · exact all2 (P := fun i => ∀ s ∈ ext2 T m T4 T5 i, s.2.1.ownBlock ≠ some q) (fun i hi => by rw [ext2_lt _ _ _ _ hi]; exact fun s hs => own_lt_ne ((HLA.out.kr.each i hi).each s hs) hqA.1) (by rw [ext2_n]; exact fun s hs => own_ge_ne (ownw4.each s hs) (by omega)) (by rw [ext2_n1]; exact fun s hs => own_ge_ne (ownw5.each s hs) (by omega)) i hi
          · exact all2 (P := fun i => ∀ s ∈ ext2 T' m T3 T3 i, s.2.1.ownBlock ≠ some q) (fun i hi => by rw [ext2_lt _ _ _ _ hi]; exact fun s hs => own_lt_ne ((HLA.out.kr.weach i hi).each s hs) hqA.1) (by rw [ext2_n]; exact fun s hs => own_ge_ne (own3.each s hs) (by omega)) (by rw [ext2_n1]; exact fun s hs => own_ge_ne (own3.each s hs) (by omega)) i hi
        have hne : g ≠ gt := by have := hgA.2; omega
        have hneA : wr.heap.size ≠ gt := by have := hb1.size; omega
        have HOt := hidS (over_any gt ct (ts.length + 64) (ts.length + 64) w1.heap.size (ts ++ marks 0 64) w8 (by omega) (Nat.le_refl _) (by simp [marks_len]) HT8.out)
        clear own8 hg8 hor8
        go_wp2_with (first
          | (go_at_call 13; with_reducible refine HOt.out.mono ?_; rintro e w9 ⟨rfl, hf9, hb9, hs9, hg9⟩; have HF9 := hidS (HF8.out.kept hg9 (.inr (by simpa [Value.ownBlock] using hne))); have HA9 := hidS (at_over HA8.out HLt8.out hg9 hneA); have HK9 := hidS (HK8.out.over HT8.out hg9 (HN.out gt (.inr rfl)).2); have HX9 := hidS (HX8.out.over HT8.out hg9 (HN.out gt (.inr rfl)).1); have HB9 := hidS (HB8.out.trans (hb9.mono (show W.heap.size ≤ w1.heap.size by have := HLA.out.bl.size; have := hb1.size; omega))); have HKf := hidS (kept_any fo fc fs g cf w9 (by omega) (HRW.out w9 HB9.out).1 (fun i hi => own_get HF9.out (by simpa [marks_len] using hi))); have HOv := hidS (fun q => over_any g cf (fs.length + 64) (fs.length + 64) wA.heap.size (fs ++ marks 0 64) (w9.drewN q) (by omega) (Nat.le_refl _) (by simp [marks_len]) (own_below HF9.out (below_drewN (Below.refl _ _) q))); have k19 : w9.cell? ⟨wr.heap.size, 1, none⟩ = some (.slice fo fs.length fc) := HA9.out.c1; clear hf9 hb9 hs9 hg9)
          | (go_at_call 12; with_reducible refine HKf.out.mono ?_; rintro e w10 ⟨rfl, q10, rfl⟩)
          | (go_at_call 13; with_reducible refine (HOv.out _).mono ?_; rintro e w11 ⟨rfl, hf9, hb9, hs9, hg9⟩; have HG9 := hidS (And.intro hb9 hg9); clear hf9 hb9 hs9 hg9))
        go_roundw
        case rel => exact ⟨t + 1, _, _, _, _, _, _, _, _, _, _, _, _, _, _, _, _, _, by omega, by go_num, rfl, rfl, rfl, rfl, ⟨Nat.le_trans HLA.out.n2 (by omega), by have := HLA.out.m2; omega, HLA.out.zl, all2 (P := fun i => (ext2 T m T4 T5 i).length ≤ 1048576) (fun i hi => by rw [ext2_lt _ _ _ _ hi]; exact HLA.out.tl i hi) (by rw [ext2_n]; exact hl4) (by rw [ext2_n1]; exact hl5), all2 (P := fun i => ∀ s ∈ ext2 T m T4 T5 i, s.2.2.length ≤ 8388608) (fun i hi => by rw [ext2_lt _ _ _ _ hi]; exact HLA.out.bl' i hi) (by rw [ext2_n]; exact HTl.out _ HM4.out) (by rw [ext2_n1]; exact HTl.out _ HM5.out), (HX9.out.below (below_drewN (Below.refl _ _) _)).over (own_below HF9.out (below_drewN (Below.refl _ _) _)) HG9.out.2 (HN.out g (.inl rfl)).1, (HK9.out.below (below_drewN (Below.refl _ _) _)).over (own_below HF9.out (below_drewN (Below.refl _ _) _)) HG9.out.2 (HN.out g (.inl rfl)).2, fun i j hi hj => all2 (P := fun j => ∀ s ∈ ext2 T m T4 T5 j, Apt (vals i) s.2.1) (fun j hj => by rw [ext2_lt _ _ _ _ hj]; exact HLA.out.x i j hi hj) (by rw [ext2_n]; exact hta5.out i hi) (by rw [ext2_n1]; exact htb5.out i hi) j hj, (below_drewN HB9.out _).trans (HG9.out.1.mono HLA.out.bl.size)⟩⟩
        case measure => simp [intOf]; omega
      case true =>
        have k31 : w1.cell? ⟨wr.heap.size, 3, none⟩ = some (.slice ro R.length rc) := (HOA.out w1 hb1).c3
        have HLr := hidS (lentR_any ro rc R w1 hRl HRg.out (HRd.out w1 hb1).2.2)
        go_wp2_with fail
        with_reducible refine HLr.out.mono ?_
        rintro e w2 ⟨E, gw, cw, vf, rfl, hP2⟩
        have hb2 := hP2.bel
        have hcwI : (R.length : Int) ≤ (cw : Int) := by have := hP2.room; omega
        obtain ⟨af, cvf, rfl⟩ := own_form0' hP2.full
        have HP2 := hidS hP2
        have hb12 := btS hb1 hb2
        have k12 : w2.cell? ⟨wr.heap.size, 1, none⟩ = some (.slice fo fs.length fc) := (HOA.out w2 hb12).c1
        have k32 : w2.cell? ⟨wr.heap.size, 3, none⟩ = some (.slice ro R.length rc) := (HOA.out w2 hb12).c3
        have HDl := hidS (rmendA fo ro fc rc fs R w2 hfl hRl (HRd.out w2 hb12).1 (HRd.out w2 hb12).2.2 HRe.out)
        clear HLr k31 k01 hP2
        go_wp2_with fail
        with_reducible refine HDl.out.mono ?_
        rintro e w3 ⟨⟨v3, rfl, own3⟩, hb3⟩
        have HPl : Hid (∀ W', Below w3.heap.size w3 W' → Calls Try.prog 8 #[.slice (some ⟨g, 0, none⟩) fs.length cf, .slice (some ⟨gw, 0, none⟩) R.length cw] W' fun e w' => (∃ v, e = .returned (.tuple #[v, .int .i64 (mdE fs R)]) ∧ w'.ownsRow W'.heap.size 5 1 v (mdL fs R).length (bv (mdL fs R))) ∧ Below W'.heap.size W' w') := fun W' hW' => mendA (some ⟨g, 0, none⟩) (some ⟨gw, 0, none⟩) cf cw fs R W' hfl hRl (fun h => by cases h) (reads_own (own_below (own_below own1 (btS hb2 hb3)) hW') (by simp)) (HP2.out.below (btS hb3 hW')).runs HRe.out
        have hb13 := btS hb12 hb3
        have k13 : w3.cell? ⟨wr.heap.size, 1, none⟩ = some (.slice fo fs.length fc) := (HOA.out w3 hb13).c1
        have k33 : w3.cell? ⟨wr.heap.size, 3, none⟩ = some (.slice ro R.length rc) := (HOA.out w3 hb13).c3
        have hm8 : (mdL fs R).length ≤ 8388608 := Nat.le_trans (mdL_len fs R) (by omega)
        generalize hEr : mdE fs R = er at *
        generalize hLr : mdL fs R = Lr at *
        clear HDl k12 k32 hEr hLr
        go_wp2_with fail
        refine (fun (hrest : ?P1) => ?main1) ?sub1
        case main1 =>
          go_region_with (go_at_call 8; with_reducible refine (HPl.out _ (Below.refl _ _).drew).mono ?_; rintro e w4 ⟨⟨vw4, rfl, ownw4⟩, hbw4⟩)
          all_goals
            revert ownw4 hbw4
            revert vw4
            revert w4
            exact hrest
        intro w4 vw4 hbw4 ownw4
        replace hbw4 : Below w3.heap.size w3 w4 := (Below.refl w3.heap.size w3).drew.trans hbw4
        replace ownw4 : w4.ownsRow w3.heap.size 5 1 vw4 Lr.length (bv Lr) := ownw4
        have hb14 := btS hb13 hbw4
        have k14 : w4.cell? ⟨wr.heap.size, 1, none⟩ = some (.slice fo fs.length fc) := (HOA.out w4 hb14).c1
        have k34 : w4.cell? ⟨wr.heap.size, 3, none⟩ = some (.slice ro R.length rc) := (HOA.out w4 hb14).c3
        go_wp2_with fail
        refine (fun (hrest : ?P2) => ?main2) ?sub2
        case main2 =>
          go_region_with (go_at_call 8; with_reducible refine (HPl.out _ hbw4.drew).mono ?_; rintro e w5 ⟨⟨vw5, rfl, ownw5⟩, hbw5⟩)
          all_goals
            revert ownw5 hbw5
            revert vw5
            revert w5
            exact hrest
        intro w5 vw5 hbw5 ownw5
        replace hbw5 : Below w4.heap.size w4 w5 := (Below.refl w4.heap.size w4).drew.trans hbw5
        replace ownw5 : w5.ownsRow w4.heap.size 5 1 vw5 Lr.length (bv Lr) := ownw5
        have hb15 := btS hb14 hbw5
        have k35 : w5.cell? ⟨wr.heap.size, 3, none⟩ = some (.slice ro R.length rc) := (HOA.out w5 hb15).c3
        have HP5 := hidS (HP2.out.below (btS hb3 (btS hbw4 hbw5)))
        have HKp := hidS (keptR_any ro af rc cvf gw cw R E w5 hRl HRg.out (HRd.out w5 hb15).2.2 HP5.out)
        clear HPl k13 k33 k14 k34
        obtain ⟨xq, xcq, rfl⟩ := own_form0' own3
        obtain ⟨xa, xca, rfl⟩ := own_form0' ownw4
        obtain ⟨xb, xcb, rfl⟩ := own_form0' ownw5
        have hn2 : n ≤ 2 * 1048576 := by have := HLA.out.n2; omega
        have hsA := HLA.out.bl.size
        have hs12 := hb12.size
        have hs13 := hb13.size
        have hs14 := hb14.size
        have ha5 := hidS (own_monoB (own_below ownw4 hbw5) (show W.heap.size ≤ w3.heap.size by omega))
        have hbb5 := hidS (own_monoB ownw5 (show W.heap.size ≤ w4.heap.size by omega))
        have hq5 := hidS (own_monoB (own_below own3 (btS hbw4 hbw5)) (show W.heap.size ≤ w2.heap.size by omega))
        have hab5 : Hid (Apt (.slice xa Lr.length xca) (.slice xb Lr.length xcb)) := Apt.later ownw4 ownw5 (Nat.le_refl _)
        have hva5 : Hid (∀ i, i < n → Apt (vals i) (.slice xa Lr.length xca)) := fun i hi => Apt.later (HLA.out.kw.own.each i hi) ownw4 (by omega)
        have hvb5 : Hid (∀ i, i < n → Apt (vals i) (.slice xb Lr.length xcb)) := fun i hi => Apt.later (HLA.out.kw.own.each i hi) ownw5 (by omega)
        have hta5 : Hid (∀ j, j < m → ∀ s ∈ T j, Apt (.slice xa Lr.length xca) s.2.1) := fun j hj s hs => (Apt.later ((HLA.out.kr.each j hj).each s hs) ownw4 (by omega)).symm
        have htb5 : Hid (∀ j, j < m → ∀ s ∈ T j, Apt (.slice xb Lr.length xcb) s.2.1) := fun j hj s hs => (Apt.later ((HLA.out.kr.each j hj).each s hs) ownw5 (by omega)).symm
        have HM8 := hidS hm8
        have HLt := hidS (show wr.heap.size < w5.heap.size by have := hb15.size; omega)
        clear hsA hs12 hs13 hs14
        go_wp2_with (first
          | (go_at_call 9; with_reducible refine HKp.out.mono ?_; rintro e w6 ⟨rfl, mk6, hq6e⟩; have hb6 : Below w5.heap.size w5 w6 := (by rw [hq6e]; exact below_drewN (Below.refl _ _) _); have HB6 := hidS hb6; have HL6 := hidS (HLA.out.below (btS hb15 hb6)); have HA6 := hidS (HOA.out w6 (btS hb15 hb6)); clear hb6 hq6e)
          | (at_builtin; refine wpList_append_lies _ rfl _ _ 24 rfl W.heap.size 26 j0 (.slice none 0 0) 1 24 Try.underlying24 hj hy0 hy1 hy2 rfl (by decide) _ n ((List.range n).map vals) rfl (HL6.out.kw.own.row.alloc _) ⟨_, 0, none⟩ 2 2 [.slice xa Lr.length xca, .slice xb Lr.length xcb] rfl rfl ?x1 ?x2 (by decide) ?x3 ?x4 ?x5 (w6.heap.size + 1) (by simp) ?_))
        case x1 =>
          intro j u hj
          match j, hj with
          | 0, hj => simp at hj; subst hj; simp [Addr.add]
          | 1, hj => simp at hj; subst hj; simp [Addr.add]
          | (j + 2), hj => simp at hj
        case x2 => intro u hu; simp at hu; rcases hu with rfl | rfl <;> rfl
        case x3 => unfold maxLen; omega
        case x4 => omega
        case x5 => have := HL6.out.bl.size; simp; omega
        intro g7 c7 w7 own7 hg7 hor7 _
        have HNb1 : Hid (some wr.heap.size ≠ (Value.slice lo n lc).ownBlock) := HNb.out HL.out.kw.own.row
        have HNb2 : Hid (some wr.heap.size ≠ (Value.slice wo n wc).ownBlock) := HNb.out HL.out.kw.wrow
        have HA7 := hidS (at_grow HA6.out (Nat.lt_of_lt_of_le HLt.out HB6.out.size) hg7 HNb1.out)
        have HLt7 := hidS (show wr.heap.size < w7.heap.size by have h1 := HLt.out; have h2 := HB6.out.size; have h3 := hg7.size; simp at h3; omega)
        have hwr7 := hidS ((HL6.out.kw.wrow.alloc _).kept hg7 (Apt.of HL6.out.kw.sep).symm.l)
        have HX7 := hidS ((HL6.out.kr.alloc _).kty (HL6.out.kw.own.row.alloc _) (by decide) (by decide) (by decide) hg7)
        have HB7 := hidS (grown_below HL6.out.bl HL6.out.bl.size HL6.out.kw.own.row hg7)
        have HF6 := hidS (own_below own1 (btS hb2 (btS hb3 (btS hbw4 (btS hbw5 HB6.out)))))
        have HF7 := hidS ((HF6.out.alloc _).kept hg7 (rows_type (e := 5) (e' := 26) (by decide) HF6.out HL6.out.kw.own.row))
        have HO7 := hidS own7
        have HG7 := hidS hg7
        have HR7 := hidS hor7
        clear own7 hg7 hor7
        go_wp2_with (at_builtin; refine wpList_append_lies _ rfl _ _ 24 rfl W.heap.size 26 j0 (.slice none 0 0) 1 24 Try.underlying24 hj hy0 hy1 hy2 rfl (by decide) _ n ((List.range n).map wv) rfl (hwr7.out.alloc _) ⟨_, 0, none⟩ 2 2 [.slice xq Lr.length xcq, .slice xq Lr.length xcq] rfl rfl ?z1 ?z2 (by decide) ?z3 ?z4 ?z5 (w7.heap.size + 1) (by simp) ?_)
        case z1 =>
          intro j u hj
          match j, hj with
          | 0, hj => simp at hj; subst hj; simp [Addr.add]
          | 1, hj => simp at hj; subst hj; simp [Addr.add]
          | (j + 2), hj => simp at hj
        case z2 => intro u hu; simp at hu; subst hu; rfl
        case z3 => unfold maxLen; omega
        case z4 => omega
        case z5 => have := HB7.out.size; simp; omega
        intro g8 c8 w8 own8 hg8 hor8 _
        have HK8 := hidS (kw_ext (L := Lr) HL6.out.kw (own_below ha5.out HB6.out) (own_below hbb5.out HB6.out) (own_below hq5.out HB6.out) hab5.out hva5.out hvb5.out HO7.out HG7.out HR7.out own8 hg8 hor8)
        have HX8 := hidS ((HX7.out.alloc _).kty (hwr7.out.alloc _) (by decide) (by decide) (by decide) hg8)
        have HB8 := hidS (grown_below HB7.out HB7.out.size hwr7.out hg8)
        have HZ8 := hidS (extZ_le HLA.out.zl HM8.out)
        have HA8 := hidS (at_grow HA7.out HLt7.out hg8 HNb2.out)
        have HF8 := hidS ((HF7.out.alloc _).kept hg8 (rows_type (e := 5) (e' := 26) (by decide) HF7.out hwr7.out))
        have hgA := (own1.lt g rfl)
        have HNe : Hid (∀ i, i < n + 2 → (ext vals n (.slice xa Lr.length xca) (.slice xb Lr.length xcb) i).ownBlock ≠ some g ∧ (ext wv n (.slice xq Lr.length xcq) (.slice xq Lr.length xcq) i).ownBlock ≠ some g) := fun i hi =>
          ⟨ext_ne (fun i hi => own_lt_ne (HLA.out.kw.own.each i hi) hgA.1) (own_ge_ne ownw4 (by have := hb2.size; have := hb3.size; omega)) (own_ge_ne ownw5 (by have := hb2.size; have := hb3.size; have := hbw4.size; omega)) i hi, ext_ne (fun i hi => own_lt_ne (HLA.out.kw.weach i hi) hgA.1) (own_ge_ne own3 (by have := hb2.size; omega)) (own_ge_ne own3 (by have := hb2.size; omega)) i hi⟩
        have HNt : Hid (∀ i, i < m → (∀ s ∈ T i, s.2.1.ownBlock ≠ some g) ∧ (∀ s ∈ T' i, s.2.1.ownBlock ≠ some g)) := fun i hi =>
          ⟨fun s hs => own_lt_ne ((HLA.out.kr.each i hi).each s hs) hgA.1, fun s hs => own_lt_ne ((HLA.out.kr.weach i hi).each s hs) hgA.1⟩
        have HKf := hidS (kept_any fo fc fs g cf w8 (by omega) (HRW.out w8 HB8.out).1 (fun i hi => own_get HF8.out (by simpa [marks_len] using hi)))
        have HOv := hidS (fun q => over_any g cf (fs.length + 64) (fs.length + 64) wA.heap.size (fs ++ marks 0 64) (w8.drewN q) (by omega) (Nat.le_refl _) (by simp [marks_len]) (own_below HF8.out (below_drewN (Below.refl _ _) q)))
        have k18 : w8.cell? ⟨wr.heap.size, 1, none⟩ = some (.slice fo fs.length fc) := HA8.out.c1
        clear own8 hg8 hor8
        go_wp2_with (first
          | (go_at_call 12; with_reducible refine HKf.out.mono ?_; rintro e w9 ⟨rfl, q9, rfl⟩)
          | (go_at_call 13; with_reducible refine (HOv.out _).mono ?_; rintro e w10 ⟨rfl, hf9, hb9, hs9, hg9⟩; have HG9 := hidS (And.intro hb9 hg9); clear hf9 hb9 hs9 hg9))
        go_roundw
        case rel => exact ⟨t + 1, _, _, _, _, _, _, _, _, _, _, _, _, _, _, _, _, _, by omega, by go_num, rfl, rfl, rfl, rfl, ⟨by have := HLA.out.n2; omega, Nat.le_trans HLA.out.m2 (by omega), HZ8.out, HLA.out.tl, HLA.out.bl', (HK8.out.below (below_drewN (Below.refl _ _) _)).over (own_below HF8.out (below_drewN (Below.refl _ _) _)) HG9.out.2 HNe.out, (HX8.out.below (below_drewN (Below.refl _ _) _)).over (own_below HF8.out (below_drewN (Below.refl _ _) _)) HG9.out.2 HNt.out, fun i j hi hj s hs => all2 (P := fun i => Apt (ext vals n (.slice xa Lr.length xca) (.slice xb Lr.length xcb) i) s.2.1) (fun i hi => by rw [ext_lt _ _ _ _ hi]; exact HLA.out.x i j hi hj s hs) (by rw [ext_n]; exact hta5.out j hj s hs) (by rw [ext_n1]; exact htb5.out j hj s hs) i hi, (below_drewN HB8.out _).trans (HG9.out.1.mono HLA.out.bl.size)⟩⟩
        case measure => simp [intOf]; omega
    · have hltI : ¬ (t : Int) < (N : Int) := by omega
      have htN : t ≤ 1048576 := by omega
      have HT := hidS (TlS.of HL.out)
      clear hL hb HL
      go_wp2_with fail
      go_loopw [3, 4, 25] (fun kv qv i wr => ∃ (a n : Nat) (lo : Option Addr) (lc : Nat) (wo : Option Addr) (wc : Nat) (vals wv : Nat → Value) (Z : Nat → List Int), a ≤ m ∧ i = .int .i64 a ∧ kv = .slice lo n lc ∧ qv = .slice wo n wc ∧ TlS W wr t a 0 n m lo lc wo wc vals wv Z co cc po pc cv pv T T')
        (fun _ _ i _ => m - (intOf i).toNat)
      case atStart => exact ⟨0, n, lo, lc, wo, wc, vals, wv, Z, Nat.zero_le _, rfl, rfl, rfl, HT.out⟩
      case round =>
        clear HT
        obtain ⟨a, n, lo, lc, wo, wc, vals, wv, Z, ha, rfl, rfl, rfl, hT⟩ := hrel
        have HT := hidS hT
        have hm4 : m ≤ 2097152 := by have := hT.m2; omega
        by_cases hlt : a < m
        · obtain ⟨g0, rfl⟩ := own_pos' hT.kr.row (by omega)
          obtain ⟨g1, rfl⟩ := own_pos' hT.kr.wrow (by omega)
          have hc0 := own_at hT.kr.row hlt
          have hc1 := own_at hT.kr.wrow hlt
          obtain ⟨a0, ca0, hv0, hr0⟩ := own_runsR (hT.kr.each a hlt)
          obtain ⟨a1, ca1, hv1, hr1⟩ := own_runsR (hT.kr.weach a hlt)
          have hsm := hT.kr.same a hlt
          rw [hsm] at hr1
          have hle : (T' a).length = (T a).length := by have := congrArg List.length hsm; simpa using this
          rw [hle] at hv1
          have HV0 := hidS hv0
          have HV1 := hidS hv1
          rw [hv0] at hc0
          rw [hv1] at hc1
          have hta := hT.tl a hlt
          have HbT : Hid (∀ k, k < ((T a).map trun).length → (((T a).map trun).getD k (0, [])).2.length ≤ 140737488355328) := fun k hk => by
            rw [List.length_map] at hk
            have e : ((T a).map trun).getD k (0, []) = trun ((T a).getD k dT) := by simp [List.getD, List.getElem?_eq_getElem hk]
            rw [e]
            exact Nat.le_trans (hT.bl' a hlt _ (dT_mem hk)) (by decide)
          have HS : Hid (∀ q, Calls Try.prog 14 #[.slice a0 (T a).length ca0, .slice a1 (T a).length ca1] (wr.drewN q) fun e w' => e = .returned (.bool true) ∧ ∃ m, w' = (wr.drewN q).drewN m) := fun q => by
            have := sameR_any a0 a1 ca0 ca1 ((T a).map trun) (wr.drewN q) (by rw [List.length_map]; omega) HbT.out ((hr0.below (below_drewN (Below.refl _ _) q)).mono (below_drewN (Below.refl wr.heap.size wr) q).size) ((hr1.below (below_drewN (Below.refl _ _) q)).mono (below_drewN (Below.refl wr.heap.size wr) q).size)
            rwa [List.length_map] at this
          have hltI : (a : Int) < (m : Int) := by omega
          have HLe := hidS hle
          clear hv0 hv1 hr0 hr1 hsm hle HbT hT
          go_wp2_with fail
          go_quiet ((go_at_call 14; exact Calls.quiet_of (HS.out _)))
          clear HS
          generalize hwd : wr.drewN nq = wd at *
          have HTd : Hid (TlS W wd t a 0 n m lo lc wo wc vals wv Z (some ⟨g0, 0, none⟩) cc (some ⟨g1, 0, none⟩) pc cv pv T T') := hidS (HT.out.below (hwd ▸ below_drewN (Below.refl _ _) nq))
          clear hwd hc0 hc1
          go_wp2_with fail
          go_loopw [3, 4, 26] (fun kv qv i wr => ∃ (k n : Nat) (lo : Option Addr) (lc : Nat) (wo : Option Addr) (wc : Nat) (vals wv : Nat → Value) (Z : Nat → List Int), k ≤ (T a).length ∧ i = .int .i64 k ∧ kv = .slice lo n lc ∧ qv = .slice wo n wc ∧ TlS W wr t a k n m lo lc wo wc vals wv Z (some ⟨g0, 0, none⟩) cc (some ⟨g1, 0, none⟩) pc cv pv T T')
            (fun _ _ i _ => (T a).length - (intOf i).toNat)
          case atStart => exact ⟨0, n, lo, lc, wo, wc, vals, wv, Z, Nat.zero_le _, rfl, rfl, rfl, HTd.out⟩
          case round =>
            clear HT HTd
            obtain ⟨k, n, lo, lc, wo, wc, vals, wv, Z, hk, rfl, rfl, rfl, hT⟩ := hrel
            have HT := hidS hT
            have hc0 := own_at hT.kr.row hlt
            have hc1 := own_at hT.kr.wrow hlt
            rw [HV0.out] at hc0
            rw [HV1.out] at hc1
            by_cases hkl : k < (T a).length
            · have hn5 : n + 1 ≤ 2199025352704 := by have := hT.n2; omega
              have hrw := (hT.kr.each a hlt).row
              have hl' : k < (T' a).length := by rw [HLe.out]; exact hkl
              rw [HV0.out] at hrw
              obtain ⟨ga, rfl⟩ := own_pos' hrw (by omega)
              have d0 := hrw.cells (g := ga) rfl _ _ (tcells_get (T a) k hkl).2
              obtain ⟨xa, xca, hV⟩ := own_form0' ((hT.kr.each a hlt).each _ (dT_mem hkl))
              obtain ⟨xb, xcb, hV'⟩ := own_form0' ((hT.kr.weach a hlt).each _ (dT_mem hl'))
              have HVa := hidS hV
              have HVb := hidS hV'
              rw [add_plain, Nat.zero_add, show ((T a).getD k (0, .slice none 0 0, [])).2.1 = _ from hV] at d0
              generalize ((T a).getD k dT).2.2.length = la at d0 hV HVa
              generalize ((T' a).getD k dT).2.2.length = lb at hV' HVb
              have hkI : (k : Int) < ((T a).length : Int) := by omega
              have HN5 := hidS hn5
              have HKL : Hid (k < (T a).length) := hkl
              have HTA := hidS hta
              clear hrw hV hV' hc1 hT hn5 hk hta htN hltI
              go_wp2_with (at_builtin; refine wpList_append_lies _ rfl _ _ 24 rfl W.heap.size 26 j0 (.slice none 0 0) 1 24 Try.underlying24 hj hy0 hy1 hy2 rfl (by decide) _ n ((List.range n).map vals) rfl (HT.out.kw.own.row.alloc _) ⟨_, 0, none⟩ 1 1 [.slice xa la xca] rfl rfl ?x1 ?x2 (by decide) ?x3 ?x4 ?x5 (wr.heap.size + 1) (by simp) ?_)
              case x1 =>
                intro j u hj
                match j, hj with
                | 0, hj => simp at hj; subst hj; simp [Addr.add]
                | (j + 1), hj => simp at hj
              case x2 => intro u hu; simp at hu; subst hu; rfl
              case x3 => have := HN5.out; unfold maxLen; omega
              case x4 => have := HN5.out; omega
              case x5 => have := HT.out.bl.size; simp; omega
              intro g7 c7 w7 own7 hg7 hor7 _
              have hwr7 := hidS ((HT.out.kw.wrow.alloc _).kept hg7 (Apt.of HT.out.kw.sep).symm.l)
              have hK7 := (HT.out.kr.alloc _).kty (HT.out.kw.own.row.alloc _) (by decide) (by decide) (by decide) hg7
              have HB7 := hidS (grown_below HT.out.bl HT.out.bl.size HT.out.kw.own.row hg7)
              have hc1 := own_at hK7.wrow hlt
              have hrw := (hK7.weach a hlt).row
              rw [HV1.out] at hc1 hrw
              rw [HLe.out] at hrw
              obtain ⟨gb, rfl⟩ := own_pos' hrw (by omega)
              have d1 := hrw.cells (g := gb) rfl _ _ (tcells_get (T' a) k (by rw [HLe.out]; exact HKL.out)).2
              rw [add_plain, Nat.zero_add, show ((T' a).getD k (0, .slice none 0 0, [])).2.1 = _ from HVb.out] at d1
              have HO7 := hidS own7
              have HG7 := hidS hg7
              have HR7 := hidS hor7
              clear own7 hg7 hor7 hrw hc0 d0 hK7
              go_wp2_with (at_builtin; refine wpList_append_lies _ rfl _ _ 24 rfl W.heap.size 26 j0 (.slice none 0 0) 1 24 Try.underlying24 hj hy0 hy1 hy2 rfl (by decide) _ n ((List.range n).map wv) rfl (hwr7.out.alloc _) ⟨_, 0, none⟩ 1 1 [.slice xb lb xcb] rfl rfl ?y1 ?y2 (by decide) ?y3 ?y4 ?y5 (w7.heap.size + 1) (by simp) ?_)
              case y1 =>
                intro j u hj
                match j, hj with
                | 0, hj => simp at hj; subst hj; simp [Addr.add]
                | (j + 1), hj => simp at hj
              case y2 => intro u hu; simp at hu; subst hu; rfl
              case y3 => have := HN5.out; unfold maxLen; omega
              case y4 => have := HN5.out; omega
              case y5 => have := HB7.out.size; simp; omega
              intro g8 c8 w8 own8 hg8 hor8 _
              have HS8 := hidS (HT.out.step hlt HKL.out (by rw [HVa.out]; exact HO7.out) HG7.out HR7.out (by rw [HVb.out]; exact own8) hg8 hor8)
              clear own8 hg8 hor8
              have hta := HTA.out
              go_wp2_with fail
              go_roundw
              case rel => exact ⟨k + 1, n + 1, _, _, _, _, _, _, _, HKL.out, by go_num, rfl, rfl, HS8.out⟩
              case measure => have := HKL.out; simp [intOf]; omega
            · have hkI : ¬ (k : Int) < ((T a).length : Int) := by omega
              have HTn := hidS (hT.next (by omega))
              clear hT hc1
              go_wp2_with fail
              go_roundw
              case rel => exact ⟨a + 1, n, lo, lc, wo, wc, vals, wv, Z, by omega, by go_num, rfl, rfl, HTn.out⟩
              case measure => simp [intOf]; omega
        · have hma : ¬ (a : Int) < (m : Int) := by omega
          have hn4 : n ≤ 5800000000000 := by have := hT.n2; omega
          have HKe := hidS (keep_any lo wo lc wc n W.heap.size vals wv Z wr hn4 (fun i hi => Nat.le_trans (HT.out.zl i hi) (by decide)) HT.out.bl.size HT.out.kw)
          clear hT hn4
          go_wp2_with fail
          with_reducible refine HKe.out.mono ?_
          rintro e w5 ⟨rfl, hT5⟩
          have HB5 := hidS (HT.out.kbelow hT5)
          have hR5 := HT.out.runs hT5
          have HAp := hidS (apartR_any co cc m W.heap.size cv (fun j => (T j).map fun s => (s.1, s.2.1)) w5 (by omega) (fun i hi => by have := HT.out.tl i hi; simp only [List.length_map]; omega) HB5.out.size hR5)
          have HR5 := hidS hR5
          clear hT5 HKe hR5
          go_wp2_with fail
          with_reducible refine HAp.out.mono ?_
          rintro e w6 ⟨rfl, hT6⟩
          have HB6 := hidS (HB5.out.trans (hT6.below HB5.out.size (fun i b hi hbk => ((HR5.out.each i hi).lt b hbk).1)))
          clear hT6 HAp
          go_wp2_with fail
          go_ret
          exact ⟨rfl, HB6.out⟩
end Go.Proofs.Ytfjnpmbkmoodnaa
