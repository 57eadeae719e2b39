import Derived.Test.YtldeodnlppjbcaaCUTx
import Derived.Test.YtldeodnlppjbcaaLApK
import Derived.Test.YtldeodnlppjbcaaCKGg
namespace Go.Proofs.Ytldeodnlppjbcaa
open Go.RowKit
set_option maxRecDepth 100000

theorem toV_len2 (s : ByteArray) (G : List ByteArray) : (toV s G).1.length ≤ 524288 := by
  by_cases h : (toV s G).2.2 = 0
  · exact toV_len h
  · unfold toV at h ⊢
    split
    · rename_i hm
      rw [if_pos hm] at h
      unfold cutV at h ⊢
      split
      · simp
      · have := cutF_len s G s.size 0 []
        simp at this
        omega
    · simp
set_option maxHeartbeats 4000000 in
theorem usame_any (so : Option Addr) (sc : Nat) (u : ByteArray) (ao : Option Addr) (c : Nat) (G : List ByteArray) (w : World) (hc : G.length ≤ c) (hl : G.length ≤ 9223372036854775807) (hg : ∀ x ∈ G, x.size ≤ 9223372036854775807) (hz : u.size ≤ 9223372036854775807) (hr : GRd w ao G w.heap.size)
    (hY : TRd w so (tsOf u (toV u G).1) w.heap.size) :
    Calls Try.prog 8 #[.slice so (tsOf u (toV u G).1).length sc, .int .i64 (toV u G).2.1, .int .i64 (toV u G).2.2, .string u, .slice ao G.length c] w fun e w' => e = .returned (.bool true) ∧ Below w.heap.size w w' := by
  have hT := rtokens_any u ao c G w hc hl hg hz hr
  have hlen := toV_len2 u G
  rw [tv_tw, ← tsOf_len u (toV u G).1] at hT
  rw [← tsOf_len u (toV u G).1] at hlen
  generalize tsOf u (toV u G).1 = Y at *
  generalize (toV u G).2.1 = p at *
  generalize (toV u G).2.2 = er at *
  have HY := hidK hY
  clear hr hg hY
  go_enter Try.func8, Try.ntmps8
  go_wp2_with (first
    | (go_at_call 18; with_reducible refine hT.mono ?_; rintro e w2 ⟨v, rfl, hown, h2⟩; obtain ⟨s2, c2, rfl, hc2, hT2⟩ := trd_own hown; have hS := sameK_any so sc s2 c2 Y w2 ((HY.out.below h2).mono h2.size) hT2 (by omega))
    | (go_at_call 19; with_reducible refine hS.mono ?_; rintro e w3 ⟨rfl, h3⟩)
    | fail)
  go_ret
  exact ⟨rfl, h2.trans (h3.mono h2.size)⟩
def vals4 (a b c d : Value) (i : Nat) : Value := if i = 0 then a else if i = 1 then b else if i = 2 then c else d
def z4 (A C : List Tt) (i : Nat) : List Tt := if i = 2 then C else A
theorem lt4 {i : Nat} (h : i < 4) : i = 0 ∨ i = 1 ∨ i = 2 ∨ i = 3 := by omega
theorem own_lowerU {w : World} {B B' e sz : Nat} {v : Value} {n : Nat} {xs : List Value} (h : w.ownsRow B e sz v n xs) (hle : B' ≤ B) : w.ownsRow B' e sz v n xs :=
  ⟨h.1, h.2.imp id (fun ⟨g, cap, cur, a, b, c⟩ => ⟨g, cap, cur, a, Nat.le_trans hle b, c⟩)⟩
theorem farU {w w1 : World} {B n n' e e' s s' : Nat} {v v' : Value} {xs xs' : List Value} (h : w.ownsRow B e s v n xs) (h' : w1.ownsRow w.heap.size e' s' v' n' xs') : v.ownBlock = none ∨ v.ownBlock ≠ v'.ownBlock := by
  cases hv : v.ownBlock with
  | none => exact .inl rfl
  | some g =>
    right
    intro e
    have h1 := (h'.lt g e.symm).1
    have h2 := (h.lt g hv).2
    omega
theorem farU' {w w1 : World} {B n n' e e' s s' : Nat} {v v' : Value} {xs xs' : List Value} (h : w.ownsRow B e s v n xs) (h' : w1.ownsRow w.heap.size e' s' v' n' xs') : v'.ownBlock = none ∨ v'.ownBlock ≠ v.ownBlock := by
  cases hv : v'.ownBlock with
  | none => exact .inl rfl
  | some g =>
    right
    intro e
    have h1 := (h'.lt g hv).1
    have h2 := (h.lt g e.symm).2
    omega
theorem own4K {w : World} {B : Nat} {a b c d : Value} {A C : List Tt} (hB : B ≤ w.heap.size) (ha : w.ownsRow B 36 3 a A.length (tw A)) (hb : w.ownsRow B 36 3 b A.length (tw A)) (hc : w.ownsRow B 36 3 c C.length (tw C)) (hd : w.ownsRow B 36 3 d A.length (tw A))
    (f1 : a.ownBlock = none ∨ a.ownBlock ≠ b.ownBlock) (f2 : b.ownBlock = none ∨ b.ownBlock ≠ a.ownBlock) (f3 : a.ownBlock = none ∨ a.ownBlock ≠ c.ownBlock) (f4 : c.ownBlock = none ∨ c.ownBlock ≠ a.ownBlock) (f5 : a.ownBlock = none ∨ a.ownBlock ≠ d.ownBlock) (f6 : d.ownBlock = none ∨ d.ownBlock ≠ a.ownBlock)
    (g1 : b.ownBlock = none ∨ b.ownBlock ≠ c.ownBlock) (g2 : c.ownBlock = none ∨ c.ownBlock ≠ b.ownBlock) (g3 : b.ownBlock = none ∨ b.ownBlock ≠ d.ownBlock) (g4 : d.ownBlock = none ∨ d.ownBlock ≠ b.ownBlock) (g5 : c.ownBlock = none ∨ c.ownBlock ≠ d.ownBlock) (g6 : d.ownBlock = none ∨ d.ownBlock ≠ c.ownBlock) :
    OwnC (w.alloc (.cells #[a, b, c, d] 24)) B (some ⟨w.heap.size, 0, none⟩) 4 4 (vals4 a b c d) (z4 A C) := by
  refine ⟨World.ownsRow_lit (size := 1) (base := B) (e := 24) w #[a, b, c, d] 4 hB (by decide) rfl, ?_, ?_⟩
  · intro i hi
    rcases lt4 hi with rfl | rfl | rfl | rfl
    · exact ha.alloc _
    · exact hb.alloc _
    · exact hc.alloc _
    · exact hd.alloc _
  · intro i j hi hj hne
    rcases lt4 hi with rfl | rfl | rfl | rfl <;> rcases lt4 hj with rfl | rfl | rfl | rfl <;> first | exact absurd rfl hne | exact f1 | exact f2 | exact f3 | exact f4 | exact f5 | exact f6 | exact g1 | exact g2 | exact g3 | exact g4 | exact g5 | exact g6
/-- the cells of a row of texts -/
theorem gs_cells {W : World} {B g n cap : Nat} {L : List ByteArray} (h : W.ownsRow B 9 1 (.slice (some ⟨g, 0, none⟩) n cap) n (gsv L)) : ∀ i, i < L.length → W.cell? ⟨g, i, none⟩ = some (.string (L.getD i ByteArray.empty)) := by
  intro i hi
  have hadd : (⟨g, 0, none⟩ : Addr).add i = ⟨g, i, none⟩ := by unfold Addr.add; split <;> simp_all
  have := h.cells (g := g) rfl i (.string (L.getD i ByteArray.empty)) (by simp [gsv, List.getD_eq_getElem?_getD, List.getElem?_eq_getElem hi])
  rwa [hadd] at this
theorem gs_rd {W : World} {B g n cap : Nat} {L G : List ByteArray} (h : W.ownsRow B 9 1 (.slice (some ⟨g, 0, none⟩) n cap) n (gsv L)) (hG : G = L.take G.length) : GRd W (some ⟨g, 0, none⟩) G W.heap.size := by
  intro _
  refine ⟨g, 0, rfl, (h.lt g rfl).2, fun j hj => ?_⟩
  have hl : G.length ≤ L.length := by
    have := congrArg List.length hG
    simp at this
    omega
  rw [Nat.zero_add, gs_cells h j (by omega)]
  congr 2
  rw [hG, List.getD_eq_getElem?_getD, List.getD_eq_getElem?_getD, List.getElem?_take, if_pos hj]
theorem gs_form {W : World} {B : Nat} {v : Value} {L : List ByteArray} (h : W.ownsRow B 9 1 v L.length (gsv L)) : ∃ a c, v = .slice a L.length c ∧ L.length ≤ c ∧ GRd W a L W.heap.size := by
  have h' := h
  rcases h.2 with ⟨rfl, hz⟩ | ⟨g, cap, cur, rfl, _, _, hc, _⟩
  · exact ⟨none, 0, by rw [hz], by omega, fun hp => by omega⟩
  · exact ⟨_, cap, rfl, hc, gs_rd h' (by rw [List.take_length])⟩
def plusT : ByteArray := ⟨#[43]⟩
theorem rep_set (X : List ByteArray) (k : Nat) (h : k < X.length) : gsv (List.replicate (k + 1) plusT ++ X.drop (k + 1)) = (gsv (List.replicate k plusT ++ X.drop k)).set k (.string plusT) := by
  rw [gsv_append, gsv_append, List.replicate_succ', gsv_append, List.drop_eq_getElem_cons h]
  have hl : (gsv (List.replicate k plusT)).length = k := by simp [gsv]
  have e : gsv (X[k] :: X.drop (k + 1)) = .string X[k] :: gsv (X.drop (k + 1)) := rfl
  rw [List.set_append_right _ _ (by omega), hl, e, Nat.sub_self, List.set_cons_zero, List.append_assoc]
  rfl
set_option maxHeartbeats 8000000 in
theorem ttokens_any (s t : ByteArray) (ao : Option Addr) (c : Nat) (G : List ByteArray) (w : World) (hc : G.length ≤ c) (hl : G.length ≤ 8796093021952) (hg : ∀ x ∈ G, x.size ≤ 9223372036854775807) (hzs : s.size ≤ 9223372036854775807) (hzt : t.size ≤ 9223372036854775807) (hr : GRd w ao G w.heap.size) :
    Calls Try.prog 3 #[.string s, .slice ao G.length c, .string t] w fun e w' => e = .returned (.bool true) ∧ Below w.heap.size w w' := by
  have hL := lentT_any ao c G w hl hr
  have HR : Hid (GRd w ao G w.heap.size) := hr
  have HG : Hid (∀ x ∈ G, x.size ≤ 9223372036854775807) := hg
  clear hr hg
  go_enter Try.func3, Try.ntmps3
  go_wp2_with fail
  with_reducible refine hL.mono ?_
  rintro e w1 ⟨v1, rfl, ol1, b1⟩
  obtain ⟨g, cap, rfl, hcap⟩ := own_form ol1 (by omega)
  have hg1 : g < w1.heap.size := (ol1.lt g rfl).2
  have HRk : Hid (∀ wk, Below w1.heap.size w1 wk → GRd wk ao G wk.heap.size) := fun wk hk => (HR.out.below (b1.trans (hk.mono b1.size))).mono (Nat.le_trans b1.size hk.size)
  have HLk : Hid (∀ wk, Below w1.heap.size w1 wk → GRd wk (some ⟨g, 0, none⟩) G wk.heap.size) := fun wk hk => ((gs_rd ol1 (by simp)).below hk).mono hk.size
  have HT : Hid (∀ u : ByteArray, u.size ≤ 9223372036854775807 → ∀ wk, Below w1.heap.size w1 wk → Calls Try.prog 7 #[.string u, .slice (some ⟨g, 0, none⟩) G.length cap] wk fun e w' => ∃ so sc, e = .returned (.tuple #[.slice so (tsOf u (toV u G).1).length sc, .int .i64 (toV u G).2.1, .int .i64 (toV u G).2.2]) ∧ w'.ownsRow wk.heap.size 36 3 (.slice so (tsOf u (toV u G).1).length sc) (tsOf u (toV u G).1).length (tw (tsOf u (toV u G).1)) ∧ TRd w' so (tsOf u (toV u G).1) w'.heap.size ∧ Below wk.heap.size wk w') := fun u hu wk hk => by
    refine (tokens_any u (some ⟨g, 0, none⟩) cap G wk (by omega) (by omega) HG.out hu (HLk.out wk hk)).mono fun e w' ⟨v, he, ho, hb⟩ => ?_
    rw [tv_tw, ← tsOf_len u (toV u G).1] at ho
    obtain ⟨so, sc, rfl, _, hT⟩ := trd_own ho
    exact ⟨so, sc, he, ho, hT, hb⟩
  have HS : Hid (∀ u : ByteArray, u.size ≤ 9223372036854775807 → ∀ so sc wk, Below w1.heap.size w1 wk → TRd wk so (tsOf u (toV u G).1) wk.heap.size → Calls Try.prog 8 #[.slice so (tsOf u (toV u G).1).length sc, .int .i64 (toV u G).2.1, .int .i64 (toV u G).2.2, .string u, .slice ao G.length c] wk fun e w' => e = .returned (.bool true) ∧ Below wk.heap.size wk w') := fun u hu so sc wk hk hY => usame_any so sc u ao c G wk hc (by omega) HG.out hu (HRk.out wk hk) hY
  have HK : Hid (∀ wk, Below w1.heap.size w1 wk → Calls Try.prog 9 #[.slice (some ⟨g, 0, none⟩) (G.length + 64) cap, .slice ao G.length c] wk fun e w' => e = .returned (.bool true) ∧ Below wk.heap.size wk w') := fun wk hk => keptT_any ao c G g cap wk hl (HRk.out wk hk) (by have := hk.size; omega) (fun i hi => (hk.cell (p := ⟨g, i, none⟩) hg1).trans (gs_cells ol1 i (by simp [mtxs_len]; omega)))
  have HTs := hidK (HT.out s hzs)
  have HTt := hidK (HT.out t hzt)
  have HSs := hidK (HS.out s hzs)
  have HSt := hidK (HS.out t hzt)
  have lsl := toV_len2 s G
  have ltl := toV_len2 t G
  rw [← tsOf_len s (toV s G).1] at lsl
  rw [← tsOf_len t (toV t G).1] at ltl
  clear HT HS
  generalize tsOf s (toV s G).1 = Ys at *
  generalize tsOf t (toV t G).1 = Yt at *
  generalize (toV s G).2.1 = ps at *
  generalize (toV s G).2.2 = es at *
  generalize (toV t G).2.1 = pt at *
  generalize (toV t G).2.2 = et at *
  have hcl : (G.length : Int) ≤ (cap : Int) := by omega
  have hcl2 : (G.length : Int) ≤ (G.length : Int) + 64 := by omega
  have r1 : Below w1.heap.size w1 w1 := Below.refl _ _
  go_wp2_with (first
    | (go_at_call 7; with_reducible refine (HTs.out _ r1).mono ?_; rintro e w2 ⟨sa, ca, rfl, oa2, ta2, q2⟩; have r2 := r1.trans (q2.mono r1.size))
    | fail)
  with_reducible refine (HSs.out sa ca _ r2 ta2).mono ?_
  rintro e w3 ⟨rfl, q3⟩
  have r3 := r2.trans (q3.mono r2.size)
  have oa3 := own_below oa2 q3
  go_wp2_with fail
  with_reducible refine (HK.out _ r3).mono ?_
  rintro e w4 ⟨rfl, q4⟩
  have r4 := r3.trans (q4.mono r3.size)
  have oa4 := own_below oa3 q4
  go_wp2_with fail
  with_reducible refine (HTs.out _ r4).mono ?_
  rintro e w5 ⟨sb, cb, rfl, ob5, tb5, q5⟩
  have r5 := r4.trans (q5.mono r4.size)
  have oa5 := own_below oa4 q5
  have fab := hidK (farU oa4 ob5)
  have fba := hidK (farU' oa4 ob5)
  go_wp2_with fail
  with_reducible refine (HSs.out sb cb _ r5 tb5).mono ?_
  rintro e w6 ⟨rfl, q6⟩
  have r6 := r5.trans (q6.mono r5.size)
  have oa6 := own_below oa5 q6
  have ob6 := own_below ob5 q6
  go_wp2_with fail
  with_reducible refine (HTt.out _ r6).mono ?_
  rintro e w7 ⟨sc, cc, rfl, oc7, tc7, q7⟩
  have r7 := r6.trans (q7.mono r6.size)
  have oa7 := own_below oa6 q7
  have ob7 := own_below ob6 q7
  have fac := hidK (farU oa6 oc7)
  have fca := hidK (farU' oa6 oc7)
  have fbc := hidK (farU ob6 oc7)
  have fcb := hidK (farU' ob6 oc7)
  go_wp2_with fail
  with_reducible refine (HSt.out sc cc _ r7 tc7).mono ?_
  rintro e w8 ⟨rfl, q8⟩
  have r8 := r7.trans (q8.mono r7.size)
  have oa8 := own_below oa7 q8
  have ob8 := own_below ob7 q8
  have oc8 := own_below oc7 q8
  go_wp2_with fail
  with_reducible refine (HK.out _ r8).mono ?_
  rintro e w9 ⟨rfl, q9⟩
  have r9 := r8.trans (q9.mono r8.size)
  have oa9 := own_below oa8 q9
  have ob9 := own_below ob8 q9
  have oc9 := own_below oc8 q9
  go_wp2_with fail
  with_reducible refine (HTs.out _ r9).mono ?_
  rintro e w10 ⟨sd, cd, rfl, od10, td10, q10⟩
  have r10 := r9.trans (q10.mono r9.size)
  have oa10 := own_below oa9 q10
  have ob10 := own_below ob9 q10
  have oc10 := own_below oc9 q10
  have fad := hidK (farU oa9 od10)
  have fda := hidK (farU' oa9 od10)
  have fbd := hidK (farU ob9 od10)
  have fdb := hidK (farU' ob9 od10)
  have fcd := hidK (farU oc9 od10)
  have fdc := hidK (farU' oc9 od10)
  go_wp2_with fail
  with_reducible refine (HSs.out sd cd _ r10 td10).mono ?_
  rintro e w11 ⟨rfl, q11⟩
  have r11 := r10.trans (q11.mono r10.size)
  have oa11 := own_below oa10 q11
  have ob11 := own_below ob10 q11
  have oc11 := own_below oc10 q11
  have od11 := own_below od10 q11
  go_wp2_with fail
  have OL := own4K (B := w1.heap.size) r11.size oa11 (own_lowerU ob11 r4.size) (own_lowerU oc11 r6.size) (own_lowerU od11 r9.size) fab.out fba.out fac.out fca.out fad.out fda.out fbc.out fcb.out fbd.out fdb.out fcd.out fdc.out
  have r12 : Below w1.heap.size w1 (w11.alloc (.cells #[.slice sa Ys.length ca, .slice sb Ys.length cb, .slice sc Yt.length cc, .slice sd Ys.length cd] 24)) := r11.alloc r11.size _
  with_reducible refine (apartK_any _ _ 4 w1.heap.size _ _ _ (by decide) ?hlen r12.size OL).mono ?_
  case hlen =>
    intro i hi
    rcases lt4 hi with rfl | rfl | rfl | rfl <;> simp [z4] <;> omega
  rintro e w13 ⟨rfl, T13⟩
  have r13 : Below w1.heap.size w1 w13 := r12.trans (T13.below r12.size (fun i b hi e => by
    rcases lt4 hi with rfl | rfl | rfl | rfl
    · exact (oa11.lt b e).1
    · exact Nat.le_trans r4.size (ob11.lt b e).1
    · exact Nat.le_trans r6.size (oc11.lt b e).1
    · exact Nat.le_trans r9.size (od11.lt b e).1))
  have ol13 := own_below ol1 r13
  have B13 : Below w.heap.size w w13 := b1.trans (r13.mono b1.size)
  clear OL T13 r12 oa2 oa3 oa4 oa5 oa6 oa7 oa8 oa9 oa10 oa11 ob5 ob6 ob7 ob8 ob9 ob10 ob11 oc7 oc8 oc9 oc10 oc11 od10 od11 fab fba fac fca fad fda fbc fcb fbd fdb fcd fdc ta2 tb5 tc7 td10 q2 q3 q4 q5 q6 q7 q8 q9 q10 q11 r1 r2 r3 r4 r5 r6 r7 r8 r9 r10 r11 r13 HTs HTt HSs HSt HK HRk HLk ol1 hL
  go_wp2_with fail
  go_loopw [20] (fun i wr => ∃ k : Nat, k ≤ G.length ∧ i = .int .i64 k ∧ wr.ownsRow w.heap.size 9 1 (.slice (some ⟨g, 0, none⟩) (G.length + 64) cap) (G.length + 64) (gsv (List.replicate k plusT ++ (G ++ mtxs 64).drop k)) ∧ Below w.heap.size w wr) (fun i _ => G.length - (intOf i).toNat)
  case atStart => exact ⟨0, Nat.zero_le _, rfl, ol13, B13⟩
  case round =>
    clear ol13 B13
    obtain ⟨k, hk, rfl, hown, hb⟩ := hrel
    by_cases hlt : k < G.length
    · have hltI : (k : Int) < (G.length : Int) := by omega
      have hltI2 : (k : Int) < (G.length : Int) + 64 := by omega
      have hX : (List.replicate k plusT ++ (G ++ mtxs 64).drop k).length = G.length + 64 := by simp [mtxs_len]; omega
      have x0 := gs_cells hown k (by rw [hX]; omega)
      have y0 := hown.frozenAt k
      obtain ⟨R1, G1⟩ := hown.stored k (.string plusT)
      rw [← rep_set (G ++ mtxs 64) k (by simp [mtxs_len]; omega)] at R1
      have HR1 := hidK R1
      have HB1 : Hid (Below w.heap.size w (wr.setCell ⟨g, k, none⟩ (.string plusT))) := hb.grown G1 hb.size (fun j e => by
        have : g = j := by simpa [Value.ownBlock] using e
        subst this
        exact (hown.lt g rfl).1)
      have hgw : g < wr.heap.size := (hown.lt g rfl).2
      generalize (List.replicate k plusT ++ (G ++ mtxs 64).drop k).getD k ByteArray.empty = z at *
      clear R1 G1 hown
      go_wp2_with fail
      go_roundw
      case rel => exact ⟨k + 1, by omega, by go_num, HR1.out, HB1.out⟩
      case measure => simp [intOf]; omega
    · obtain rfl : k = G.length := by omega
      have hPl : (List.replicate G.length plusT).length = G.length := List.length_replicate
      have hGP : GRd wr (some ⟨g, 0, none⟩) (List.replicate G.length plusT) wr.heap.size := gs_rd hown (by rw [hPl, List.take_append_of_le_length (by rw [hPl]; exact Nat.le_refl _), List.take_of_length_le (by rw [hPl]; exact Nat.le_refl _)])
      have hPz : ∀ x ∈ List.replicate G.length plusT, x.size ≤ 9223372036854775807 := fun x hx => by rw [List.eq_of_mem_replicate hx]; decide
      have HTa := tokens_any s (some ⟨g, 0, none⟩) cap (List.replicate G.length plusT) wr (by rw [hPl]; omega) (by rw [hPl]; omega) hPz hzs hGP
      have hlen := toV_len2 s (List.replicate G.length plusT)
      rw [tv_tw, ← tsOf_len s (toV s (List.replicate G.length plusT)).1, hPl] at HTa
      have HSa : Hid (∀ so sc ap cp wk, G.length ≤ cp → GRd wk ap (List.replicate G.length plusT) wk.heap.size → TRd wk so (tsOf s (toV s (List.replicate G.length plusT)).1) wk.heap.size →
          Calls Try.prog 8 #[.slice so (tsOf s (toV s (List.replicate G.length plusT)).1).length sc, .int .i64 (toV s (List.replicate G.length plusT)).2.1, .int .i64 (toV s (List.replicate G.length plusT)).2.2, .string s, .slice ap G.length cp] wk fun e w' => e = .returned (.bool true) ∧ Below wk.heap.size wk w') := fun so sc ap cp wk hcp hgr hY => by
        have := usame_any so sc s ap cp (List.replicate G.length plusT) wk (by rw [hPl]; exact hcp) (by rw [hPl]; omega) hPz hzs hgr hY
        rw [hPl] at this
        exact this
      have HHT := hidK HTa
      clear HTa hGP hPz hlen hPl hown
      generalize tsOf s (toV s (List.replicate G.length plusT)).1 = Ya at *
      generalize (toV s (List.replicate G.length plusT)).2.1 = pa at *
      generalize (toV s (List.replicate G.length plusT)).2.2 = ea at *
      have hBs := hb.size
      obtain ⟨i0, hi, hz0, hz1, hz2⟩ := info_parts Try.infoSt
      go_wp2_with (first
        | (go_at_call 7; with_reducible refine HHT.out.mono ?_; rintro e w15 ⟨v15, rfl, o15, q15⟩; obtain ⟨sz, cz, rfl, _, t15⟩ := trd_own o15; have b15 := hb.trans (q15.mono hb.size))
        | fail)
      have HT15 := hidK t15
      clear o15 t15 HHT
      go_loopw [24, 25] (fun v i wx => ∃ k : Nat, k ≤ G.length ∧ i = .int .i64 k ∧ wx.ownsRow w15.heap.size 9 1 v k (gsv (List.replicate k plusT)) ∧ Below w15.heap.size w15 wx) (fun _ i _ => G.length - (intOf i).toNat)
      case atStart => exact ⟨0, Nat.zero_le _, rfl, World.ownsRow_nil _ _ _ _, Below.refl _ _⟩
      case round =>
        obtain ⟨k, hk, rfl, hown, hbx⟩ := hrel
        have hbxs := hbx.size
        by_cases hlt : k < G.length
        · have hltI : (k : Int) < (G.length : Int) := by omega
          have HT : Hid (gsv (List.replicate (k + 1) plusT) = gsv (List.replicate k plusT) ++ [.string ⟨#[43]⟩]) := by rw [Hid, List.replicate_succ', gsv_append]; rfl
          go_wp2_with (first
            | (at_builtin; refine wpList_append_own _ rfl _ _ 22 rfl w15.heap.size 9 i0 (.string ⟨#[]⟩) 1 16 Try.underlying22 hi hz0 hz1 hz2 rfl (by decide) _ _ _ rfl (hown.alloc _) ⟨_, 0, none⟩ 1 1 [.string ⟨#[43]⟩] rfl rfl (newsS _ _ _ rfl) (oneS _) (by unfold maxLen; omega) (by omega) (by simp; omega) ?_; intro v' w5 hown' hgrow hnil; clear hnil; have hb5 := lent_below hbx hown hgrow; rw [← HT.out] at hown'; clear hgrow)
            | fail)
          go_roundw
          case rel => exact ⟨k + 1, by omega, by go_num, hown', hb5⟩
          case measure => simp [intOf]; omega
        · obtain rfl : k = G.length := by omega
          have hrep : (List.replicate G.length plusT).length = G.length := List.length_replicate
          have hown2 : wr.ownsRow w15.heap.size 9 1 u24 (List.replicate G.length plusT).length (gsv (List.replicate G.length plusT)) := by rw [hrep]; exact hown
          obtain ⟨ap, cp, hvp, hcp, hgr⟩ := gs_form hown2
          rw [hrep] at hvp hcp
          subst hvp
          have hS := HSa.out sz cz ap cp wr hcp hgr ((HT15.out.below hbx).mono hbx.size)
          have bb := b15.trans (hbx.mono b15.size)
          clear hown hown2 hgr HSa hrep
          go_wp2_with (first
            | (go_at_call 8; with_reducible refine hS.mono ?_; rintro e w17 ⟨rfl, q17⟩)
            | fail)
          go_ret
          exact ⟨rfl, bb.trans (q17.mono bb.size)⟩
end Go.Proofs.Ytldeodnlppjbcaa
