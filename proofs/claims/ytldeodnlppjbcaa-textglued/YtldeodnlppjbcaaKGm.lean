import Derived.Test.YtldeodnlppjbcaaKGl
namespace Go.Proofs.Ytldeodnlppjbcaa
open Go.RowKit
set_option maxRecDepth 100000

theorem toV_may {s : ByteArray} {G : List ByteArray} (he : (toV s G).2.2 = 0) : mayB G = true ∧ s.size ≤ 524288 ∧ toV s G = cutF s G s.size 0 [] := by
  unfold toV at he ⊢
  split at he
  · rename_i hm
    rw [if_pos hm]
    unfold cutV at he ⊢
    split at he
    · exact absurd he (by decide)
    · rename_i hz
      rw [if_neg hz]
      exact ⟨hm, by omega, rfl⟩
  · exact absurd he (by decide)
theorem cutF_len (s : ByteArray) (G : List ByteArray) : ∀ f a L, (cutF s G f a L).1.length ≤ L.length + f
  | 0, a, L => by simp [cutF]
  | f + 1, a, L => by
    simp only [cutF]
    split
    · split
      · have := cutF_len s G f (stp s G a).go L; omega
      · split
        · have := cutF_len s G f (stp s G a).go (L ++ [((stp s G a).kind, a, (stp s G a).go)]); simp at this; omega
        · simp
    · simp only; omega
theorem toV_gd {s : ByteArray} {G : List ByteArray} (he : (toV s G).2.2 = 0) : ∀ y ∈ tsOf s (toV s G).1, Gd G (ktO y) ∧ y.2.2.size ≤ 524288 := by
  obtain ⟨hm, hz, e⟩ := toV_may he
  intro y hy
  unfold tsOf at hy
  rw [List.mem_map] at hy
  obtain ⟨x, hx, rfl⟩ := hy
  rw [e] at hx
  refine ⟨cutF_gd s G hm s.size 0 [] (Nat.zero_le _) (by simp) x hx, ?_⟩
  simp only [ByteArray.size_extract]
  omega
theorem toV_len {s : ByteArray} {G : List ByteArray} (he : (toV s G).2.2 = 0) : (toV s G).1.length ≤ 524288 := by
  obtain ⟨hm, hz, e⟩ := toV_may he
  rw [e]
  have := cutF_len s G s.size 0 []
  simp at this
  omega
theorem strNums_size (Z : List Int) : (strOfNums Z).size = Z.length := by simp [strOfNums, ByteArray.size]
theorem bz_nums {Z : List Int} (hZ : ∀ z ∈ Z, 0 ≤ z ∧ z < 256) : AtZ (strOfNums Z) 0 Z := by
  refine ⟨by rw [strNums_size]; omega, fun j hj => ?_⟩
  obtain ⟨b, e, c⟩ := bt_list (strOfNums Z) j (by rw [strNums_size]; exact hj)
  rw [Nat.zero_add, ← c, List.getD_eq_getElem?_getD, List.getElem?_eq_getElem hj, Option.getD_some]
  have hb := hZ Z[j] (List.getElem_mem hj)
  have : b = UInt8.ofNat (Z[j]).toNat := by
    simp [strOfNums, List.getElem?_map, List.getElem?_eq_getElem hj] at e
    exact e.symm
  rw [this, UInt8.toNat_ofNat']
  omega
theorem bz_rng (T : ByteArray) : ∀ z ∈ bz T, 0 ≤ z ∧ z < 256 := by
  intro z hz
  unfold bz at hz
  rw [List.mem_map] at hz
  obtain ⟨b, _, rfl⟩ := hz
  have := b.toNat_lt
  omega
theorem gls_rng : ∀ (X : List Kt) (p : Nat), ∀ z ∈ gls p X, 0 ≤ z ∧ z < 256
  | [], p, z, hz => by simp [gls] at hz
  | x :: X, p, z, hz => by
    rw [gls, List.mem_append, List.mem_append] at hz
    rcases hz with hz | hz | hz
    · unfold sepOf at hz
      split at hz
      · simp at hz; omega
      · simp at hz
    · exact bz_rng x.2 z hz
    · exact gls_rng X x.1 z hz
/-- what is glued is cut into the same -/
theorem glued_cut {G : List ByteArray} {X : List Kt} (hm : mayB G = true) (hX : ∀ x ∈ X, Gd G x) (hz : ¬ 524288 < (gls 6 X).length) :
    ∃ M : List Tk, toV (strOfNums (gls 6 X)) G = (M, 0, 0) ∧ (tsOf (strOfNums (gls 6 X)) M).map ktO = X := by
  have hs := strNums_size (gls 6 X)
  obtain ⟨M, h1, h2⟩ := glue_cut (G := G) (u := strOfNums (gls 6 X)) X 6 0 (strOfNums (gls 6 X)).size [] hX (bz_nums (gls_rng X 6)) (by rw [hs, Nat.zero_add]) (by omega)
  refine ⟨M, ?_, ?_⟩
  · rw [toV, if_pos hm, cutV, if_neg (by rw [hs]; exact hz), h1, List.nil_append]
  · refine Eq.trans ?_ h2
    unfold tsOf
    rw [List.map_map]
    rfl
theorem gm_snoc {w5 : World} {B : Nat} {v' : Value} {Y : List Tt} {k : Nat} {K a : Nat} {T : ByteArray} (h : k < Y.length) (hy : Y[k] = (K, a, T)) (ho : w5.ownsRow B 36 3 v' (k + 1) (tw (Y.take k) ++ [.int .u8 (K : Int), .int .i64 (a : Int), .string T])) :
    w5.ownsRow B 36 3 v' (k + 1) (tw (Y.take (k + 1))) := by
  rw [List.take_succ_eq_append_getElem h, tw_append, hy]
  exact ho
theorem gm_below {w wr w5 : World} {o : Obj} {v : Value} {n : Nat} {xs : List Value} (hb : Below w.heap.size w wr) (hown : wr.ownsRow w.heap.size 36 3 v n xs) (hg : (wr.alloc o).grownBy w5 v.ownBlock) : Below w.heap.size w w5 :=
  (hb.alloc hb.size _).grown hg (by have := hb.size; simp; omega) (fun j e => (hown.lt j e).1)
theorem tk_form2 {W : World} {B : Nat} {v : Value} {n : Nat} {xs : List Value} (h : W.ownsRow B 36 3 v n xs) : ∃ ao cap, v = .slice ao n cap := by
  rcases h.2 with ⟨rfl, rfl⟩ | ⟨g, cap, cur, rfl, _⟩
  · exact ⟨_, _, rfl⟩
  · exact ⟨_, _, rfl⟩
set_option maxHeartbeats 8000000 in
theorem glued_any (s t : ByteArray) (ao : Option Addr) (c : Nat) (G : List ByteArray) (w : World) (hc : G.length ≤ c) (hl : G.length ≤ 9223372036854775807) (hg : ∀ x ∈ G, x.size ≤ 9223372036854775807) (hzs : s.size ≤ 9223372036854775807) (hzt : t.size ≤ 9223372036854775807) (hr : GRd w ao G w.heap.size) :
    Calls Try.prog 5 #[.string s, .string t, .slice ao G.length c] w fun e w' => e = .returned (.bool true) ∧ Below w.heap.size w w' := by
  have hA := awake_any w
  have HTu : Hid (∀ (u : ByteArray), u.size ≤ 9223372036854775807 → ∀ w1, Below w.heap.size w w1 → Calls Try.prog 7 #[.string u, .slice ao G.length c] w1 fun e w' => ∃ v, e = .returned (.tuple #[v, .int .i64 (toV u G).2.1, .int .i64 (toV u G).2.2]) ∧ w'.ownsRow w1.heap.size 36 3 v (toV u G).1.length (tv u (toV u G).1) ∧ Below w1.heap.size w1 w') := fun u hu w1 h1 => tokens_any u ao c G w1 hc hl hg hu ((hr.below h1).mono h1.size)
  have HTs := hidK (HTu.out s hzs)
  have HTt := hidK (HTu.out t hzt)
  have HGl : Hid (mayB G = true → ∀ (so : Option Addr) (sc : Nat) (Y : List Tt) (w1 : World), Below w.heap.size w w1 → (∀ y ∈ Y, Gd G (ktO y) ∧ y.2.2.size ≤ 524288) → Y.length ≤ 1048576 → Y.length ≤ sc → TRd w1 so Y w1.heap.size →
    Calls Try.prog 13 #[.slice so Y.length sc, .slice ao G.length c] w1 fun e w' => e = .returned (glRes (gls 6 (Y.map ktO))) ∧ Below w1.heap.size w1 w') := fun hm so sc Y w1 h1 hY hYl hYc hT => glue_any so sc Y ao c G w1 hm hc hg ((hr.below h1).mono h1.size) hY hYl hYc hT
  have hMs := @toV_may s G
  have hDs := @toV_gd s G
  have hLs := @toV_len s G
  have hDt := @toV_gd t G
  have hLt := @toV_len t G
  generalize toV s G = R at *
  generalize toV t G = R2 at *
  obtain ⟨LA, pa, ea⟩ := R
  obtain ⟨LB, pb, eb⟩ := R2
  simp only at hMs hDs hLs hDt hLt HTs HTt
  clear hr hg
  by_cases her : ea = 0
  · by_cases her2 : eb = 0
    · subst her her2
      obtain ⟨hm, _, _⟩ := hMs rfl
      replace hDs := hDs rfl
      replace hLs := hLs rfl
      replace hDt := hDt rfl
      replace hLt := hLt rfl
      rw [tv_tw] at HTs HTt
      have HGl2 := hidK (HGl.out hm)
      clear hMs HGl
      have nA := tsOf_len s LA
      have nB := tsOf_len t LB
      rw [← nA] at HTs hLs
      rw [← nB] at HTt hLt
      clear nA nB
      generalize tsOf s LA = YA at *
      generalize tsOf t LB = YB at *
      have HX : Hid (∀ y ∈ YA ++ YB, Gd G (ktO y) ∧ y.2.2.size ≤ 524288) := fun y hy => (List.mem_append.1 hy).elim (hDs y) (hDt y)
      clear hDs hDt
      obtain ⟨i0, hi, hz0, hz1, hz2⟩ := info_parts Try.infoTk
      go_enter Try.func5, Try.ntmps5
      go_wp2_with (first
        | (go_at_call 11; with_reducible refine hA.mono ?_; rintro e w1 ⟨rfl, h1⟩)
        | (go_at_call 7; with_reducible refine (HTs.out _ h1).mono ?_; rintro e w2 ⟨v, rfl, hown, h2⟩; obtain ⟨soA, scA, rfl, hcA, hTA⟩ := trd_own hown; have h12 := h1.trans (h2.mono h1.size))
        | (go_at_call 7; with_reducible refine (HTt.out _ h12).mono ?_; rintro e w3 ⟨v2, rfl, hown2, h3⟩; obtain ⟨soB, scB, rfl, hcB, hTB⟩ := trd_own hown2; have h13 := h12.trans (h3.mono h12.size))
        | fail)
      have HTA : Hid (TRd w3 soA YA w3.heap.size) := (hTA.below h3).mono h3.size
      have HTB : Hid (TRd w3 soB YB w3.heap.size) := hTB
      have HS : Hid (∀ k, k ≤ (YA ++ YB).length → smz (YA ++ YB) k ≤ k * 524289) := smz_le _ (fun y hy => (HX.out y hy).2)
      have hYl : (YA ++ YB).length = YA.length + YB.length := List.length_append
      have HYl := hidK hYl
      obtain ⟨Y, hY⟩ : ∃ Y, YA ++ YB = Y := ⟨_, rfl⟩
      have HYA : Hid (∀ k (h : k < YA.length), ∃ h' : k < Y.length, Y[k] = YA[k]) := fun k h => ⟨by rw [← hY, hYl]; omega, by subst hY; rw [List.getElem_append_left h]⟩
      have HYB : Hid (∀ k (h : k < YB.length), ∃ h' : YA.length + k < Y.length, Y[YA.length + k] = YB[k]) := fun k h => ⟨by rw [← hY, hYl]; omega, by subst hY; rw [List.getElem_append_right (by omega)]; simp⟩
      rw [hY] at HX HS HYl
      clear hY hYl hTA hTB hown hown2 HTs HTt hA
      go_loopw [13, 14, 15] (fun v n i wr => ∃ k : Nat, k ≤ YA.length ∧ i = .int .i64 k ∧ n = .int .i64 (smz Y (k)) ∧ wr.ownsRow w3.heap.size 36 3 v (k) (tw (Y.take (k))) ∧ Below w3.heap.size w3 wr) (fun _ _ i _ => YA.length - (intOf i).toNat)
      case atStart => exact ⟨0, Nat.zero_le _, rfl, rfl, World.ownsRow_nil _ _ _ _, Below.refl _ _⟩
      case round =>
        obtain ⟨k, hk, rfl, rfl, hown, hb⟩ := hrel
        have hbs := hb.size
        by_cases hlt : k < YA.length
        · have hltI : (k : Int) < (YA.length : Int) := by omega
          obtain ⟨hkY, hyk⟩ := HYA.out k hlt
          obtain ⟨b, e, hbl, hcl⟩ := HTA.out (by omega)
          subst e
          obtain ⟨c0, c1, c2⟩ := hcl k YA[k] (List.getElem?_eq_getElem hlt)
          rw [← hyk] at c0 c1 c2
          have hT := (HX.out Y[k] (List.getElem_mem hkY)).2
          have hsm := smz_succ Y (k) hkY
          have hsl := HS.out (k) (by omega)
          obtain ⟨⟨K, at_, T⟩, hy⟩ : ∃ y, Y[k] = y := ⟨_, rfl⟩
          rw [hy] at c0 c1 c2 hT hsm
          simp only at c0 c1 c2 hT hsm
          have c0' : wr.cell? ⟨b, k * 3, none⟩ = some (.int .u8 K) := (hb.cell (p := ⟨b, k * 3, none⟩) hbl).trans c0
          have c1' : wr.cell? ⟨b, k * 3 + 1, none⟩ = some (.int .i64 at_) := (hb.cell (p := ⟨b, k * 3 + 1, none⟩) hbl).trans c1
          have c2' : wr.cell? ⟨b, k * 3 + 2, none⟩ = some (.string T) := (hb.cell (p := ⟨b, k * 3 + 2, none⟩) hbl).trans c2
          obtain ⟨N, hN⟩ : ∃ N, smz Y (k) = N := ⟨_, rfl⟩
          rw [hN] at hsm hsl
          rw [hN]
          have HSm := hidK hsm
          have HYk := hidK hy
          have HC2 := hidK c2
          clear hcl c0 c1 c2 hy hyk hN hsm HTA HYA
          go_wp2_with (first
            | (at_builtin; refine wpList_append_own _ rfl _ _ 24 rfl w3.heap.size 36 i0 (.agg #[.int .u8 0, .int .i64 0, .string ⟨#[]⟩]) 3 32 Try.underlying24 hi hz0 hz1 hz2 rfl (by decide) _ _ _ rfl (hown.alloc _) ⟨_, 0, none⟩ 1 1 [.int .u8 (K : Int), .int .i64 (at_ : Int), .string T] rfl rfl (app3 _ _ _ _ _) (one3 _ _ _) (by unfold maxLen; omega) (by omega) (by simp; omega) ?_; intro v' w5 hown' hgrow hnil; clear hnil; have hb5 := gm_below hb hown hgrow; have c5 : w5.cell? ⟨b, k * 3 + 2, none⟩ = some (.string T) := (hb5.cell (p := ⟨b, k * 3 + 2, none⟩) hbl).trans HC2.out)
            | fail)
          go_roundw
          case rel => exact ⟨k + 1, by omega, by go_num, by rw [HSm.out]; go_num, gm_snoc hkY HYk.out hown', hb5⟩
          case measure => simp [intOf]; omega
        · obtain rfl : k = YA.length := by omega
          go_wp2_with fail
          go_loopw [13, 14, 16] (fun v n i wr => ∃ k : Nat, k ≤ YB.length ∧ i = .int .i64 k ∧ n = .int .i64 (smz Y (YA.length + k)) ∧ wr.ownsRow w3.heap.size 36 3 v (YA.length + k) (tw (Y.take (YA.length + k))) ∧ Below w3.heap.size w3 wr) (fun _ _ i _ => YB.length - (intOf i).toNat)
          case atStart => exact ⟨0, Nat.zero_le _, rfl, rfl, hown, hb⟩
          case round =>
            obtain ⟨k, hk, rfl, rfl, hown, hb⟩ := hrel
            have hbs := hb.size
            by_cases hlt : k < YB.length
            · have hltI : (k : Int) < (YB.length : Int) := by omega
              obtain ⟨hkY, hyk⟩ := HYB.out k hlt
              obtain ⟨b, e, hbl, hcl⟩ := HTB.out (by omega)
              subst e
              obtain ⟨c0, c1, c2⟩ := hcl k YB[k] (List.getElem?_eq_getElem hlt)
              rw [← hyk] at c0 c1 c2
              have hT := (HX.out Y[YA.length + k] (List.getElem_mem hkY)).2
              have hsm := smz_succ Y (YA.length + k) hkY
              have hsl := HS.out (YA.length + k) (by omega)
              obtain ⟨⟨K, at_, T⟩, hy⟩ : ∃ y, Y[YA.length + k] = y := ⟨_, rfl⟩
              rw [hy] at c0 c1 c2 hT hsm
              simp only at c0 c1 c2 hT hsm
              have c0' : wr.cell? ⟨b, k * 3, none⟩ = some (.int .u8 K) := (hb.cell (p := ⟨b, k * 3, none⟩) hbl).trans c0
              have c1' : wr.cell? ⟨b, k * 3 + 1, none⟩ = some (.int .i64 at_) := (hb.cell (p := ⟨b, k * 3 + 1, none⟩) hbl).trans c1
              have c2' : wr.cell? ⟨b, k * 3 + 2, none⟩ = some (.string T) := (hb.cell (p := ⟨b, k * 3 + 2, none⟩) hbl).trans c2
              obtain ⟨N, hN⟩ : ∃ N, smz Y (YA.length + k) = N := ⟨_, rfl⟩
              rw [hN] at hsm hsl
              rw [hN]
              have HSm := hidK hsm
              have HYk := hidK hy
              have HC2 := hidK c2
              clear hcl c0 c1 c2 hy hyk hN hsm HTB HYB
              go_wp2_with (first
                | (at_builtin; refine wpList_append_own _ rfl _ _ 24 rfl w3.heap.size 36 i0 (.agg #[.int .u8 0, .int .i64 0, .string ⟨#[]⟩]) 3 32 Try.underlying24 hi hz0 hz1 hz2 rfl (by decide) _ _ _ rfl (hown.alloc _) ⟨_, 0, none⟩ 1 1 [.int .u8 (K : Int), .int .i64 (at_ : Int), .string T] rfl rfl (app3 _ _ _ _ _) (one3 _ _ _) (by unfold maxLen; omega) (by omega) (by simp; omega) ?_; intro v' w5 hown' hgrow hnil; clear hnil; have hb5 := gm_below hb hown hgrow; have c5 : w5.cell? ⟨b, k * 3 + 2, none⟩ = some (.string T) := (hb5.cell (p := ⟨b, k * 3 + 2, none⟩) hbl).trans HC2.out)
                | fail)
              go_roundw
              case rel => exact ⟨k + 1, by omega, by go_num, by rw [← Nat.add_assoc, HSm.out]; go_num, gm_snoc hkY HYk.out hown', hb5⟩
              case measure => simp [intOf]; omega
            · obtain rfl : k = YB.length := by omega
              have hYl := HYl.out
              rw [← hYl] at hown ⊢
              rw [List.take_length] at hown
              obtain ⟨so, sc, rfl, hcs, hTs⟩ := trd_own hown
              have hbw := h13.trans (hb.mono h13.size)
              have hG := HGl2.out so sc Y wr hbw HX.out (by omega) hcs hTs
              have hsl := HS.out Y.length (Nat.le_refl _)
              have HGS := hidK (gls_smz Y 6)
              obtain ⟨N, hN⟩ : ∃ N, smz Y Y.length = N := ⟨_, rfl⟩
              rw [hN] at hsl HGS ⊢
              have hYb : Y.length ≤ 1048576 := by omega
              have HX1 : Hid (∀ x ∈ Y.map ktO, Gd G x) := fun x hx => by
                rw [List.mem_map] at hx
                obtain ⟨y, hy, rfl⟩ := hx
                exact (HX.out y hy).1
              have HO := hidK hown
              have HTs := hidK hTs
              clear HTB HYB hN HS hown hTs HYl hYl HYA HX HTA
              by_cases hbig : 524288 < (gls 6 (Y.map ktO)).length
              · rw [glRes_big hbig] at hG
                have hNI : (524288 : Int) < (N : Int) := by have := HGS.out; omega
                clear hbig HGS
                go_wp2_with (first
                  | (go_at_call 13; with_reducible refine hG.mono ?_; rintro e w6 ⟨rfl, h6⟩)
                  | fail)
                go_ret
                exact ⟨rfl, hbw.trans (h6.mono hbw.size)⟩
              · rw [glRes_ok hbig] at hG
                obtain ⟨M, hM1, hM2⟩ := glued_cut hm HX1.out hbig
                have hus := strNums_size (gls 6 (Y.map ktO))
                have HU := hidK (HTu.out (strOfNums (gls 6 (Y.map ktO))) (by omega))
                rw [hM1, tv_tw] at HU
                simp only at HU
                rw [← tsOf_len (strOfNums (gls 6 (Y.map ktO))) M] at HU
                generalize tsOf (strOfNums (gls 6 (Y.map ktO))) M = Z at *
                generalize strOfNums (gls 6 (Y.map ktO)) = u at *
                have hZl : Z.length ≤ 1048576 := by have := congrArg List.length hM2; simp at this; omega
                have HZ := hidK hM2
                clear hM1 hM2 hus hbig HGS HTu
                go_wp2_with (first
                  | (go_at_call 13; with_reducible refine hG.mono ?_; rintro e w6 ⟨rfl, h6⟩; have hb6 := hbw.trans (h6.mono hbw.size))
                  | (go_at_call 7; with_reducible refine (HU.out _ hb6).mono ?_; rintro e w7 ⟨v7, rfl, hown7, h7⟩; obtain ⟨so7, sc7, rfl, hc7, hT7⟩ := trd_own hown7; have hb7 := hb6.trans (h7.mono hb6.size); have hA7 := alike_any so7 sc7 Z so sc Y w7 hT7 (((HTs.out.below h6).mono h6.size).below h7 |>.mono h7.size) HZ.out hc7 hcs hZl)
                  | (go_at_call 14; with_reducible refine hA7.mono ?_; rintro e w8 ⟨rfl, h8⟩)
                  | fail)
                go_ret
                exact ⟨rfl, hb7.trans (h8.mono hb7.size)⟩
    · replace her2 : ¬ eb = 0 := her2
      have her2b : (eb != 0) = true := by simp; exact her2
      go_enter Try.func5, Try.ntmps5
      go_wp2_with (first
        | (go_at_call 11; with_reducible refine hA.mono ?_; rintro e w1 ⟨rfl, h1⟩)
        | (go_at_call 7; with_reducible refine (HTs.out _ h1).mono ?_; rintro e w2 ⟨v, rfl, hown, h2⟩; have h12 := h1.trans (h2.mono h1.size))
        | (go_at_call 7; with_reducible refine (HTt.out _ h12).mono ?_; rintro e w3 ⟨v2, rfl, hown2, h3⟩; have h13 := h12.trans (h3.mono h12.size))
        | fail)
      go_ret
      exact ⟨rfl, h13⟩
  · have herb : (ea != 0) = true := by simp; exact her
    go_enter Try.func5, Try.ntmps5
    go_wp2_with (first
      | (go_at_call 11; with_reducible refine hA.mono ?_; rintro e w1 ⟨rfl, h1⟩)
      | (go_at_call 7; with_reducible refine (HTs.out _ h1).mono ?_; rintro e w2 ⟨v, rfl, hown, h2⟩; have h12 := h1.trans (h2.mono h1.size))
      | (go_at_call 7; with_reducible refine (HTt.out _ h12).mono ?_; rintro e w3 ⟨v2, rfl, hown2, h3⟩; have h13 := h12.trans (h3.mono h12.size))
      | fail)
    go_ret
    exact ⟨rfl, h13⟩
end Go.Proofs.Ytldeodnlppjbcaa
