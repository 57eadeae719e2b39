import Derived.Test.YtpndbbepfjocgaaCVTx
import Derived.Test.YtpndbbepfjocgaaVRg
namespace Go.Proofs.Ytpndbbepfjocgaa
open Go.RowKit
set_option maxRecDepth 100000

theorem gs_cellsV {W : World} {B g n cap : Nat} {L : List ByteArray} (h : W.ownsRow B 9 1 (.slice (some ⟨g, 0, none⟩) n cap) n (gsv L)) : ∀ i, i < L.length → W.cell? ⟨g, i, none⟩ = some (.string (L.getD i ByteArray.empty)) := by
  intro i hi
  have hadd : (⟨g, 0, none⟩ : Addr).add i = ⟨g, i, none⟩ := by unfold Addr.add; split <;> simp_all
  have := h.cells (g := g) rfl i (.string (L.getD i ByteArray.empty)) (by simp [gsv, List.getD_eq_getElem?_getD, List.getElem?_eq_getElem hi])
  rwa [hadd] at this
theorem gs_rdV {W : World} {B g n cap : Nat} {L G : List ByteArray} (h : W.ownsRow B 9 1 (.slice (some ⟨g, 0, none⟩) n cap) n (gsv L)) (hG : G = L.take G.length) : GRd W (some ⟨g, 0, none⟩) G W.heap.size := by
  intro _
  refine ⟨g, 0, rfl, (h.lt g rfl).2, fun j hj => ?_⟩
  have hl : G.length ≤ L.length := by
    have := congrArg List.length hG
    simp at this
    omega
  rw [Nat.zero_add, gs_cellsV h j (by omega)]
  congr 2
  rw [hG, List.getD_eq_getElem?_getD, List.getD_eq_getElem?_getD, List.getElem?_take, if_pos hj]
theorem trd_row {W : World} {B g n cap : Nat} {Z Y : List Tt} (h : W.ownsRow B 40 3 (.slice (some ⟨g, 0, none⟩) n cap) n (tw Z)) (hY : Y = Z.take Y.length) : TRd W (some ⟨g, 0, none⟩) Y W.heap.size := by
  intro _
  refine ⟨g, 0, rfl, (h.lt g rfl).2, fun i y hy => ?_⟩
  have hi : i < Y.length := by
    rcases Nat.lt_or_ge i Y.length with h | h
    · exact h
    · rw [List.getElem?_eq_none h] at hy; cases hy
  have hz : Z[i]? = some y := by rw [hY, List.getElem?_take, if_pos hi] at hy; exact hy
  rw [Nat.zero_add]
  exact tok3_cells h i y hz
theorem glV_form (Y : List Tt) (G : List ByteArray) : ∃ (S : ByteArray) (E : Int), glV Y G = .tuple #[.string S, .int .i64 E] := by
  unfold glV glRes
  split
  · split
    · split <;> exact ⟨_, _, rfl⟩
    · exact ⟨_, _, rfl⟩
  · exact ⟨_, _, rfl⟩
theorem alB_mark (G : List ByteArray) : alB G 99 ⟨#[]⟩ = false := by
  have : cutV (⟨#[]⟩ : ByteArray) G = ([], 0, 0) := by
    unfold cutV
    rw [if_neg (by decide)]
    rfl
  unfold alB
  rw [this]
theorem glV_over {G : List ByteArray} {n : Nat} (hm : mayB G = true) (hn : 0 < n) : glV (mkOs n) G = .tuple #[.string ⟨#[]⟩, .int .i64 17] :=
  glV_bad hm (k := 0) (by rw [mkOs_len]; exact hn) (by
    have : (mkOs n)[0]'(by rw [mkOs_len]; exact hn) = mkO 0 := by simp [mkOs]
    rw [this]
    exact alB_mark G)
theorem glV_no {G : List ByteArray} (hm : mayB G = false) (Y : List Tt) : glV Y G = .tuple #[.string ⟨#[]⟩, .int .i64 14] := by rw [glV, if_neg (by rw [hm]; simp)]
theorem mkOs_sz (n : Nat) : ∀ y ∈ mkOs n, y.2.2.size ≤ 9223372036854775807 := by
  intro y hy
  unfold mkOs at hy
  rw [List.mem_map] at hy
  obtain ⟨i, _, rfl⟩ := hy
  show (⟨#[]⟩ : ByteArray).size ≤ _
  decide
set_option maxHeartbeats 8000000 in
theorem tglue_any (so : Option Addr) (sc : Nat) (Y : List Tt) (ao : Option Addr) (c : Nat) (G : List ByteArray) (w : World) (hc : G.length ≤ c) (hl : G.length ≤ 1048576) (hg : ∀ x ∈ G, x.size ≤ 9223372036854775807) (hr : GRd w ao G w.heap.size)
    (hYz : ∀ y ∈ Y, y.2.2.size ≤ 9223372036854775807) (hYl : Y.length ≤ 1048576) (hLs : ∀ k, (Lk Y k).length ≤ 4194304) (hT : TRd w so Y w.heap.size) :
    Calls Try.prog 3 #[.slice so Y.length sc, .slice ao G.length c] w fun e w' => e = .returned (.bool true) ∧ Below w.heap.size w w' := by
  have hRG := rglue_all so sc Y ao c G w hc (by omega) hg hr hYz hYl hLs hT
  have HYz := hidK hYz
  have HG := hidK hg
  have HR := hidK hr
  have HT := hidK hT
  obtain ⟨S, E, hV⟩ := glV_form Y G
  rw [hV] at hRG
  have HV := hidK hV
  clear hV hLs hYz hg hr hT
  go_enter Try.func3, Try.ntmps3
  go_wp2_with fail
  with_reducible refine hRG.mono ?_
  rintro e w1 ⟨rfl, b1⟩
  have hLe := lentK_any so sc Y w1 hYl ((HT.out.below b1).mono b1.size)
  go_wp2_with fail
  with_reducible refine hLe.mono ?_
  rintro e w2 ⟨v2, rfl, ol2, q2⟩
  obtain ⟨g1, cap1, rfl, hcap1⟩ := own_form ol2 (by omega)
  have b2 := b1.trans (q2.mono b1.size)
  have hLx := lentT_any ao c G w2 (by omega) ((HR.out.below b2).mono b2.size)
  go_wp2_with fail
  with_reducible refine hLx.mono ?_
  rintro e w3 ⟨v3, rfl, om3, q3⟩
  obtain ⟨g2, cap2, rfl, hcap2⟩ := own_form om3 (by omega)
  have b3 := b2.trans (q3.mono b2.size)
  have ol3 := own_below ol2 q3
  have hg1 : g1 < w2.heap.size := (ol2.lt g1 rfl).2
  have hg1b : w1.heap.size ≤ g1 := (ol2.lt g1 rfl).1
  have hg2 : w2.heap.size ≤ g2 := (om3.lt g2 rfl).1
  have hGl : ∀ wk, Below w3.heap.size w3 wk → Calls Try.prog 7 #[.slice (some ⟨g1, 0, none⟩) Y.length cap1, .slice (some ⟨g2, 0, none⟩) G.length cap2] wk fun e w' => e = .returned (.tuple #[.string S, .int .i64 E]) ∧ Below wk.heap.size wk w' := fun wk hk => by
    have := glue_all (some ⟨g1, 0, none⟩) cap1 Y (some ⟨g2, 0, none⟩) cap2 G wk (by omega) (by omega) HG.out (gs_rdV (own_below om3 hk) (by simp)) HYz.out hYl (by omega) (trd_row (own_below ol3 hk) (by simp))
    rw [HV.out] at this
    exact this
  have HGl := hidK hGl
  have HB3 : Below w3.heap.size w3 w3 := Below.refl _ _
  have i1 : (Y.length : Int) ≤ (cap1 : Int) := by omega
  have i2 : (Y.length : Int) ≤ (Y.length : Int) + 64 := by omega
  have i3 : (G.length : Int) ≤ (cap2 : Int) := by omega
  have i4 : (G.length : Int) ≤ (G.length : Int) + 64 := by omega
  clear hGl
  go_wp2_with fail
  go_region_held3 (fun _ => True) (trivial) (first
    | (go_at_call 7; with_reducible refine (HGl.out _ (by (repeat (first | exact HB3 | with_reducible refine Below.drew ?_)))).mono ?_; rintro e w4 ⟨rfl, hq4⟩))
  have q4 : Below w3.heap.size w3 w4 := HB3.drew.trans hq4
  have b4 := b3.trans (q4.mono b3.size)
  have ol4 := own_below ol3 q4
  have om4 := own_below om3 q4
  have hKk := keptK_any so sc Y g1 cap1 w4 hYl ((HT.out.below b4).mono b4.size) (by have := q3.size; have := q4.size; omega) (fun i y hy => tok3_cells ol4 i y hy)
  go_wp2_with fail
  with_reducible refine hKk.mono ?_
  rintro e w5 ⟨rfl, q5⟩
  have b5 := b4.trans (q5.mono b4.size)
  have ol5 := own_below ol4 q5
  have om5 := own_below om4 q5
  have hKt := keptT_any ao c G g2 cap2 w5 (by omega) ((HR.out.below b5).mono b5.size) ((om5.lt g2 rfl).2) (fun i hi => gs_cellsV om5 i (by simp [mtxs_len]; omega))
  go_wp2_with fail
  with_reducible refine hKt.mono ?_
  rintro e w6 ⟨rfl, q6⟩
  have b6 := b5.trans (q6.mono b5.size)
  have ol6 := own_below ol5 q6
  have om6 := own_below om5 q6
  have hzl : (Y ++ mkKs 64).length = Y.length + 64 := by rw [List.length_append, mkKs_len]
  rw [← hzl] at ol6
  have hOv := overK_any g1 cap1 w1.heap.size (Y ++ mkKs 64) w6 (by omega) ol6
  rw [hzl] at hOv
  go_wp2_with fail
  with_reducible refine hOv.mono ?_
  rintro e w7 ⟨rfl, ol7, G7⟩
  have om7 := om6.kept G7 (.inr (by simp [Value.ownBlock]; omega))
  have b7 : Below w.heap.size w w7 := b6.grown G7 b6.size (fun j e => by
    have : g1 = j := by simpa using e
    have := b1.size
    omega)
  have hmo : (mkOs Y.length).length = Y.length := mkOs_len _
  have hGl2 : ∀ wk, Below w7.heap.size w7 wk → Calls Try.prog 7 #[.slice (some ⟨g1, 0, none⟩) Y.length cap1, .slice (some ⟨g2, 0, none⟩) G.length cap2] wk fun e w' => e = .returned (glV (mkOs Y.length) G) ∧ Below wk.heap.size wk w' := fun wk hk => by
    have := glue_all (some ⟨g1, 0, none⟩) cap1 (mkOs Y.length) (some ⟨g2, 0, none⟩) cap2 G wk (by omega) (by omega) HG.out (gs_rdV (own_below om7 hk) (by simp)) (mkOs_sz _) (by omega) (by omega) (trd_row (own_below ol7 hk) (by rw [hmo]; unfold mkOs; rw [← List.map_take, List.take_range, Nat.min_eq_left (by omega)]))
    rw [hmo] at this
    exact this
  have HB7 : Below w7.heap.size w7 w7 := Below.refl _ _
  have hSm := fun w1 h => usigns_any ao c G w1 hc (by omega) HG.out h
  have HGr : Hid (∀ wk, Below w.heap.size w wk → GRd wk ao G wk.heap.size) := fun wk hk => (HR.out.below hk).mono hk.size
  clear hKk hKt hOv HGl HB3 hq4 hLx hLe hRG ol2 ol3 ol4 ol5 ol6 ol7 om3 om4 om5 om6 om7 G7 hzl hmo q2 q3 q4 q5 q6
  cases hm : mayB G with
  | false =>
    rw [glV_no hm] at hGl2
    have hVV := HV.out
    rw [glV_no hm] at hVV
    simp only [Value.tuple.injEq] at hVV
    have e1 : S = ⟨#[]⟩ := by have := congrArg (fun (a : Array Value) => a[0]?) hVV; simpa using this.symm
    have e2 : E = 14 := by have := congrArg (fun (a : Array Value) => a[1]?) hVV; simpa using this.symm
    subst e1 e2
    rw [hm] at hSm
    clear hVV
    by_cases h0 : 0 < Y.length
    · have h0I : (0 : Int) < (Y.length : Int) := by omega
      have HG2 := hidK hGl2
      clear hGl2
      go_wp2_with fail
      go_region_held3 (fun _ => True) (trivial) (first
        | (go_at_call 7; with_reducible refine (HG2.out _ (by (repeat (first | exact HB7 | with_reducible refine Below.drew ?_)))).mono ?_; rintro e w8 ⟨rfl, hq8⟩))
      have q8 : Below w7.heap.size w7 w8 := HB7.drew.trans hq8
      have b8 := b7.trans (q8.mono b7.size)
      have hS8 := hSm w8 (HGr.out w8 b8)
      clear hSm
      go_wp2_with (first
        | (go_at_call 11; with_reducible refine hS8.mono ?_; rintro e wq ⟨rfl, m, hq⟩; subst wq)
        | fail)
      go_ret
      exact ⟨rfl, below_drewN b8 m⟩
    · have h0I : ¬ (0 : Int) < (Y.length : Int) := by omega
      have HG2 := hidK hGl2
      clear hGl2
      go_wp2_with fail
      go_region_held3 (fun _ => True) (trivial) (first
        | (go_at_call 7; with_reducible refine (HG2.out _ (by (repeat (first | exact HB7 | with_reducible refine Below.drew ?_)))).mono ?_; rintro e w8 ⟨rfl, hq8⟩))
      have q8 : Below w7.heap.size w7 w8 := HB7.drew.trans hq8
      have b8 := b7.trans (q8.mono b7.size)
      have hS8 := hSm w8 (HGr.out w8 b8)
      clear hSm
      go_wp2_with (first
        | fail)
      go_ret
      exact ⟨rfl, b8⟩
  | true =>
    rw [hm] at hSm
    by_cases h0 : 0 < Y.length
    · have h0I : (0 : Int) < (Y.length : Int) := by omega
      rw [glV_over hm h0] at hGl2
      have HG2 := hidK hGl2
      clear hGl2
      go_wp2_with fail
      go_region_held3 (fun _ => True) (trivial) (first
        | (go_at_call 7; with_reducible refine (HG2.out _ (by (repeat (first | exact HB7 | with_reducible refine Below.drew ?_)))).mono ?_; rintro e w8 ⟨rfl, hq8⟩))
      have q8 : Below w7.heap.size w7 w8 := HB7.drew.trans hq8
      have b8 := b7.trans (q8.mono b7.size)
      have hS8 := hSm w8 (HGr.out w8 b8)
      clear hSm
      go_wp2_with (first
        | (go_at_call 11; with_reducible refine hS8.mono ?_; rintro e wq ⟨rfl, m, hq⟩; subst wq)
        | fail)
      go_ret
      exact ⟨rfl, below_drewN b8 m⟩
    · have h0I : ¬ (0 : Int) < (Y.length : Int) := by omega
      have hYe : Y = [] := List.eq_nil_of_length_eq_zero (by omega)
      have hmk : mkOs Y.length = Y := by rw [hYe]; rfl
      rw [hmk, HV.out] at hGl2
      clear hmk hYe
      have HG2 := hidK hGl2
      clear hGl2
      go_wp2_with fail
      go_region_held3 (fun _ => True) (trivial) (first
        | (go_at_call 7; with_reducible refine (HG2.out _ (by (repeat (first | exact HB7 | with_reducible refine Below.drew ?_)))).mono ?_; rintro e w8 ⟨rfl, hq8⟩))
      have q8 : Below w7.heap.size w7 w8 := HB7.drew.trans hq8
      have b8 := b7.trans (q8.mono b7.size)
      have hS8 := hSm w8 (HGr.out w8 b8)
      clear hSm
      go_wp2_with (first
        | fail)
      go_ret
      exact ⟨rfl, b8⟩
end Go.Proofs.Ytpndbbepfjocgaa
