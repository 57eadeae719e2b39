import Derived.Test.YtecbdjhhdhpmhaaBackMath
namespace Go.Proofs.Ytecbdjhhdhpmhaa
open Go.RowKit

theorem own_keep {W W' : World} {B e size n : Nat} {v : Value} {xs : List Value} (h : W.ownsRow B e size v n xs) (hb : Below W.heap.size W W') : W'.ownsRow B e size v n xs :=
  h.kept (row := none) ⟨hb.os, hb.tape, hb.output, hb.size, fun k hk _ => hb.block k hk⟩ (Classical.em _)
theorem own_ne {w : World} {B e k n : Nat} {v : Value} {xs : List Value} (h : w.ownsRow B e k v n xs) : some w.heap.size ≠ v.ownBlock := fun c => by
  have := (h.lt _ c.symm).2
  omega
theorem pre34 (zs : List Int) : Lib.hasPrefix (strOfNums (lit zs)).data.toList [34] = true := by
  rw [strOfNums_data]
  simp [lit, sh, Lib.hasPrefix, List.isPrefixOf]

set_option maxRecDepth 100000 in
set_option maxHeartbeats 2000000 in
theorem apprune_any (c : Int) (h0 : 0 ≤ c) (h1 : c ≤ 126) (v : Value) (L : List Int) (B : Nat) (w : World) (hB : B ≤ w.heap.size) (hlen : L.length ≤ 1048576) (hown : w.ownsRow B 5 1 v L.length (bv L)) :
    Calls Try.prog 24 #[v, .int .i32 c] w fun e w' => ∃ v', e = .returned v' ∧ w'.ownsRow B 5 1 v' (L ++ [c]).length (bv (L ++ [c])) ∧ Below B w w' ∧ ∀ b j x, w.cell? ⟨b, j, none⟩ = some x → some b ≠ v.ownBlock → w'.cell? ⟨b, j, none⟩ = some x := by
  obtain ⟨i0, hi, hz0, hz1, hz2⟩ := info_parts Try.info5
  go_enter Try.func24, Try.ntmps24
  go_wp2_with (at_builtin; refine wpList_append_own _ rfl _ _ 22 rfl B 5 i0 (.int .u8 0) 1 1 Try.underlying22 hi hz0 hz1 hz2 rfl (by decide) _ _ _ rfl (hown.alloc _) ⟨_, 0, none⟩ 1 1 [.int .u8 (c)] rfl rfl ?p1 ?p2 ?p3 ?p4 ?p5 ?_)
  case p1 =>
    intro j u hj
    match j, hj with
    | 0, hj => simp at hj; subst hj; first | (simp [Addr.add]; done) | (simp [Addr.add]; rfl)
    | (j + 1), hj => simp at hj
  case p2 => intro u hu; simp at hu; subst hu; rfl
  case p3 => unfold maxLen; omega
  case p4 => omega
  case p5 => simp; omega
  intro v' w1 hown' hgrow _
  have R1 := own_app (news := [c]) rfl rfl rfl hown'
  have R2 := grown_below (Below.refl B w) hB hown hgrow
  have R3 : ∀ b j x, w.cell? ⟨b, j, none⟩ = some x → some b ≠ v.ownBlock → w1.cell? ⟨b, j, none⟩ = some x := fun b j x hc hne => hgrow.cell (a := ⟨b, j, none⟩) ((World.grownBy_alloc w _ none).cell (a := ⟨b, j, none⟩) hc (by simp)) hne
  have R3H : Hid (∀ b j x, w.cell? ⟨b, j, none⟩ = some x → some b ≠ v.ownBlock → w1.cell? ⟨b, j, none⟩ = some x) := R3
  clear hown' hgrow hown R3
  go_wp2
  go_ret
  exact ⟨v', rfl, R1, R2, R3H.out⟩

set_option maxRecDepth 100000 in
set_option maxHeartbeats 2000000 in
theorem bytes_lit (zs : List Int) (w : World) (hn : zs.length ≤ 1048576) (hwf : ∀ z ∈ zs, 0 ≤ z ∧ z ≤ 255) :
    Calls Try.prog 13 #[.string (strOfNums (lit zs))] w fun e w' => ∃ v, e = .returned (.tuple #[v, .int .i64 0, .int .i64 0]) ∧ w'.ownsRow w.heap.size 5 1 v zs.length (bv zs) ∧ Below w.heap.size w w' := by
  obtain ⟨i0, hi, hz0, hz1, hz2⟩ := info_parts Try.info5
  have HP : Hid (Lib.hasPrefix (strOfNums (lit zs)).data.toList [34] = true) := pre34 zs
  have hll := (lit_end zs).1
  have hsl := sh_len zs zs.length
  have hS : (strOfNums (lit zs)).size = (sh zs zs.length).length + 1 := by rw [strOfNums_size, hll]
  have HL : Hid ((strOfNums (lit zs)).size = (lit zs).length) := strOfNums_size _
  have HE : Hid ((bt (strOfNums (lit zs)) (sh zs zs.length).length : Int) = 34) := (lit_end zs).2
  have HA : Hid (∀ k c, zs.take (k + 1) = zs.take k ++ [c] → ∀ j, j < (esc c).length → (sh zs k).length + j < (lit zs).length ∧ (bt (strOfNums (lit zs)) ((sh zs k).length + j) : Int) = (esc c).getD j 0) := fun k c h j hj => lit_at zs hwf k c h j hj
  obtain ⟨N, hN⟩ : ∃ N, (sh zs zs.length).length = N := ⟨_, rfl⟩
  have HN : Hid ((sh zs zs.length).length = N) := hN
  have HLL : Hid ((lit zs).length = N + 1) := by rw [Hid, hll, hN]
  rw [hN] at hS hsl
  clear hll hN
  obtain ⟨S, hSe⟩ : ∃ S, strOfNums (lit zs) = S := ⟨_, rfl⟩
  rw [hSe] at HP hS HL HE HA ⊢
  clear hSe
  go_enter Try.func13, Try.ntmps13
  go_wp2_with (go_at_call 22; refine (Try.strings_HasPrefix _ _ _).mono ?_; rintro e wz ⟨rfl, hw'⟩; have hp := HP.out; rw [hp]; subst hw')
  go_loopw [5, 6] (fun v a wr => ∃ k : Nat, k ≤ zs.length ∧ a = .int .i64 ((sh zs k).length : Int) ∧ wr.ownsRow wz.heap.size 5 1 v (zs.take k).length (bv (zs.take k)) ∧ Below wz.heap.size wz wr)
    (fun _ a _ => N + 1 - (intOf a).toNat)
  case atStart => exact ⟨0, Nat.zero_le _, rfl, World.ownsRow_nil _ _ _ _, Below.refl _ _⟩
  case round =>
    obtain ⟨k, hk, rfl, hown, hb⟩ := hrel
    have hB := hb.size
    by_cases hlt : k < zs.length
    · have hts := take_snoc zs k hlt
      have hcw : 0 ≤ zs.getD k 0 ∧ zs.getD k 0 ≤ 255 := hwf _ (by simp [List.getD, List.getElem?_eq_getElem hlt])
      generalize zs.getD k 0 = c at hts hcw
      obtain ⟨hc0, hc1⟩ := hcw
      have hA := HA.out k c hts
      have hep := esc_pos c
      have hel := esc_len c
      have hlast := (hA ((esc c).length - 1) (by omega)).1
      have hss : (sh zs (k + 1)).length = (sh zs k).length + (esc c).length := by rw [sh_succ zs k c hts]; simp
      have HS : Hid (zs.take (k + 1) = zs.take k ++ [c]) := hts
      rw [HLL.out] at hlast
      obtain ⟨i, hi'⟩ : ∃ i, (sh zs k).length = i := ⟨_, rfl⟩
      rw [hi'] at hA hlast hss ⊢
      have hrd := read_at S i c hc0 hc1 (by omega) (fun j hj => (hA j hj).2)
      obtain ⟨m, hm⟩ : ∃ m, (esc c).length = m := ⟨_, rfl⟩
      rw [hm] at hrd hlast hss hep hel
      obtain ⟨hne, one, hrv, hone⟩ := hrd
      have HSS : Hid ((sh zs (k + 1)).length = i + m) := hss
      clear hA hts hi' hm hss
      have hiS : i < S.size := by omega
      have hiI : (i : Int) < (S.size : Int) := by omega
      obtain ⟨y, hy⟩ : ∃ y, y = bt S i := ⟨_, rfl⟩
      have hyl := bt_lt S i
      rw [← hy] at hne hyl
      rw [bt_eq S i hiS] at hy
      have hsy : (S[i]'hiS).toNat = y := hy.symm
      clear hy
      have hyb : ((y : Int) == 34) = false := by simp; omega
      obtain ⟨u, hu⟩ : ∃ u, S.extract i (N + 1) = u := ⟨_, rfl⟩
      have HU : Hid (sub S i = u) := by rw [Hid, sub, hS, hu]
      have hiN : i < N + 1 := by omega
      have hiNI : (i : Int) < (N : Int) + 1 := by omega
      have husz : u.size ≤ 140737488355328 := by rw [← HU.out, sub_size]; omega
      rw [HU.out] at hrv
      have HX : Hid (readV u = (c, one, (m : Int), 0)) := hrv
      have hkl : (zs.take k).length ≤ 1048576 := by simp; omega
      clear hrv
      cases one
      · have hc2 := hone rfl
        have HV : Hid (readR (c, false, (m : Int), 0) = .returned (.tuple #[.agg #[.int .i32 c, .bool false, .int .i64 m], .int .i64 0])) := rfl
        go_wp2_with (first | (go_at_call 23; refine (read_any u _ husz).mono ?_; rintro e w1 ⟨rfl, hb1⟩; rw [HX.out, HV.out]; have hownW := (own_keep hown hb1).alloc (.cells #[.int .i32 c, .bool false, .int .i64 m] 44); have hbW := (hb.trans (hb1.mono hB)).alloc (by have := hb1.size; omega) (.cells #[.int .i32 c, .bool false, .int .i64 m] 44); have hBW := hbW.size; have hneb := own_ne (own_keep hown hb1)) | (go_at_call 24; refine (apprune_any c hc0 hc2 _ _ _ _ hBW hkl hownW).mono ?_; rintro e w2 ⟨v', rfl, R1, R2, R3⟩; have hpc : w2.cell? ⟨w1.heap.size, 2, none⟩ = some (.int .i64 m) := R3 _ _ _ (by simp) hneb; clear R3))
        go_roundw
        case rel => exact ⟨k + 1, by omega, by rw [HSS.out]; go_num, by rw [HS.out]; exact R1, hbW.trans (R2.mono (Nat.le_refl _))⟩
        case measure => simp [intOf]; omega
      · have HV : Hid (readR (c, true, (m : Int), 0) = .returned (.tuple #[.agg #[.int .i32 c, .bool true, .int .i64 m], .int .i64 0])) := rfl
        go_wp2_with (first | (go_at_call 23; refine (read_any u _ husz).mono ?_; rintro e w1 ⟨rfl, hb1⟩; rw [HX.out, HV.out]; have hownW := (own_keep hown hb1).alloc (.cells #[.int .i32 c, .bool true, .int .i64 m] 44); have hbW := (hb.trans (hb1.mono hB)).alloc (by have := hb1.size; omega) (.cells #[.int .i32 c, .bool true, .int .i64 m] 44); have hBW := hbW.size; have hneb := own_ne (own_keep hown hb1)) | (at_builtin; refine wpList_append_own _ rfl _ _ 22 rfl wz.heap.size 5 i0 (.int .u8 0) 1 1 Try.underlying22 hi hz0 hz1 hz2 rfl (by decide) _ _ _ rfl (hownW.alloc _) ⟨_, 0, none⟩ 1 1 [.int .u8 (c)] rfl rfl ?p1 ?p2 ?p3 ?p4 ?p5 ?_))
        case p1 =>
          intro j u hj
          match j, hj with
          | 0, hj => simp at hj; subst hj; first | (simp [Addr.add]; done) | (simp [Addr.add]; rfl)
          | (j + 1), hj => simp at hj
        case p2 => intro u hu; simp at hu; subst hu; rfl
        case p3 => unfold maxLen; omega
        case p4 => omega
        case p5 => have := hBW; simp at this ⊢; omega
        intro v' w2 hown' hgrow _
        have hlk : (zs.take k).length = k := by simp; omega
        have hown2 : w2.ownsRow wz.heap.size 5 1 v' ((zs.take k).length + 1) (bv (zs.take k) ++ [.int .u8 c]) := by rw [hlk]; exact hown'
        have R1 := own_app (news := [c]) HS.out rfl rfl hown2
        have R2 := grown_below hbW hBW hownW hgrow
        have hpc : w2.cell? ⟨w1.heap.size, 2, none⟩ = some (.int .i64 m) := hgrow.cell (a := ⟨w1.heap.size, 2, none⟩) (by simp) hneb
        clear hown' hgrow hown2 hlk
        go_wp2
        go_roundw
        case rel => exact ⟨k + 1, by omega, by rw [HSS.out]; go_num, R1, R2⟩
        case measure => simp [intOf]; omega
    · obtain rfl : k = zs.length := by omega
      rw [HN.out]
      have h34 := HE.out
      rw [HN.out] at h34
      have hNS : N < S.size := by omega
      have hy34 : bt S N = 34 := by omega
      rw [bt_eq S N hNS] at hy34
      rw [List.take_length] at hown
      clear h34
      go_wp2
      go_ret3
      exact ⟨_, rfl, hown, hb⟩
end Go.Proofs.Ytecbdjhhdhpmhaa
