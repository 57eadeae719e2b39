import Derived.Test.YtpndbbepfjocgaaVAl
namespace Go.Proofs.Ytpndbbepfjocgaa
open Go.RowKit
set_option maxRecDepth 100000

theorem alB_size {G : List ByteArray} {K : Nat} {T : ByteArray} (h : alB G K T = true) : T.size ≤ 524288 := by
  rcases Nat.lt_or_ge 524288 T.size with hz | hz
  · exfalso
    unfold alB at h
    rw [show cutV T G = ([], 524288, 15) by rw [cutV, if_pos hz]] at h
    simp at h
  · exact hz
set_option maxHeartbeats 4000000 in
theorem glue_mid (so : Option Addr) (sc : Nat) (Y : List Tt) (ao : Option Addr) (c : Nat) (G : List ByteArray) (w : World) (hm : mayB G = true) (hc : G.length ≤ c) (hg : ∀ x ∈ G, x.size ≤ 9223372036854775807) (hr : GRd w ao G w.heap.size)
    (hY : ∀ y ∈ Y, alB G y.1 y.2.2 = true) (hYl : Y.length ≤ 1048576) (_ : Y.length ≤ sc) (hT : TRd w so Y w.heap.size) :
    Calls Try.prog 7 #[.slice so Y.length sc, .slice ao G.length c] w fun e w' => e = .returned (glRes (gls 6 (Y.map ktO))) ∧ Below w.heap.size w w' := by
  have h64 : G.length ≤ 64 := by
    unfold mayB at hm
    simp only [Bool.and_eq_true, decide_eq_true_eq] at hm
    exact hm.1
  have hM := mayBe_any ao c G w hc (by omega) hg hr
  rw [hm] at hM
  have HA : Hid (∀ y ∈ Y, ∀ w1, Below w.heap.size w w1 → Calls Try.prog 16 #[.agg #[.int .u8 y.1, .int .i64 y.2.1, .string y.2.2], .slice ao G.length c] w1 fun e w' => e = .returned (.bool true) ∧ Below w1.heap.size w1 w') := fun y hy w1 h1 => by
    have := alone_all y.1 y.2.1 y.2.2 ao c G w1 (by have := alB_size (hY y hy); omega) hc h64 ((hr.below h1).mono h1.size)
    rw [hY y hy] at this
    exact this
  have HT : Hid (TRd w so Y w.heap.size) := hT
  have HY : Hid (∀ y ∈ Y, y.2.2.size ≤ 524288) := fun y hy => alB_size (hY y hy)
  clear hT hr hY hg
  go_enter Try.func7, Try.ntmps7
  go_wp2_with (first
    | (go_at_call 15; with_reducible refine hM.mono ?_; rintro e wq ⟨rfl, hq⟩; subst wq)
    | fail)
  clear hM
  go_loopw [16] (fun i wr => ∃ k : Nat, k ≤ Y.length ∧ i = .int .i64 k ∧ Below w.heap.size w wr) (fun i _ => Y.length - (intOf i).toNat)
  case atStart => exact ⟨0, Nat.zero_le _, rfl, Below.refl _ _⟩
  case round =>
    obtain ⟨k, hk, rfl, hb⟩ := hrel
    by_cases hlt : k < Y.length
    · have hltI : (k : Int) < (Y.length : Int) := by omega
      obtain ⟨b, off, e, hbl, hcl⟩ := HT.out (by omega)
      subst e
      obtain ⟨c0, c1, c2⟩ := hcl k Y[k] (List.getElem?_eq_getElem hlt)
      have hS := HA.out Y[k] (List.getElem_mem hlt)
      obtain ⟨⟨K, at_, T⟩, hy⟩ : ∃ y, Y[k] = y := ⟨_, rfl⟩
      rw [hy] at c0 c1 c2 hS
      simp only at c0 c1 c2 hS
      have c0' : wr.cell? ⟨b, off + k * 3, none⟩ = some (.int .u8 K) := (hb.cell (p := ⟨b, off + k * 3, none⟩) hbl).trans c0
      have c1' : wr.cell? ⟨b, off + k * 3 + 1, none⟩ = some (.int .i64 at_) := (hb.cell (p := ⟨b, off + k * 3 + 1, none⟩) hbl).trans c1
      have c2' : wr.cell? ⟨b, off + k * 3 + 2, none⟩ = some (.string T) := (hb.cell (p := ⟨b, off + k * 3 + 2, none⟩) hbl).trans c2
      have hb2 : Below w.heap.size w (wr.alloc (Obj.cells #[Value.int IntKind.u8 (K : Int), Value.int IntKind.i64 (at_ : Int), Value.string T] 40)) := hb.alloc hb.size _
      clear hcl c0 c1 c2 hy
      go_wp2_with (first
        | (go_at_call 16; with_reducible refine (hS _ hb2).mono ?_; rintro e wq ⟨rfl, hq⟩)
        | fail)
      go_roundw
      case rel => exact ⟨k + 1, by omega, by go_num, hb2.trans (hq.mono hb2.size)⟩
      case measure => simp [intOf]; omega
    · obtain rfl : k = Y.length := by omega
      obtain ⟨i0, hi, hz0, hz1, hz2⟩ := info_parts Try.info5
      go_wp2_with fail
      have hb0 := hb
      generalize wr = w0 at *
      go_loopw [8, 27] (fun v i wr => ∃ k : Nat, k ≤ Y.length ∧ i = .int .i64 k ∧ wr.ownsRow w.heap.size 5 1 v (Lk Y k).length (bv (Lk Y k)) ∧ (Lk Y k).length ≤ 524288 ∧ Below w.heap.size w wr) (fun _ i _ => Y.length - (intOf i).toNat)
      case atStart => exact ⟨0, Nat.zero_le _, rfl, World.ownsRow_nil _ _ _ _, by simp [Lk, gls], hb0⟩
      case round =>
        obtain ⟨k, hk2, rfl, hown, hLk, hb1⟩ := hrel
        have hB1 := hb1.size
        by_cases hlt : k < Y.length
        · have hltI : (k : Int) < (Y.length : Int) := by omega
          obtain ⟨b, off, e, hbl, hcl⟩ := HT.out (by omega)
          subst e
          obtain ⟨c0, c1, c2⟩ := hcl k Y[k] (List.getElem?_eq_getElem hlt)
          have hTz := HY.out Y[k] (List.getElem_mem hlt)
          obtain ⟨⟨K, at_, T⟩, hy⟩ : ∃ y, Y[k] = y := ⟨_, rfl⟩
          rw [hy] at c0 c1 c2 hTz
          simp only at c0 c1 c2 hTz
          have c0' : wr.cell? ⟨b, off + k * 3, none⟩ = some (.int .u8 K) := (hb1.cell (p := ⟨b, off + k * 3, none⟩) hbl).trans c0
          have c1' : wr.cell? ⟨b, off + k * 3 + 1, none⟩ = some (.int .i64 at_) := (hb1.cell (p := ⟨b, off + k * 3 + 1, none⟩) hbl).trans c1
          have c2' : wr.cell? ⟨b, off + k * 3 + 2, none⟩ = some (.string T) := (hb1.cell (p := ⟨b, off + k * 3 + 2, none⟩) hbl).trans c2
          clear c0 c1 c2
          by_cases hk0 : k = 0
          · have hP : pk Y k = 6 := by rw [hk0]; rfl
            have hk0I : ¬ (0 : Int) < (k : Int) := by omega
            clear hcl hk0
            have HL : Hid (Lk Y (k + 1) = Lk Y k ++ bz T) := by rw [Hid, Lk_succ Y k hlt, hy]; simp [ktO, sepOf, hP]
            have HLn : Hid ((Lk Y (k + 1)).length = (Lk Y k).length + T.size) := by rw [Hid, HL.out, List.length_append, bz_len]
            by_cases hbig : 524288 < (Lk Y k).length + T.size
            · have hbigI : (524288 : Int) < ((Lk Y k).length : Int) + (T.size : Int) := by omega
              have HBG : Hid (524288 < (gls 6 (Y.map ktO)).length) := by have h1 := Lk_le Y (k + 1); rw [HLn.out] at h1; exact Nat.lt_of_lt_of_le hbig h1
              go_wp2_with (first
                | (at_builtin; refine Lib.wpList_append_own_string _ rfl _ _ 35 9 rfl w.heap.size 5 i0 Try.underlying35 Try.underlying9 hi hz0 hz1 hz2 _ _ _ rfl (hown.alloc _) T rfl (by unfold maxLen; omega) (by omega) (by simp; omega) ?_; intro v' w6 hown' hgrow hnil; clear hnil; obtain ⟨ao2, cap2, rfl⟩ := bt_form hown')
                | fail)
              have R2 : Below w.heap.size w w6 := (hb1.alloc hB1 _).grown hgrow (by simp; omega) (fun j e => (hown.lt j e).1)
              refine bodyPost_ret (results_tmp2 rfl _ _ _) rfl ?_
              exact ⟨by rw [glRes_big HBG.out]; rfl, R2⟩
            · have hbigI : ¬ (524288 : Int) < ((Lk Y k).length : Int) + (T.size : Int) := by omega
              go_wp2_with (first
                | (at_builtin; refine Lib.wpList_append_own_string _ rfl _ _ 35 9 rfl w.heap.size 5 i0 Try.underlying35 Try.underlying9 hi hz0 hz1 hz2 _ _ _ rfl (hown.alloc _) T rfl (by unfold maxLen; omega) (by omega) (by simp; omega) ?_; intro v' w6 hown' hgrow hnil; clear hnil; obtain ⟨ao2, cap2, rfl⟩ := bt_form hown')
                | fail)
              have R2 : Below w.heap.size w w6 := (hb1.alloc hB1 _).grown hgrow (by simp; omega) (fun j e => (hown.lt j e).1)
              have R1 : w6.ownsRow w.heap.size 5 1 (.slice ao2 ((Lk Y k).length + T.size) cap2) (Lk Y (k + 1)).length (bv (Lk Y (k + 1))) := by rw [HL.out, bv_append, List.length_append, bz_len, ← strCells_bz]; exact hown'
              clear hown' hgrow
              go_roundw
              case rel => exact ⟨k + 1, by omega, by go_num, R1, by rw [HLn.out]; omega, R2⟩
              case measure => simp [intOf]; omega
          · obtain ⟨j, hj⟩ : ∃ j, k = j + 1 := ⟨k - 1, by omega⟩
            have hjl : j < Y.length := by omega
            have hP : pk Y k = Y[j].1 := by rw [show k = j + 1 from hj]; exact pk_succ Y j hjl
            have p0 := (hcl j Y[j] (List.getElem?_eq_getElem hjl)).1
            have p0' : wr.cell? ⟨b, off + j * 3, none⟩ = some (.int .u8 Y[j].1) := (hb1.cell (p := ⟨b, off + j * 3, none⟩) hbl).trans p0
            have p0a : ∀ o, (wr.alloc o).cell? ⟨b, off + j * 3, none⟩ = some (.int .u8 Y[j].1) := fun o => by rw [World.cell?_alloc_old _ _ _ (by show b ≠ wr.heap.size; omega)]; exact p0'
            have hjI : (k : Int) - 1 = (j : Int) := by omega
            have hjlI : (j : Int) < (Y.length : Int) := by omega
            have hk0I : (0 : Int) < (k : Int) := by omega
            clear hcl p0 hj p0'
            generalize Y[j].1 = P at *
            by_cases hK6 : K = 6
            · have hK6b : ((K : Int) != 6) = false := by simp; omega
              have hK6c : (K : Int) = 6 := by omega
              have HL : Hid (Lk Y (k + 1) = Lk Y k ++ bz T) := by rw [Hid, Lk_succ Y k hlt, hy]; simp [ktO, sepOf, hK6]
              have HLn : Hid ((Lk Y (k + 1)).length = (Lk Y k).length + T.size) := by rw [Hid, HL.out, List.length_append, bz_len]
              clear hK6c
              by_cases hbig : 524288 < (Lk Y k).length + T.size
              · have hbigI : (524288 : Int) < ((Lk Y k).length : Int) + (T.size : Int) := by omega
                have HBG : Hid (524288 < (gls 6 (Y.map ktO)).length) := by have h1 := Lk_le Y (k + 1); rw [HLn.out] at h1; exact Nat.lt_of_lt_of_le hbig h1
                go_wp2_with (first
                  | (at_builtin; refine Lib.wpList_append_own_string _ rfl _ _ 35 9 rfl w.heap.size 5 i0 Try.underlying35 Try.underlying9 hi hz0 hz1 hz2 _ _ _ rfl (hown.alloc _) T rfl (by unfold maxLen; omega) (by omega) (by simp; omega) ?_; intro v' w6 hown' hgrow hnil; clear hnil; obtain ⟨ao2, cap2, rfl⟩ := bt_form hown')
                  | fail)
                have R2 : Below w.heap.size w w6 := (hb1.alloc hB1 _).grown hgrow (by simp; omega) (fun j e => (hown.lt j e).1)
                refine bodyPost_ret (results_tmp2 rfl _ _ _) rfl ?_
                exact ⟨by rw [glRes_big HBG.out]; rfl, R2⟩
              · have hbigI : ¬ (524288 : Int) < ((Lk Y k).length : Int) + (T.size : Int) := by omega
                go_wp2_with (first
                  | (at_builtin; refine Lib.wpList_append_own_string _ rfl _ _ 35 9 rfl w.heap.size 5 i0 Try.underlying35 Try.underlying9 hi hz0 hz1 hz2 _ _ _ rfl (hown.alloc _) T rfl (by unfold maxLen; omega) (by omega) (by simp; omega) ?_; intro v' w6 hown' hgrow hnil; clear hnil; obtain ⟨ao2, cap2, rfl⟩ := bt_form hown')
                  | fail)
                have R2 : Below w.heap.size w w6 := (hb1.alloc hB1 _).grown hgrow (by simp; omega) (fun j e => (hown.lt j e).1)
                have R1 : w6.ownsRow w.heap.size 5 1 (.slice ao2 ((Lk Y k).length + T.size) cap2) (Lk Y (k + 1)).length (bv (Lk Y (k + 1))) := by rw [HL.out, bv_append, List.length_append, bz_len, ← strCells_bz]; exact hown'
                clear hown' hgrow
                go_roundw
                case rel => exact ⟨k + 1, by omega, by go_num, R1, by rw [HLn.out]; omega, R2⟩
                case measure => simp [intOf]; omega
            · have hK6b : ((K : Int) != 6) = true := by simp; omega
              by_cases hP6 : P = 6
              · have hP6b : ((P : Int) != 6) = false := by simp; omega
                have HL : Hid (Lk Y (k + 1) = Lk Y k ++ bz T) := by rw [Hid, Lk_succ Y k hlt, hy]; simp [ktO, sepOf, hP, hP6]
                have HLn : Hid ((Lk Y (k + 1)).length = (Lk Y k).length + T.size) := by rw [Hid, HL.out, List.length_append, bz_len]
                by_cases hbig : 524288 < (Lk Y k).length + T.size
                · have hbigI : (524288 : Int) < ((Lk Y k).length : Int) + (T.size : Int) := by omega
                  have HBG : Hid (524288 < (gls 6 (Y.map ktO)).length) := by have h1 := Lk_le Y (k + 1); rw [HLn.out] at h1; exact Nat.lt_of_lt_of_le hbig h1
                  go_wp2_with (first
                    | (at_builtin; refine Lib.wpList_append_own_string _ rfl _ _ 35 9 rfl w.heap.size 5 i0 Try.underlying35 Try.underlying9 hi hz0 hz1 hz2 _ _ _ rfl (hown.alloc _) T rfl (by unfold maxLen; omega) (by omega) (by simp; omega) ?_; intro v' w6 hown' hgrow hnil; clear hnil; obtain ⟨ao2, cap2, rfl⟩ := bt_form hown')
                    | fail)
                  have R2 : Below w.heap.size w w6 := (hb1.alloc hB1 _).grown hgrow (by simp; omega) (fun j e => (hown.lt j e).1)
                  refine bodyPost_ret (results_tmp2 rfl _ _ _) rfl ?_
                  exact ⟨by rw [glRes_big HBG.out]; rfl, R2⟩
                · have hbigI : ¬ (524288 : Int) < ((Lk Y k).length : Int) + (T.size : Int) := by omega
                  go_wp2_with (first
                    | (at_builtin; refine Lib.wpList_append_own_string _ rfl _ _ 35 9 rfl w.heap.size 5 i0 Try.underlying35 Try.underlying9 hi hz0 hz1 hz2 _ _ _ rfl (hown.alloc _) T rfl (by unfold maxLen; omega) (by omega) (by simp; omega) ?_; intro v' w6 hown' hgrow hnil; clear hnil; obtain ⟨ao2, cap2, rfl⟩ := bt_form hown')
                    | fail)
                  have R2 : Below w.heap.size w w6 := (hb1.alloc hB1 _).grown hgrow (by simp; omega) (fun j e => (hown.lt j e).1)
                  have R1 : w6.ownsRow w.heap.size 5 1 (.slice ao2 ((Lk Y k).length + T.size) cap2) (Lk Y (k + 1)).length (bv (Lk Y (k + 1))) := by rw [HL.out, bv_append, List.length_append, bz_len, ← strCells_bz]; exact hown'
                  clear hown' hgrow
                  go_roundw
                  case rel => exact ⟨k + 1, by omega, by go_num, R1, by rw [HLn.out]; omega, R2⟩
                  case measure => simp [intOf]; omega
              · have hP6b : ((P : Int) != 6) = true := by simp; omega
                have HL : Hid (Lk Y (k + 1) = Lk Y k ++ [32] ++ bz T) := by rw [Hid, Lk_succ Y k hlt, hy]; simp [ktO, sepOf, hP, hK6, hP6]
                have HLn : Hid ((Lk Y (k + 1)).length = (Lk Y k).length + 1 + T.size) := by rw [Hid, HL.out, List.length_append, List.length_append, bz_len]; rfl
                by_cases hbig : 524288 < (Lk Y k).length + 1 + T.size
                · have hbigI : (524288 : Int) < ((Lk Y k).length : Int) + 1 + (T.size : Int) := by omega
                  have HBG : Hid (524288 < (gls 6 (Y.map ktO)).length) := by have h1 := Lk_le Y (k + 1); rw [HLn.out] at h1; exact Nat.lt_of_lt_of_le hbig h1
                  go_wp2_with (first
                    | (at_builtin; refine Lib.wpList_append_own_string _ rfl _ _ 35 9 rfl w.heap.size 5 i0 Try.underlying35 Try.underlying9 hi hz0 hz1 hz2 _ _ _ rfl hown5 T rfl (by unfold maxLen; omega) (by omega) (by have := R5.size; omega) ?_; intro v' w6 hown' hgrow hnil; clear hnil; obtain ⟨ao2, cap2, rfl⟩ := bt_form hown')
                    | (at_builtin; refine wpList_append_own _ rfl _ _ 35 rfl w.heap.size 5 i0 (.int .u8 0) 1 1 Try.underlying35 hi hz0 hz1 hz2 rfl (by decide) _ _ _ rfl ((hown.alloc _).alloc _) ⟨_, 0, none⟩ 1 1 [.int .u8 32] rfl rfl (news1 _ _ _ (World.size_alloc _ _)) (one1 32) (by unfold maxLen; omega) (by omega) (gl_base hB1) ?_; intro v5 w5 hown5 hgrow5 hnil5; clear hnil5; have d2 := gl_cell (gl_kept hown hgrow5); have R5 := gl_below hb1 hown hgrow5)
                    | fail)
                  have R2 : Below w.heap.size w w6 := R5.grown hgrow R5.size (fun j e => (hown5.lt j e).1)
                  refine bodyPost_ret (results_tmp2 rfl _ _ _) rfl ?_
                  exact ⟨by rw [glRes_big HBG.out]; rfl, R2⟩
                · have hbigI : ¬ (524288 : Int) < ((Lk Y k).length : Int) + 1 + (T.size : Int) := by omega
                  go_wp2_with (first
                    | (at_builtin; refine Lib.wpList_append_own_string _ rfl _ _ 35 9 rfl w.heap.size 5 i0 Try.underlying35 Try.underlying9 hi hz0 hz1 hz2 _ _ _ rfl hown5 T rfl (by unfold maxLen; omega) (by omega) (by have := R5.size; omega) ?_; intro v' w6 hown' hgrow hnil; clear hnil; obtain ⟨ao2, cap2, rfl⟩ := bt_form hown')
                    | (at_builtin; refine wpList_append_own _ rfl _ _ 35 rfl w.heap.size 5 i0 (.int .u8 0) 1 1 Try.underlying35 hi hz0 hz1 hz2 rfl (by decide) _ _ _ rfl ((hown.alloc _).alloc _) ⟨_, 0, none⟩ 1 1 [.int .u8 32] rfl rfl (news1 _ _ _ (World.size_alloc _ _)) (one1 32) (by unfold maxLen; omega) (by omega) (gl_base hB1) ?_; intro v5 w5 hown5 hgrow5 hnil5; clear hnil5; have d2 := gl_cell (gl_kept hown hgrow5); have R5 := gl_below hb1 hown hgrow5)
                    | fail)
                  have R2 : Below w.heap.size w w6 := R5.grown hgrow R5.size (fun j e => (hown5.lt j e).1)
                  have R1 : w6.ownsRow w.heap.size 5 1 (.slice ao2 ((Lk Y k).length + 1 + T.size) cap2) (Lk Y (k + 1)).length (bv (Lk Y (k + 1))) := by rw [HL.out, bv_append, bv_append, List.length_append, List.length_append, bz_len, ← strCells_bz]; exact hown'
                  clear hown' hgrow
                  go_roundw
                  case rel => exact ⟨k + 1, by omega, by go_num, R1, by rw [HLn.out]; omega, R2⟩
                  case measure => simp [intOf]; omega
        · obtain rfl : k = Y.length := by omega
          have hcv := gl_conv hown
          have HL : Hid (Lk Y Y.length = gls 6 (Y.map ktO)) := Lk_all Y
          have HN : Hid (¬ 524288 < (gls 6 (Y.map ktO)).length) := by rw [Hid, ← HL.out]; omega
          clear hown
          go_wp2_with fail
          refine bodyPost_ret (results_tmp2 rfl _ _ _) rfl ?_
          exact ⟨by rw [glRes_ok HN.out, ← HL.out]; rfl, hb1⟩
/-- what Glue gives -/
def glV (Y : List Tt) (G : List ByteArray) : Value := if mayB G = true then (if Y.all (fun y => alB G y.1 y.2.2) = true then glRes (gls 6 (Y.map ktO)) else .tuple #[.string ⟨#[]⟩, .int .i64 17]) else .tuple #[.string ⟨#[]⟩, .int .i64 14]
theorem all_no {Y : List Tt} {G : List ByteArray} {k : Nat} (hk : k < Y.length) (h : alB G Y[k].1 Y[k].2.2 = false) : Y.all (fun y => alB G y.1 y.2.2) = false := by
  rw [List.all_eq_false]
  exact ⟨Y[k], List.getElem_mem hk, by rw [h]; simp⟩
theorem all_yes {Y : List Tt} {G : List ByteArray} (h : ∀ k (hk : k < Y.length), alB G Y[k].1 Y[k].2.2 = true) : Y.all (fun y => alB G y.1 y.2.2) = true := by
  rw [List.all_eq_true]
  intro y hy
  obtain ⟨k, hk, rfl⟩ := List.getElem_of_mem hy
  exact h k hk
set_option maxHeartbeats 4000000 in
theorem glue_all (so : Option Addr) (sc : Nat) (Y : List Tt) (ao : Option Addr) (c : Nat) (G : List ByteArray) (w : World) (hc : G.length ≤ c) (hl : G.length ≤ 9223372036854775807) (hg : ∀ x ∈ G, x.size ≤ 9223372036854775807) (hr : GRd w ao G w.heap.size)
    (hYz : ∀ y ∈ Y, y.2.2.size ≤ 9223372036854775807) (hYl : Y.length ≤ 1048576) (hYc : Y.length ≤ sc) (hT : TRd w so Y w.heap.size) :
    Calls Try.prog 7 #[.slice so Y.length sc, .slice ao G.length c] w fun e w' => e = .returned (glV Y G) ∧ Below w.heap.size w w' := by
  cases hm : mayB G with
  | false =>
    have hM := mayBe_any ao c G w hc hl hg hr
    rw [hm] at hM
    have e : glV Y G = .tuple #[.string ⟨#[]⟩, .int .i64 14] := by rw [glV, hm, if_neg (by simp)]
    rw [e]
    clear hr hg hT e hYz
    go_enter Try.func7, Try.ntmps7
    go_wp2_with (first
      | (go_at_call 15; with_reducible refine hM.mono ?_; rintro e wq ⟨rfl, hq⟩; subst wq)
      | fail)
    refine bodyPost_ret (results_tmp2 rfl _ _ _) rfl ?_
    exact ⟨rfl, Below.refl _ _⟩
  | true =>
    cases ha : Y.all (fun y => alB G y.1 y.2.2) with
    | true =>
      rw [show glV Y G = glRes (gls 6 (Y.map ktO)) by rw [glV, hm, if_pos rfl, ha, if_pos rfl]]
      exact glue_mid so sc Y ao c G w hm hc hg hr (fun y hy => by simpa using List.all_eq_true.1 ha y hy) hYl hYc hT
    | false =>
      have h64 : G.length ≤ 64 := by
        have := hm
        unfold mayB at this
        simp only [Bool.and_eq_true, decide_eq_true_eq] at this
        exact this.1
      have e : glV Y G = .tuple #[.string ⟨#[]⟩, .int .i64 17] := by rw [glV, hm, if_pos rfl, ha, if_neg (by simp)]
      rw [e]
      have hM := mayBe_any ao c G w hc hl hg hr
      rw [hm] at hM
      have HA : Hid (∀ y ∈ Y, ∀ w1, Below w.heap.size w w1 → Calls Try.prog 16 #[.agg #[.int .u8 y.1, .int .i64 y.2.1, .string y.2.2], .slice ao G.length c] w1 fun e w' => e = .returned (.bool (alB G y.1 y.2.2)) ∧ Below w1.heap.size w1 w') := fun y hy w1 h1 => alone_all y.1 y.2.1 y.2.2 ao c G w1 (hYz y hy) hc h64 ((hr.below h1).mono h1.size)
      have HT : Hid (TRd w so Y w.heap.size) := hT
      have HN : Hid (¬ ∀ k (hk : k < Y.length), alB G Y[k].1 Y[k].2.2 = true) := fun h => by rw [all_yes h] at ha; simp at ha
      clear hT hr hg e ha hYz
      go_enter Try.func7, Try.ntmps7
      go_wp2_with (first
        | (go_at_call 15; with_reducible refine hM.mono ?_; rintro e wq ⟨rfl, hq⟩; subst wq)
        | fail)
      clear hM
      go_loopw [16] (fun i wr => ∃ k : Nat, k ≤ Y.length ∧ i = .int .i64 k ∧ Below w.heap.size w wr ∧ Hid (∀ j (hj : j < Y.length), j < k → alB G Y[j].1 Y[j].2.2 = true)) (fun i _ => Y.length - (intOf i).toNat)
      case atStart => exact ⟨0, Nat.zero_le _, rfl, Below.refl _ _, fun j _ h => by omega⟩
      case round =>
        obtain ⟨k, hk, rfl, hb, HJ⟩ := hrel
        by_cases hlt : k < Y.length
        · have hltI : (k : Int) < (Y.length : Int) := by omega
          obtain ⟨b, off, e, hbl, hcl⟩ := HT.out (by omega)
          subst e
          obtain ⟨c0, c1, c2⟩ := hcl k Y[k] (List.getElem?_eq_getElem hlt)
          have hS := HA.out Y[k] (List.getElem_mem hlt)
          have HJ2 : Hid (alB G Y[k].1 Y[k].2.2 = true → ∀ j (hj : j < Y.length), j < k + 1 → alB G Y[j].1 Y[j].2.2 = true) := fun h j hj hjk => by
            by_cases hjj : j = k
            · subst hjj; exact h
            · exact HJ.out j hj (by omega)
          obtain ⟨⟨K, at_, T⟩, hy⟩ : ∃ y, Y[k] = y := ⟨_, rfl⟩
          rw [hy] at c0 c1 c2 hS HJ2
          simp only at c0 c1 c2 hS HJ2
          have c0' : wr.cell? ⟨b, off + k * 3, none⟩ = some (.int .u8 K) := (hb.cell (p := ⟨b, off + k * 3, none⟩) hbl).trans c0
          have c1' : wr.cell? ⟨b, off + k * 3 + 1, none⟩ = some (.int .i64 at_) := (hb.cell (p := ⟨b, off + k * 3 + 1, none⟩) hbl).trans c1
          have c2' : wr.cell? ⟨b, off + k * 3 + 2, none⟩ = some (.string T) := (hb.cell (p := ⟨b, off + k * 3 + 2, none⟩) hbl).trans c2
          have hb2 : Below w.heap.size w (wr.alloc (Obj.cells #[Value.int IntKind.u8 (K : Int), Value.int IntKind.i64 at_, Value.string T] 40)) := hb.alloc hb.size _
          clear hcl c0 c1 c2 hy HJ
          cases hal : alB G K T with
          | true =>
            have HJ3 := hidK (HJ2.out hal)
            rw [hal] at hS
            clear HJ2 hal
            go_wp2_with (first
              | (go_at_call 16; with_reducible refine (hS _ hb2).mono ?_; rintro e wq ⟨rfl, hq⟩)
              | fail)
            go_roundw
            case rel => exact ⟨k + 1, by omega, by go_num, hb2.trans (hq.mono hb2.size), HJ3⟩
            case measure => simp [intOf]; omega
          | false =>
            rw [hal] at hS
            clear HJ2 hal
            go_wp2_with (first
              | (go_at_call 16; with_reducible refine (hS _ hb2).mono ?_; rintro e wq ⟨rfl, hq⟩)
              | fail)
            refine bodyPost_ret (results_tmp2 rfl _ _ _) rfl ?_
            exact ⟨rfl, hb2.trans (hq.mono hb2.size)⟩
        · exact absurd (fun j hj => HJ.out j hj (by omega)) HN.out
end Go.Proofs.Ytpndbbepfjocgaa
