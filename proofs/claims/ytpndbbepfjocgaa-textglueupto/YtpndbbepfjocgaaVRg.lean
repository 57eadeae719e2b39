import Derived.Test.YtpndbbepfjocgaaVGl
import Derived.Test.YtpndbbepfjocgaaVTs
namespace Go.Proofs.Ytpndbbepfjocgaa
open Go.RowKit
set_option maxRecDepth 100000

theorem alloc_base {w W : World} {o : Obj} (h : w.heap.size ≤ W.heap.size) : w.heap.size ≤ (W.alloc o).heap.size := by rw [World.size_alloc]; omega
theorem one_below {w wr w5 : World} {o : Obj} {n : Nat} {v : Value} {xs : List Value} (hb : Below w.heap.size w wr) (hown : wr.ownsRow w.heap.size 5 1 v n xs) (hg : (wr.alloc o).grownBy w5 v.ownBlock) : Below w.heap.size w w5 :=
  (hb.alloc hb.size _).grown hg (by have := hb.size; simp; omega) (fun j e => (hown.lt j e).1)
theorem glV_bad {Y : List Tt} {G : List ByteArray} {k : Nat} (hm : mayB G = true) (hk : k < Y.length) (h : alB G Y[k].1 Y[k].2.2 = false) : glV Y G = .tuple #[.string ⟨#[]⟩, .int .i64 17] := by
  rw [glV, if_pos hm, if_neg (by rw [all_no hk h]; simp)]
set_option maxHeartbeats 16000000 in
theorem rglue_all (so : Option Addr) (sc : Nat) (Y : List Tt) (ao : Option Addr) (c : Nat) (G : List ByteArray) (w : World) (hc : G.length ≤ c) (hl : G.length ≤ 9223372036854775807) (hg : ∀ x ∈ G, x.size ≤ 9223372036854775807) (hr : GRd w ao G w.heap.size)
    (hYz : ∀ y ∈ Y, y.2.2.size ≤ 9223372036854775807) (hYl : Y.length ≤ 1048576) (hLs : ∀ k, (Lk Y k).length ≤ 4194304) (hT : TRd w so Y w.heap.size) :
    Calls Try.prog 4 #[.slice so Y.length sc, .slice ao G.length c] w fun e w' => e = .returned (glV Y G) ∧ Below w.heap.size w w' := by
  cases hm : mayB G with
  | false =>
    have hM := usigns_any ao c G w hc hl hg hr
    rw [hm] at hM
    have e : glV Y G = .tuple #[.string ⟨#[]⟩, .int .i64 14] := by rw [glV, hm, if_neg (by simp)]
    rw [e]
    clear hr hg hT e hYz hLs
    go_enter Try.func4, Try.ntmps4
    go_wp2_with (first
      | (go_at_call 11; with_reducible refine hM.mono ?_; rintro e wq ⟨rfl, m, hq⟩; subst wq)
      | fail)
    refine bodyPost_ret (results_tmp2 rfl _ _ _) rfl ?_
    exact ⟨rfl, below_drewN (Below.refl _ _) m⟩
  | true =>
    have hM := usigns_any ao c G w hc hl hg hr
    rw [hm] at hM
    obtain ⟨i0, hi, hz0, hz1, hz2⟩ := info_parts Try.info5
    have HT : Hid (TRd w so Y w.heap.size) := hT
    have HLs : Hid (∀ k, (Lk Y k).length ≤ 4194304) := hLs
    have HCy : Hid (∀ T : ByteArray, T.size ≤ 9223372036854775807 → ∀ w1, Below w.heap.size w w1 → Calls Try.prog 12 #[.string T, .slice ao G.length c] w1 fun e w' => ∃ v, e = .returned (.tuple #[v, .int .i64 (cutV T G).2.1, .int .i64 (cutV T G).2.2]) ∧ w'.ownsRow w1.heap.size 40 3 v (cutV T G).1.length (tv T (cutV T G).1) ∧ Below w1.heap.size w1 w') := fun T hz w1 h1 => by
      have := rtokens_any T ao c G w1 hc hl hg hz ((hr.below h1).mono h1.size)
      rw [show toV T G = cutV T G by rw [toV, hm, if_pos rfl]] at this
      exact this
    have HYz : Hid (∀ y ∈ Y, y.2.2.size ≤ 9223372036854775807) := hYz
    have HBad : Hid (∀ k (hk : k < Y.length), alB G Y[k].1 Y[k].2.2 = false → glV Y G = .tuple #[.string ⟨#[]⟩, .int .i64 17]) := fun k hk h => glV_bad hm hk h
    have HGood : Hid ((∀ k (hk : k < Y.length), alB G Y[k].1 Y[k].2.2 = true) → glV Y G = glRes (Lk Y Y.length)) := fun h => by rw [glV, if_pos hm, if_pos (all_yes h), Lk_all]
    obtain ⟨V, hV⟩ : ∃ V, glV Y G = V := ⟨_, rfl⟩
    rw [hV] at HBad HGood ⊢
    clear hT hr hg hYz hLs hV
    go_enter Try.func4, Try.ntmps4
    go_wp2_with (first
      | (go_at_call 11; with_reducible refine hM.mono ?_; rintro e wq ⟨rfl, m, hq⟩; subst wq)
      | fail)
    clear hM
    go_loopw [6, 7] (fun v i wr => ∃ k : Nat, k ≤ Y.length ∧ i = .int .i64 k ∧ wr.ownsRow w.heap.size 5 1 v (Lk Y k).length (bv (Lk Y k)) ∧ Below w.heap.size w wr ∧ Hid (∀ j (hj : j < Y.length), j < k → alB G Y[j].1 Y[j].2.2 = true)) (fun _ i _ => Y.length - (intOf i).toNat)
    case atStart => exact ⟨0, Nat.zero_le _, rfl, World.ownsRow_nil _ _ _ _, below_drewN (Below.refl _ _) m, fun j _ h => by omega⟩
    case round =>
      obtain ⟨k, hk, rfl, hown, hb, HJ⟩ := hrel
      have hbs := hb.size
      have hLk := HLs.out k
      by_cases hlt : k < Y.length
      · have hltI : (k : Int) < (Y.length : Int) := by omega
        obtain ⟨b, off, e, hbl, hclT⟩ := HT.out (by omega)
        subst e
        obtain ⟨c0, c1, c2⟩ := hclT k Y[k] (List.getElem?_eq_getElem hlt)
        have HC := hidK (HCy.out Y[k].2.2 (HYz.out Y[k] (List.getElem_mem hlt)))
        have hE := @cutV_err Y[k].2.2 G
        have hLn := cutV_len Y[k].2.2 G
        have HAl : Hid (alB G Y[k].1 Y[k].2.2 = (match cutV Y[k].2.2 G with | ([(k0, a, e)], _, er) => decide (er = 0) && decide (k0 = Y[k].1) && decide (Y[k].2.2.extract a e = Y[k].2.2) | _ => false)) := rfl
        have HBk := hidK (HBad.out k hlt)
        have HJ2 : Hid (alB G Y[k].1 Y[k].2.2 = true → ∀ j (hj : j < Y.length), j < k + 1 → alB G Y[j].1 Y[j].2.2 = true) := fun h j hj hjk => by
          by_cases hjj : j = k
          · subst hjj; exact h
          · exact HJ.out j hj (by omega)
        have hTz := @alB_size G Y[k].1 Y[k].2.2
        obtain ⟨⟨K, at_, T⟩, hy⟩ : ∃ y, Y[k] = y := ⟨_, rfl⟩
        have HY := hidK hy
        rw [hy] at c0 c1 c2 HC hE hLn HAl HBk HJ2 hTz
        simp only at c0 c1 c2 HC hE hLn HAl HBk HJ2 hTz
        have HC0 := hidK c0
        have HC2 := hidK c2
        have c2' : wr.cell? ⟨b, off + k * 3 + 2, none⟩ = some (.string T) := (hb.cell (p := ⟨b, off + k * 3 + 2, none⟩) hbl).trans c2
        obtain ⟨A, hA⟩ : ∃ A, alB G K T = A := ⟨_, rfl⟩
        rw [hA] at HAl HBk HJ2 hTz
        clear hA hy c0 c1 c2
        generalize cutV T G = R at *
        obtain ⟨L, p, er⟩ := R
        simp only at hE hLn HC HAl
        by_cases her : er = 0
        · subst her
          rcases L with _ | ⟨⟨k0, a, e0⟩, _ | ⟨x2, L2⟩⟩
          · have HF : Hid (V = .tuple #[.string ⟨#[]⟩, .int .i64 17]) := HBk.out HAl.out
            clear HAl hclT
            simp only [List.length_nil] at HC
            clear HJ HLs
            go_wp2_with (first
              | (go_at_call 12; with_reducible refine (HC.out _ hb).mono ?_; rintro e wq ⟨v, rfl, hown2, hq⟩; obtain ⟨ao2, cap2, rfl⟩ := tkv_form hown2; clear hown2; have b2 := hb.trans (hq.mono hb.size); have c0q : wq.cell? ⟨b, off + k * 3, none⟩ = some (.int .u8 K) := (b2.cell (p := ⟨b, off + k * 3, none⟩) hbl).trans HC0.out; have c2q : wq.cell? ⟨b, off + k * 3 + 2, none⟩ = some (.string T) := (b2.cell (p := ⟨b, off + k * 3 + 2, none⟩) hbl).trans HC2.out)
              | fail)
            go_quiet (fail)
            go_wp2_with fail
            refine bodyPost_ret (results_tmp2 rfl _ _ _) rfl ?_
            exact ⟨by rw [HF.out]; rfl, below_drewN b2 nq⟩
          · obtain ⟨X, hX⟩ : ∃ X, T.extract a e0 = X := ⟨_, rfl⟩
            have HX := hidK hX
            simp only [hX] at HAl
            simp only [List.length_cons, List.length_nil] at HC
            clear hX
            by_cases hkk : k0 = K
            · subst hkk
              by_cases hx : X = T
              · have hA : A = true := by rw [HAl.out]; simp [hx]
                subst hx
                have HJ3 := hidK (HJ2.out hA)
                replace hTz := hTz hA
                have hLk1 := HLs.out (k + 1)
                clear HAl HJ2 HBk hA
                by_cases hk0 : k = 0
                · have hP : pk Y k = 6 := by rw [hk0]; rfl
                  have hk0I : ¬ (0 : Int) < (k : Int) := by omega
                  clear hclT hk0
                  have HL : Hid (Lk Y (k + 1) = Lk Y k ++ bz X) := by rw [Hid, Lk_succ Y k hlt, HY.out]; simp [ktO, sepOf, hP]
                  clear hP
                  go_wp2_with (first
                    | (go_at_call 12; with_reducible refine (HC.out _ hb).mono ?_; rintro e wq ⟨v, rfl, hown2, hq⟩; obtain ⟨g, cap, rfl, hg, hcap, hcl⟩ := tok_cells (L := [(k0, a, e0)]) hown2 (by simp); have d0 : wq.cell? ⟨g, 0, none⟩ = some (.int .u8 k0) := (hcl 0 _ rfl).1; have d2 : wq.cell? ⟨g, 2, none⟩ = some (.string X) := HX.out ▸ (hcl 0 _ rfl).2.2; clear hcl hown2; have b2 := hb.trans (hq.mono hb.size); have c0q : wq.cell? ⟨b, off + k * 3, none⟩ = some (.int .u8 k0) := (b2.cell (p := ⟨b, off + k * 3, none⟩) hbl).trans HC0.out; have c2q : wq.cell? ⟨b, off + k * 3 + 2, none⟩ = some (.string X) := (b2.cell (p := ⟨b, off + k * 3 + 2, none⟩) hbl).trans HC2.out)
                    | fail)
                  go_quiet (fail)
                  have o2 := own_below hown (below_drewN hq nq)
                  have b3 : Below w.heap.size w (wq.drewN nq) := below_drewN b2 nq
                  go_wp2_with (first
                    | (at_builtin; refine Lib.wpList_append_own_string _ rfl _ _ 35 9 rfl w.heap.size 5 i0 Try.underlying35 Try.underlying9 hi hz0 hz1 hz2 _ _ _ rfl o2 X rfl (by unfold maxLen; omega) (by omega) (b3.size) ?_; intro v' w6 hown' hgrow hnil; clear hnil; obtain ⟨ao2, cap2, rfl⟩ := bt_form hown')
                    | fail)
                  have R2 : Below w.heap.size w w6 := b3.grown hgrow b3.size (fun j e => (hown.lt j e).1)
                  have R1 : w6.ownsRow w.heap.size 5 1 (.slice ao2 ((Lk Y k).length + X.size) cap2) (Lk Y (k + 1)).length (bv (Lk Y (k + 1))) := by rw [HL.out, bv_append, List.length_append, bz_len, ← strCells_bz]; exact hown'
                  clear hown' hgrow
                  go_roundw
                  case rel => exact ⟨k + 1, by omega, by go_num, R1, R2, HJ3⟩
                  case measure => simp [intOf]; omega
                · obtain ⟨j, hj⟩ : ∃ j, k = j + 1 := ⟨k - 1, by omega⟩
                  have hjl : j < Y.length := by omega
                  have hP : pk Y k = Y[j].1 := by rw [show k = j + 1 from hj]; exact pk_succ Y j hjl
                  have HP0 := hidK (hclT j Y[j] (List.getElem?_eq_getElem hjl)).1
                  have hjI : (k : Int) - 1 = (j : Int) := by omega
                  have hjlI : (j : Int) < (Y.length : Int) := by omega
                  have hk0I : (0 : Int) < (k : Int) := by omega
                  clear hclT hj
                  generalize Y[j].1 = P at *
                  by_cases hK6 : k0 = 6
                  · have hK6b : ((k0 : Int) != 6) = false := by simp; omega
                    have HL : Hid (Lk Y (k + 1) = Lk Y k ++ bz X) := by rw [Hid, Lk_succ Y k hlt, HY.out]; simp [ktO, sepOf, hK6]
                    clear hP hK6
                    go_wp2_with (first
                      | (go_at_call 12; with_reducible refine (HC.out _ hb).mono ?_; rintro e wq ⟨v, rfl, hown2, hq⟩; obtain ⟨g, cap, rfl, hg, hcap, hcl⟩ := tok_cells (L := [(k0, a, e0)]) hown2 (by simp); have d0 : wq.cell? ⟨g, 0, none⟩ = some (.int .u8 k0) := (hcl 0 _ rfl).1; have d2 : wq.cell? ⟨g, 2, none⟩ = some (.string X) := HX.out ▸ (hcl 0 _ rfl).2.2; clear hcl hown2; have b2 := hb.trans (hq.mono hb.size); have c0q : wq.cell? ⟨b, off + k * 3, none⟩ = some (.int .u8 k0) := (b2.cell (p := ⟨b, off + k * 3, none⟩) hbl).trans HC0.out; have c2q : wq.cell? ⟨b, off + k * 3 + 2, none⟩ = some (.string X) := (b2.cell (p := ⟨b, off + k * 3 + 2, none⟩) hbl).trans HC2.out)
                      | fail)
                    go_quiet (fail)
                    have o2 := own_below hown (below_drewN hq nq)
                    have b3 : Below w.heap.size w (wq.drewN nq) := below_drewN b2 nq
                    have p0q : (wq.drewN nq).cell? ⟨b, off + j * 3, none⟩ = some (.int .u8 P) := (b3.cell (p := ⟨b, off + j * 3, none⟩) hbl).trans HP0.out
                    go_wp2_with (first
                      | (at_builtin; refine Lib.wpList_append_own_string _ rfl _ _ 35 9 rfl w.heap.size 5 i0 Try.underlying35 Try.underlying9 hi hz0 hz1 hz2 _ _ _ rfl o2 X rfl (by unfold maxLen; omega) (by omega) (b3.size) ?_; intro v' w6 hown' hgrow hnil; clear hnil; obtain ⟨ao2, cap2, rfl⟩ := bt_form hown')
                      | fail)
                    have R2 : Below w.heap.size w w6 := b3.grown hgrow b3.size (fun j e => (hown.lt j e).1)
                    have R1 : w6.ownsRow w.heap.size 5 1 (.slice ao2 ((Lk Y k).length + X.size) cap2) (Lk Y (k + 1)).length (bv (Lk Y (k + 1))) := by rw [HL.out, bv_append, List.length_append, bz_len, ← strCells_bz]; exact hown'
                    clear hown' hgrow
                    go_roundw
                    case rel => exact ⟨k + 1, by omega, by go_num, R1, R2, HJ3⟩
                    case measure => simp [intOf]; omega
                  · have hK6b : ((k0 : Int) != 6) = true := by simp; omega
                    by_cases hP6 : P = 6
                    · have hP6b : ((P : Int) != 6) = false := by simp; omega
                      have HL : Hid (Lk Y (k + 1) = Lk Y k ++ bz X) := by rw [Hid, Lk_succ Y k hlt, HY.out]; simp [ktO, sepOf, hP, hP6]
                      clear hP hP6
                      go_wp2_with (first
                        | (go_at_call 12; with_reducible refine (HC.out _ hb).mono ?_; rintro e wq ⟨v, rfl, hown2, hq⟩; obtain ⟨g, cap, rfl, hg, hcap, hcl⟩ := tok_cells (L := [(k0, a, e0)]) hown2 (by simp); have d0 : wq.cell? ⟨g, 0, none⟩ = some (.int .u8 k0) := (hcl 0 _ rfl).1; have d2 : wq.cell? ⟨g, 2, none⟩ = some (.string X) := HX.out ▸ (hcl 0 _ rfl).2.2; clear hcl hown2; have b2 := hb.trans (hq.mono hb.size); have c0q : wq.cell? ⟨b, off + k * 3, none⟩ = some (.int .u8 k0) := (b2.cell (p := ⟨b, off + k * 3, none⟩) hbl).trans HC0.out; have c2q : wq.cell? ⟨b, off + k * 3 + 2, none⟩ = some (.string X) := (b2.cell (p := ⟨b, off + k * 3 + 2, none⟩) hbl).trans HC2.out)
                        | fail)
                      go_quiet (fail)
                      have o2 := own_below hown (below_drewN hq nq)
                      have b3 : Below w.heap.size w (wq.drewN nq) := below_drewN b2 nq
                      have p0q : (wq.drewN nq).cell? ⟨b, off + j * 3, none⟩ = some (.int .u8 P) := (b3.cell (p := ⟨b, off + j * 3, none⟩) hbl).trans HP0.out
                      go_wp2_with (first
                        | (at_builtin; refine Lib.wpList_append_own_string _ rfl _ _ 35 9 rfl w.heap.size 5 i0 Try.underlying35 Try.underlying9 hi hz0 hz1 hz2 _ _ _ rfl o2 X rfl (by unfold maxLen; omega) (by omega) (b3.size) ?_; intro v' w6 hown' hgrow hnil; clear hnil; obtain ⟨ao2, cap2, rfl⟩ := bt_form hown')
                        | fail)
                      have R2 : Below w.heap.size w w6 := b3.grown hgrow b3.size (fun j e => (hown.lt j e).1)
                      have R1 : w6.ownsRow w.heap.size 5 1 (.slice ao2 ((Lk Y k).length + X.size) cap2) (Lk Y (k + 1)).length (bv (Lk Y (k + 1))) := by rw [HL.out, bv_append, List.length_append, bz_len, ← strCells_bz]; exact hown'
                      clear hown' hgrow
                      go_roundw
                      case rel => exact ⟨k + 1, by omega, by go_num, R1, R2, HJ3⟩
                      case measure => simp [intOf]; omega
                    · have hP6b : ((P : Int) != 6) = true := by simp; omega
                      have HL : Hid (Lk Y (k + 1) = Lk Y k ++ [32] ++ bz X) := by rw [Hid, Lk_succ Y k hlt, HY.out]; simp [ktO, sepOf, hP, hK6, hP6]
                      clear hP
                      go_wp2_with (first
                        | (go_at_call 12; with_reducible refine (HC.out _ hb).mono ?_; rintro e wq ⟨v, rfl, hown2, hq⟩; obtain ⟨g, cap, rfl, hg, hcap, hcl⟩ := tok_cells (L := [(k0, a, e0)]) hown2 (by simp); have d0 : wq.cell? ⟨g, 0, none⟩ = some (.int .u8 k0) := (hcl 0 _ rfl).1; have d2 : wq.cell? ⟨g, 2, none⟩ = some (.string X) := HX.out ▸ (hcl 0 _ rfl).2.2; clear hcl hown2; have b2 := hb.trans (hq.mono hb.size); have c0q : wq.cell? ⟨b, off + k * 3, none⟩ = some (.int .u8 k0) := (b2.cell (p := ⟨b, off + k * 3, none⟩) hbl).trans HC0.out; have c2q : wq.cell? ⟨b, off + k * 3 + 2, none⟩ = some (.string X) := (b2.cell (p := ⟨b, off + k * 3 + 2, none⟩) hbl).trans HC2.out)
                        | fail)
                      go_quiet (fail)
                      have o2 := own_below hown (below_drewN hq nq)
                      have b3 : Below w.heap.size w (wq.drewN nq) := below_drewN b2 nq
                      have p0q : (wq.drewN nq).cell? ⟨b, off + j * 3, none⟩ = some (.int .u8 P) := (b3.cell (p := ⟨b, off + j * 3, none⟩) hbl).trans HP0.out
                      go_wp2_with (first
                        | (at_builtin; refine Lib.wpList_append_own_string _ rfl _ _ 35 9 rfl w.heap.size 5 i0 Try.underlying35 Try.underlying9 hi hz0 hz1 hz2 _ _ _ rfl hown5 X rfl (by unfold maxLen; omega) (by omega) (R5.size) ?_; intro v' w6 hown' hgrow hnil; clear hnil; obtain ⟨ao2, cap2, rfl⟩ := bt_form hown')
                        | (at_builtin; refine wpList_append_own _ rfl _ _ 35 rfl w.heap.size 5 i0 (.int .u8 0) 1 1 Try.underlying35 hi hz0 hz1 hz2 rfl (by decide) _ _ _ rfl (o2.alloc _) ⟨_, 0, none⟩ 1 1 [.int .u8 32] rfl rfl (news1 _ _ _ rfl) (one1 32) (by unfold maxLen; omega) (by omega) (alloc_base b3.size) ?_; intro v5 w5 hown5 hgrow5 hnil5; clear hnil5; have R5 := one_below b3 o2 hgrow5; have c2w : w5.cell? ⟨b, off + k * 3 + 2, none⟩ = some (.string X) := (R5.cell (p := ⟨b, off + k * 3 + 2, none⟩) hbl).trans HC2.out)
                        | fail)
                      have R2 : Below w.heap.size w w6 := R5.grown hgrow R5.size (fun j e => (hown5.lt j e).1)
                      have R1 : w6.ownsRow w.heap.size 5 1 (.slice ao2 ((Lk Y k).length + 1 + X.size) cap2) (Lk Y (k + 1)).length (bv (Lk Y (k + 1))) := by rw [HL.out, bv_append, bv_append, List.length_append, List.length_append, bz_len, ← strCells_bz]; exact hown'
                      clear hown' hgrow
                      go_roundw
                      case rel => exact ⟨k + 1, by omega, by go_num, R1, R2, HJ3⟩
                      case measure => simp [intOf]; omega
              · have HF : Hid (V = .tuple #[.string ⟨#[]⟩, .int .i64 17]) := HBk.out (by rw [HAl.out]; simp [hx])
                have hxb := ba_ne hx
                clear HAl hclT
                clear HJ HLs
                go_wp2_with (first
                  | (go_at_call 12; with_reducible refine (HC.out _ hb).mono ?_; rintro e wq ⟨v, rfl, hown2, hq⟩; obtain ⟨g, cap, rfl, hg, hcap, hcl⟩ := tok_cells (L := [(k0, a, e0)]) hown2 (by simp); have d0 : wq.cell? ⟨g, 0, none⟩ = some (.int .u8 k0) := (hcl 0 _ rfl).1; have d2 : wq.cell? ⟨g, 2, none⟩ = some (.string X) := HX.out ▸ (hcl 0 _ rfl).2.2; clear hcl hown2; have b2 := hb.trans (hq.mono hb.size); have c0q : wq.cell? ⟨b, off + k * 3, none⟩ = some (.int .u8 k0) := (b2.cell (p := ⟨b, off + k * 3, none⟩) hbl).trans HC0.out; have c2q : wq.cell? ⟨b, off + k * 3 + 2, none⟩ = some (.string T) := (b2.cell (p := ⟨b, off + k * 3 + 2, none⟩) hbl).trans HC2.out)
                  | fail)
                go_quiet (fail)
                go_wp2_with fail
                refine bodyPost_ret (results_tmp2 rfl _ _ _) rfl ?_
                exact ⟨by rw [HF.out]; rfl, below_drewN b2 nq⟩
            · have HF : Hid (V = .tuple #[.string ⟨#[]⟩, .int .i64 17]) := HBk.out (by rw [HAl.out]; simp [hkk])
              have hkb : ((k0 : Int) == (K : Int)) = false := by simp; omega
              have hkd : ((k0 : Int) != (K : Int)) = true := by simp; omega
              have hkc : ¬ (k0 : Int) = (K : Int) := by omega
              clear HAl hclT
              clear HJ HLs
              go_wp2_with (first
                | (go_at_call 12; with_reducible refine (HC.out _ hb).mono ?_; rintro e wq ⟨v, rfl, hown2, hq⟩; obtain ⟨g, cap, rfl, hg, hcap, hcl⟩ := tok_cells (L := [(k0, a, e0)]) hown2 (by simp); have d0 : wq.cell? ⟨g, 0, none⟩ = some (.int .u8 k0) := (hcl 0 _ rfl).1; have d2 : wq.cell? ⟨g, 2, none⟩ = some (.string X) := HX.out ▸ (hcl 0 _ rfl).2.2; clear hcl hown2; have b2 := hb.trans (hq.mono hb.size); have c0q : wq.cell? ⟨b, off + k * 3, none⟩ = some (.int .u8 K) := (b2.cell (p := ⟨b, off + k * 3, none⟩) hbl).trans HC0.out; have c2q : wq.cell? ⟨b, off + k * 3 + 2, none⟩ = some (.string T) := (b2.cell (p := ⟨b, off + k * 3 + 2, none⟩) hbl).trans HC2.out)
                | fail)
              go_quiet (fail)
              go_wp2_with fail
              refine bodyPost_ret (results_tmp2 rfl _ _ _) rfl ?_
              exact ⟨by rw [HF.out]; rfl, below_drewN b2 nq⟩
          · have HF : Hid (V = .tuple #[.string ⟨#[]⟩, .int .i64 17]) := HBk.out HAl.out
            clear HAl hclT
            obtain ⟨n, hn⟩ : ∃ n, ((k0, a, e0) :: x2 :: L2).length = n := ⟨_, rfl⟩
            have hn2 : 2 ≤ n := by rw [← hn]; simp
            rw [hn] at HC hLn
            have hnb : ((n : Int) == 1) = false := by simp; omega
            have hnd : ((n : Int) != 1) = true := by simp; omega
            have hnc : ¬ (n : Int) = 1 := by omega
            clear hn
            clear HJ HLs
            go_wp2_with (first
              | (go_at_call 12; with_reducible refine (HC.out _ hb).mono ?_; rintro e wq ⟨v, rfl, hown2, hq⟩; obtain ⟨ao2, cap2, rfl⟩ := tkv_form hown2; clear hown2; have b2 := hb.trans (hq.mono hb.size); have c0q : wq.cell? ⟨b, off + k * 3, none⟩ = some (.int .u8 K) := (b2.cell (p := ⟨b, off + k * 3, none⟩) hbl).trans HC0.out; have c2q : wq.cell? ⟨b, off + k * 3 + 2, none⟩ = some (.string T) := (b2.cell (p := ⟨b, off + k * 3 + 2, none⟩) hbl).trans HC2.out)
              | fail)
            go_quiet (fail)
            go_wp2_with fail
            refine bodyPost_ret (results_tmp2 rfl _ _ _) rfl ?_
            exact ⟨by rw [HF.out]; rfl, below_drewN b2 nq⟩
        · have hL0 := hE her
          subst hL0
          have HF : Hid (V = .tuple #[.string ⟨#[]⟩, .int .i64 17]) := HBk.out HAl.out
          have herb : (er == 0) = false := by simpa using her
          have herd : (er != 0) = true := by simpa using her
          clear HAl hclT
          simp only [List.length_nil] at HC
          clear HJ HLs
          go_wp2_with (first
            | (go_at_call 12; with_reducible refine (HC.out _ hb).mono ?_; rintro e wq ⟨v, rfl, hown2, hq⟩; obtain ⟨ao2, cap2, rfl⟩ := tkv_form hown2; clear hown2; have b2 := hb.trans (hq.mono hb.size); have c0q : wq.cell? ⟨b, off + k * 3, none⟩ = some (.int .u8 K) := (b2.cell (p := ⟨b, off + k * 3, none⟩) hbl).trans HC0.out; have c2q : wq.cell? ⟨b, off + k * 3 + 2, none⟩ = some (.string T) := (b2.cell (p := ⟨b, off + k * 3 + 2, none⟩) hbl).trans HC2.out)
            | fail)
          go_quiet (fail)
          go_wp2_with fail
          refine bodyPost_ret (results_tmp2 rfl _ _ _) rfl ?_
          exact ⟨by rw [HF.out]; rfl, below_drewN b2 nq⟩
      · obtain rfl : k = Y.length := by omega
        have HV : Hid (V = glRes (Lk Y Y.length)) := HGood.out (fun j hj => HJ.out j hj hj)
        obtain ⟨ao2, cap2, rfl⟩ := bt_form hown
        have hcv := gl_conv hown
        clear hown
        by_cases hbig : 524288 < (Lk Y Y.length).length
        · have hbigI : (524288 : Int) < ((Lk Y Y.length).length : Int) := by omega
          have HBG := hidK hbig
          go_wp2_with fail
          refine bodyPost_ret (results_tmp2 rfl _ _ _) rfl ?_
          exact ⟨by rw [HV.out, glRes_big HBG.out]; rfl, hb⟩
        · have hbigI : ¬ (524288 : Int) < ((Lk Y Y.length).length : Int) := by omega
          have HBG := hidK hbig
          go_wp2_with fail
          refine bodyPost_ret (results_tmp2 rfl _ _ _) rfl ?_
          exact ⟨by rw [HV.out, glRes_ok HBG.out]; rfl, hb⟩
end Go.Proofs.Ytpndbbepfjocgaa
