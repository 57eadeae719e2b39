import Derived.Test.YtiadcajhflhcoaaJLm
namespace Go.Proofs.Ytiadcajhflhcoaa
open Go.RowKit
set_option maxRecDepth 100000
theorem grp_out {w : World} {f : Int → Option Int} {e : Ending} {w' : World} (h : GrP w f e w') : ∃ ao cap M, e = .returned (.slice ao M.length cap) ∧ Hid (M.length ≤ 64) ∧ GRd w' ao M w'.heap.size ∧ Hid (SrtG M) ∧ Hid (∀ p, p ∈ M ↔ f p.1 = some p.2) ∧ Below w.heap.size w w' := by
  obtain ⟨ao, cap, M, h1, h2, h3, h4, h5, h6, h7⟩ := h
  exact ⟨ao, cap, M, h1, h2, h3, h4, h5, h7⟩
theorem GRd.kept {w w' : World} {ao : Option Addr} {L : List (Nat × Int)} (h : GRd w ao L w.heap.size) (hb : Below w.heap.size w w') : GRd w' ao L w'.heap.size := (h.below hb).mono hb.size
theorem drew_belowG (w : World) (q : Nat) : Below w.heap.size w (w.drewN q) := ⟨rfl, rfl, rfl, Nat.le_refl _, fun _ _ => rfl⟩
theorem lessF_gone {f : Int → Option Int} {J : List Nat} {n : Nat} (h : J.any (fun z => z == n) = true) : lessF f J n = none := by
  rw [List.any_eq_true] at h
  obtain ⟨z, hz, e⟩ := h
  simp only [lessF]
  rw [if_pos ⟨z, hz, by simp at e; omega⟩]
theorem lessF_stay {f : Int → Option Int} {J : List Nat} {n : Nat} (h : J.any (fun z => z == n) = false) : lessF f J n = f n := by
  rw [List.any_eq_false] at h
  simp only [lessF]
  rw [if_neg]
  rintro ⟨j, hj, e⟩
  exact h j hj (by simp; omega)
theorem any_snocN (J : List Nat) (k n : Nat) (h : k < J.length) : (J.take (k + 1)).any (fun z => z == n) = ((J.take k).any (fun z => z == n) || J.getD k 0 == n) := by
  rw [take_snocN J k h, List.any_append]; simp
theorem rev_snoc (L : List (Nat × Int)) (m : Nat) (h : m < L.length) : (L.drop m).reverse = (L.drop (m + 1)).reverse ++ [L.getD m (0, 0)] := by
  rw [List.drop_eq_getElem_cons h, List.reverse_cons, getD_get h]
/-- what abides in the first loop -/
def LoS (w : World) (gc gl : Nat) (f f' : Int → Option Int) (al : Option Addr) (L : List (Nat × Int)) (wr : World) : Prop :=
  Below w.heap.size w wr ∧ GtS wr gc f ∧ GtS wr gl f' ∧ GRd wr al L wr.heap.size
theorem LoS.mk {w : World} {gc gl : Nat} {f f' : Int → Option Int} {al : Option Addr} {L : List (Nat × Int)} {wr : World} (a : Below w.heap.size w wr) (b : GtS wr gc f) (c : GtS wr gl f') (d : GRd wr al L wr.heap.size) : LoS w gc gl f f' al L wr := ⟨a, b, c, d⟩
theorem LoS.kept {w : World} {gc gl : Nat} {f f' : Int → Option Int} {al : Option Addr} {L : List (Nat × Int)} {wr w' : World} (h : LoS w gc gl f f' al L wr) (hb : Below wr.heap.size wr w') : LoS w gc gl f f' al L w' :=
  ⟨gbt hb h.1, h.2.1.kept hb rfl, h.2.2.1.kept hb rfl, h.2.2.2.kept hb⟩
set_option maxHeartbeats 4000000 in
theorem gate_less (a0 a1 : Option Addr) (c0 c1 : Nat) (J0 J1 : List Nat) (w : World) (n0 : J0.length ≤ 140737488351232) (n1 : J1.length ≤ 140737488351232)
    (r0 : WRd w a0 J0 w.heap.size) (r1 : WRd w a1 J1 w.heap.size) (k0 : ∀ z ∈ J0, z < 4294967296) (k1 : ∀ z ∈ J1, z < 4294967296) :
    Calls Try.prog 3 #[.slice a0 J0.length c0, .slice a1 J1.length c1] w fun e w' => e = .returned (.bool true) ∧ Below w.heap.size w w' := by
  have hS := some_any a0 c0 J0 w (by omega) k0 r0
  obtain ⟨i0, hi, hz0, hz1, hz2⟩ := info_parts Try.infoG
  go_enter Try.func3, Try.ntmps3
  go_wp2_with (go_at_call 5; with_reducible refine hS.mono ?_; rintro e w1 ⟨gc, v, L, rfl, hSm⟩)
  obtain ⟨hl60, hok, -, hown, hC, hX, h31⟩ := hSm
  obtain ⟨al, cl, rfl, hrd⟩ := gown_reads hown
  have hL1 := less_any gc (ofL L) a1 c1 J1 w1 hC (by omega) k1 ((r1.below hX).mono hX.size)
  clear hS r0 n0 k0 hown
  go_wp2_with (go_at_call 6; with_reducible refine hL1.mono ?_; rintro e w2 ⟨gl, rfl, -, hb, hB⟩; replace hC := hC.kept hb rfl; replace hX := gbt hb hX; replace hrd := hrd.kept hb)
  have q1 := withinP_less (ofL L) J1
  have HOK := ghid hok
  have H31 := ghid h31
  clear hL1 hb hok h31
  go_wp2_with (go_at_call 7; with_reducible refine (within_true gl gc (lessF (ofL L) J1) (ofL L) _ hB hC q1).mono ?_; rintro e w3 ⟨rfl, hb⟩; have hLo := LoS.mk (gbt hb hX) (hC.kept hb rfl) (hB.kept hb rfl) (hrd.kept hb))
  clear hC hX hrd hB hb q1
  go_loopw [9] (fun i wr => ∃ k : Nat, i = .int .i64 k ∧ k ≤ L.length ∧ LoS w gc gl (ofL L) (lessF (ofL L) J1) al L wr) (fun i _ => L.length - (intOf i).toNat)
  case atStart => exact ⟨0, rfl, Nat.zero_le _, hLo⟩
  case round =>
    rename World => V
    obtain ⟨k, rfl, hk, hS⟩ := hrel
    clear hLo
    by_cases hlt : k < L.length
    · have hd : decide ((k : Int) < L.length) = true := by simp; omega
      have HS := ghid hS
      have hin := ofL_in HOK.out (getD_memG hlt)
      obtain ⟨bl, ol, rfl, hbl, hcl⟩ := hS.2.2.2 (by omega)
      obtain ⟨e0, e1⟩ := hcl k hlt
      have hn31 := H31.out _ (getD_memG hlt)
      obtain ⟨n, a, hna⟩ : ∃ n a, L.getD k (0, 0) = (n, a) := ⟨_, _, rfl⟩
      rw [hna] at e0 e1 hin hn31
      simp only at e0 e1 hin hn31
      clear hna hcl hS
      go_wp2
      go_loopw [10, 11] (fun t i W => ∃ m q : Nat, m ≤ J1.length ∧ t = .bool ((J1.take m).any (fun z => z == n)) ∧ i = .int .i64 m ∧ W = V.drewN q) (fun _ i _ => J1.length - (intOf i).toNat)
      case atStart => exact ⟨0, 0, Nat.zero_le _, rfl, rfl, rfl⟩
      case round =>
        obtain ⟨m, q, hm, rfl, rfl, hW⟩ := hrel
        by_cases hml : m < J1.length
        · have hd3 : decide ((m : Int) < J1.length) = true := by simp; omega
          obtain ⟨b1, o1, rfl, hb1, hc1⟩ := r1 (by omega)
          have c2 : wr.cell? ⟨b1, o1 + m, none⟩ = some (.int .u32 (J1.getD m 0 : Nat)) := by rw [hW]; exact (HS.out.1.cell (p := ⟨b1, o1 + m, none⟩) hb1).trans (hc1 m hml)
          have c3 : wr.cell? ⟨bl, ol + k * 2, none⟩ = some (.int .u32 (n : Nat)) := by rw [hW]; exact e0
          have HA := ghid (any_snocN J1 m n hml)
          have HW := ghid hW
          clear hc1 e0 e1 hW
          generalize J1.getD m 0 = y at *
          have hlI : (m : Int) < (J1.length : Int) := by omega
          have hkI : (k : Int) < (L.length : Int) := by omega
          by_cases hyn : y = n
          · subst hyn
            have hq : ((y : Int) == (y : Int)) = true := by simp
            go_wp2
            go_quiet (fail)
            go_wp2
            go_roundw
            case rel => exact ⟨m + 1, _, hml, by rw [HA.out]; simp, by go_num, by rw [HW.out, World.drewN_drewN]⟩
            case measure => simp [intOf]; omega
          · have hq : ((y : Int) == (n : Int)) = false := by simp; omega
            have hq2 : (y == n) = false := by simpa using hyn
            go_wp2
            go_quiet (fail)
            go_wp2
            go_roundw
            case rel => exact ⟨m + 1, _, hml, by rw [HA.out, hq2]; simp, by go_num, by rw [HW.out, World.drewN_drewN]⟩
            case measure => simp [intOf]; omega
        · have hd3 : decide ((m : Int) < J1.length) = false := by simp; omega
          have he : J1.take m = J1 := List.take_of_length_le (by omega)
          rw [he]
          have hS2 : LoS w gc gl (ofL L) (lessF (ofL L) J1) (some ⟨bl, ol, none⟩) L wr := by rw [hW]; exact HS.out.kept (drew_belowG _ _)
          have c3 : wr.cell? ⟨bl, ol + k * 2, none⟩ = some (.int .u32 (n : Nat)) := by rw [hW]; exact e0
          have c4 : wr.cell? ⟨bl, ol + k * 2 + 1, none⟩ = some (.int .i64 a) := by rw [hW]; exact e1
          have hG := granted_any gl (lessF (ofL L) J1) n wr hS2.2.2.1 (by omega)
          cases hany : J1.any (fun z => z == n) with
          | true =>
            have hg0 := lessF_gone (f := ofL L) hany
            rw [hg0] at hG
            have hnw : ¬ withinP (ofL L) (lessF (ofL L) J1) := fun h => by
              have := h _ _ hin
              rw [hg0] at this; cases this
            have hWi := within_false gc gl (ofL L) (lessF (ofL L) J1) wr hS2.2.1 hS2.2.2.1 hnw
            simp only [Option.getD_none, Option.isSome_none] at hG
            have HS2 := ghid hS2
            clear hin hnw hg0 hany hS2 hW he HS
            go_wp2_with (first
              | (go_at_call 8; with_reducible refine hG.mono ?_; rintro e wq ⟨rfl, hq⟩; subst wq)
              | (go_at_call 7; with_reducible refine hWi.mono ?_; rintro e wq ⟨rfl, hq⟩))
            go_roundw
            case rel => exact ⟨k + 1, by go_num, hlt, HS2.out.kept hq⟩
            case measure => simp [intOf]; omega
          | false =>
            rw [lessF_stay hany, hin] at hG
            simp only [Option.getD_some, Option.isSome_some] at hG
            have HS2 := ghid hS2
            clear hin hany hS2 hW he HS
            go_wp2_with (first
              | (go_at_call 8; with_reducible refine hG.mono ?_; rintro e wq ⟨rfl, hq⟩; subst wq))
            go_roundw
            case rel => exact ⟨k + 1, by go_num, hlt, HS2.out⟩
            case measure => simp [intOf]; omega
    · have hd : decide ((k : Int) < L.length) = false := by simp; omega
      go_wp2
      go_loopw [14, 15] (fun v i W => ∃ m : Nat, m ≤ L.length ∧ i = .int .i64 ((m : Int) - 1) ∧ Below V.heap.size V W ∧ W.ownsRow V.heap.size 33 2 v (L.drop m).reverse.length (gv (L.drop m).reverse)) (fun _ i _ => (intOf i + 1).toNat)
      case atStart => exact ⟨L.length, Nat.le_refl _, rfl, Below.refl _ _, by rw [List.drop_length]; exact World.ownsRow_nil _ _ _ _⟩
      case round =>
        obtain ⟨m, hm, rfl, hbW, howW⟩ := hrel
        have hS3 := hS.kept hbW
        have HS3 := ghid hS3
        by_cases hm0 : 0 < m
        · obtain ⟨t, rfl⟩ : ∃ t, m = t + 1 := ⟨m - 1, by omega⟩
          have hti : (((t + 1 : Nat) : Int) - 1) = (t : Int) := by omega
          have htl : t < L.length := by omega
          obtain ⟨bl, ol, rfl, hbl, hcl⟩ := hS3.2.2.2 (by omega)
          obtain ⟨e0, e1⟩ := hcl t htl
          have HR := ghid (rev_snoc L t htl)
          obtain ⟨n, a, hna⟩ : ∃ n a, L.getD t (0, 0) = (n, a) := ⟨_, _, rfl⟩
          rw [hna] at e0 e1 HR
          simp only at e0 e1
          have hlen : (L.drop (t + 1)).reverse.length ≤ 60 := by simp; omega
          generalize (L.drop (t + 1)).reverse = R at *
          have hd4 : decide (0 ≤ (t : Int)) = true := by simp
          rw [hti]
          clear hna hcl hS3 hti hm0 hS
          go_wp2_with (at_builtin; refine wpList_append_own _ rfl _ _ 24 rfl V.heap.size 33 i0 (.agg #[.int .u32 0, .int .i64 0]) 2 16 Try.underlying24 hi hz0 hz1 hz2 rfl (by decide) _ _ _ rfl (howW.alloc _) ⟨_, 0, none⟩ 1 1 [.int .u32 (n : Nat), .int .i64 a] rfl rfl (cell_two_new _ _ _ _) one2 (by unfold maxLen; omega) (by omega) (by have := hbW.size; simp; omega) ?_; intro v' w4 own2 hg2 _)
          have R2 : Below V.heap.size V w4 := (hbW.alloc hbW.size _).grown hg2 (by have := hbW.size; simp; omega) (fun j e => (howW.lt j e).1)
          have own3 := own_snocG (n := n) (a := a) (by simpa using own2)
          rw [← HR.out] at own3
          clear own2 hg2
          go_wp2
          go_roundw
          case rel => exact ⟨t, by omega, rfl, R2, own3⟩
          case measure => simp [intOf]
        · have hm1 : m = 0 := by omega
          subst hm1
          have hd4 : decide (0 ≤ (((0 : Nat) : Int) - 1)) = false := by decide
          rw [List.drop_zero] at howW
          obtain ⟨ar, cr, rfl, hrr⟩ := gown_reads howW
          have hN := new_any ar cr L.reverse wr (fun p hp => by have := H31.out p (List.mem_reverse.1 hp); omega) hrr
          rw [List.length_reverse] at hN
          have hX := hS3.1
          have hC := hS3.2.1
          have hB := hS3.2.2.1
          have q3 := (ofL_rev HOK.out).1
          have q4 := (ofL_rev HOK.out).2
          have HQ := ghid (withinP_eq q3 q4)
          have HOKR := ghid (okG_rev HOK.out)
          clear hS3 hS hrr howW hbW
          go_wp2_with (go_at_call 9; with_reducible refine hN.mono ?_; intro e w5 hz; obtain ⟨hb5, gh, rfl, -, hH⟩ := newok hz HOKR.out; replace hX := gbt hb5 hX; replace hC := hC.kept hb5 rfl)
          rw [← HQ.out] at hH
          have q5 := withinP_refl (ofL L)
          have HF := ghid HOK.out
          clear q3 q4 hN hB hb5
          obtain ⟨f, hf⟩ : ∃ f, f = ofL L := ⟨_, rfl⟩
          rw [← hf] at hC hH q5
          have HFE := ghid hf
          clear hf
          go_wp2_with (first
            | (go_at_call 7; with_reducible refine (within_true gc gh f f _ hC hH q5).mono ?_; rintro e wq ⟨rfl, hq⟩; replace hC := hC.kept hq rfl; replace hH := hH.kept hq rfl; replace hX := gbt hq hX)
            | (go_at_call 7; with_reducible refine (within_true gh gc f f _ hH hC q5).mono ?_; rintro e wq ⟨rfl, hq⟩; replace hC := hC.kept hq rfl; replace hH := hH.kept hq rfl; replace hX := gbt hq hX)
            | (go_at_call 11; with_reducible refine (grants_any gc f _ hC).mono ?_; intro e w6 hz; obtain ⟨am, cm, M1, rfl, hm1, hr1, hs1, hi1, hq⟩ := grp_out hz; replace hC := hC.kept hq rfl; replace hH := hH.kept hq rfl; replace hX := gbt hq hX))
          go_wp2_with (go_at_call 11; with_reducible refine (grants_any gh f _ hH).mono ?_; intro e w7 hz2; obtain ⟨an, cn, M2, rfl, hm2, hr2, hs2, hi2, hq2⟩ := grp_out hz2; replace hH := hH.kept hq2 rfl; replace hX := gbt hq2 hX; replace hr1 := hr1.kept hq2)
          have hM : M1 = M2 := srt_one (srt_pw hs1.out) (srt_pw hs2.out) (fun p => (hi1.out p).trans (hi2.out p).symm)
          have hSame := sameg_any am an cm cn M1 M2 w7 (by have := hm1.out; omega) hr1 hr2
          rw [show decide (M1 = M2) = true from decide_eq_true hM] at hSame
          have hSame2 : Calls Try.prog 10 #[.slice am M1.length cm, .slice an M2.length cn] w7 fun e w' => e = .returned (.bool true) ∧ Below w7.heap.size w7 w' := hSame.mono fun e w' ⟨he, q, hq⟩ => ⟨he, by rw [hq]; exact drew_belowG _ _⟩
          clear hM hq hq2 hr1 hr2 hC hSame
          go_wp2_with (go_at_call 10; with_reducible refine hSame2.mono ?_; rintro e w8 ⟨rfl, hb8⟩; replace hH := hH.kept hb8 rfl; replace hX := gbt hb8 hX)
          clear hSame2 hb8 hz hz2 hi1 hi2 hs1 hs2 hm1 hm2
          go_wp2_with (go_at_call 11; with_reducible refine (grants_any gh f _ hH).mono ?_; intro e w9 hz3; obtain ⟨an3, cn3, M, rfl, hm3, hr3, hs3, hi3, hq3⟩ := grp_out hz3; replace hX := gbt hq3 hX)
          have HL : Hid (M.length = L.length) := srt_len HF.out hs3.out (fun p => by rw [← HFE.out]; exact hi3.out p)
          clear hz3 hi3 hH hq3
          go_loopw [18] (fun i W => ∃ m q : Nat, 1 ≤ m ∧ (m ≤ M.length ∨ m = 1) ∧ i = .int .i64 m ∧ W = w9.drewN q) (fun i _ => M.length - (intOf i).toNat)
          case atStart => exact ⟨1, 0, Nat.le_refl _, .inr rfl, rfl, rfl⟩
          case round =>
            obtain ⟨m, q, hm1, hm2, rfl, hW⟩ := hrel
            by_cases hml : m < M.length
            · have hd5 : decide ((m : Int) < M.length) = true := by simp; omega
              obtain ⟨t, rfl⟩ : ∃ t, m = t + 1 := ⟨m - 1, by omega⟩
              obtain ⟨bm, om, rfl, hbm, hcm⟩ := hr3 (by omega)
              have x0 : wr.cell? ⟨bm, om + t * 2, none⟩ = some (.int .u32 ((M.getD t (0, 0)).1 : Nat)) := by rw [hW]; exact (hcm t (by omega)).1
              have x1 : wr.cell? ⟨bm, om + (t + 1) * 2, none⟩ = some (.int .u32 ((M.getD (t + 1) (0, 0)).1 : Nat)) := by rw [hW]; exact (hcm (t + 1) hml).1
              have hlt2 := hs3.out t (t + 1) (by omega) hml
              generalize (M.getD t (0, 0)).1 = y0 at *
              generalize (M.getD (t + 1) (0, 0)).1 = y1 at *
              have hi0 : (y0 : Int) < (y1 : Int) := by omega
              have hi1 : decide ((y1 : Int) ≤ (y0 : Int)) = false := by simp; omega
              have ht1 : IntKind.i64.wrap (t : Int) = (t : Int) := by have := hm3.out; rw [IntKind.wrap_i64]; omega
              have ht2 : ((t : Int) + 1).toNat = t + 1 := by omega
              have htI : (t : Int) < (M.length : Int) := by omega
              have htI2 : (t : Int) + 1 < (M.length : Int) := by omega
              have htI3 : 0 ≤ (t : Int) + 1 := by omega
              have ht64 : (t : Int) + 1 ≤ 64 := by have := hm3.out; omega
              have HW := ghid hW
              clear hcm hlt2 hW hm2
              go_wp2
              go_quiet (fail)
              go_wp2
              go_roundw
              case rel => exact ⟨t + 1 + 1, _, by omega, .inl hml, by go_num, by rw [HW.out, World.drewN_drewN]⟩
              case measure => simp [intOf]; omega
            · have hd5 : decide ((m : Int) < M.length) = false := by simp; omega
              have hXX : Below w.heap.size w wr := by rw [hW]; exact gbt (drew_belowG _ _) hX
              clear hW
              have hll : ((M.length : Int) == (L.length : Int)) = true := by rw [HL.out]; simp
              go_wp2
              go_ret
              exact ⟨by rw [← hll]; rfl, hXX⟩
end Go.Proofs.Ytiadcajhflhcoaa
