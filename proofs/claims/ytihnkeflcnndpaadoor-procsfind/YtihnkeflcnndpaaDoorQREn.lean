import Derived.Test.YtihnkeflcnndpaaDoorCIFit
namespace Go.Proofs.YtihnkeflcnndpaaDoor
open Go.RowKit
set_option maxRecDepth 100000

theorem rcheck_bad (p : Nat × Nat) (w : World) (h : p.1 < 256) :
    Calls Tryd.prog 63 #[.agg #[.int .u8 p.1, .int .u32 p.2]] w fun e w' => e = .returned (.int .i64 (erV p.1 p.2)) ∧ Below w.heap.size w w' := rcheck_any p.1 p.2 w h
theorem rsize_ok (p : Nat × Nat) (w : World) (h : p.1 < 256) (ho : okI p = true) :
    Calls Tryd.prog 64 #[.agg #[.int .u8 p.1, .int .u32 p.2]] w fun e w' => e = .returned (.int .i64 (1 + (opWi p.1 : Int))) ∧ Below w.heap.size w w' := by
  refine (rsize_any p.1 p.2 w h).mono ?_
  have he : erV p.1 p.2 = 0 := by simpa [okI] using ho
  rintro e w' ⟨rfl, h1⟩
  refine ⟨?_, h1⟩
  rw [sz_ok _ _ he]; simp
theorem own_len {w : World} {B e sz n m : Nat} {v : Value} {xs : List Value} (h : w.ownsRow B e sz v n xs) (hn : n = m) : w.ownsRow B e sz v m xs := hn ▸ h
theorem crd_at {w W : World} {b off : Nat} {L : List (Nat × Nat)} {k : Nat} (hbl : b < w.heap.size) (h : w.cell? ⟨b, off + k * 2, none⟩ = some (.int .u8 (L.getD k (0, 0)).1) ∧ w.cell? ⟨b, off + k * 2 + 1, none⟩ = some (.int .u32 (L.getD k (0, 0)).2)) (hb : Below w.heap.size w W) :
    W.cell? ⟨b, off + k * 2, none⟩ = some (.int .u8 (L.getD k (0, 0)).1) ∧ W.cell? ⟨b, off + k * 2 + 1, none⟩ = some (.int .u32 (L.getD k (0, 0)).2) :=
  ⟨(hb.cell (p := ⟨b, off + k * 2, none⟩) hbl).trans h.1, (hb.cell (p := ⟨b, off + k * 2 + 1, none⟩) hbl).trans h.2⟩
set_option maxRecDepth 100000 in
set_option maxHeartbeats 2000000 in
theorem rencode_any (ao : Option Addr) (cap : Nat) (L : List (Nat × Nat)) (w : World) (hn : L.length ≤ 9223372036854775807) (hwf : Wfc L) (hr : CRd w ao L w.heap.size) :
    Calls Tryd.prog 48 #[.slice ao L.length cap] w fun e w' => ∃ v, e = .returned (.tuple #[v, .int .i64 (encI L), .int .i64 (encX L)]) ∧ w'.ownsRow w.heap.size 5 1 v (encB L).length (bv (encB L)) ∧ Below w.heap.size w w' := by
  by_cases hl : 16384 < L.length
  · obtain ⟨e1, e2, e3⟩ := enc_long L hl
    rw [e1, e2, e3]
    have hl' : (16384 : Int) < L.length := by omega
    clear e1 e2 e3 hr
    go_enter Tryd.func48, Tryd.ntmps48
    go_wp2
    refine bodyPost_ret (results_tmp3 rfl _ _ _) rfl ?_
    exact ⟨_, rfl, World.ownsRow_nil _ _ _ _, Below.refl _ _⟩
  obtain ⟨i0, hi, hz0, hz1, hz2⟩ := info_parts Tryd.infoB
  have hl' : ¬ (16384 : Int) < L.length := by omega
  have HL : Hid (¬ 16384 < L.length) := hl
  clear hl
  go_enter Tryd.func48, Tryd.ntmps48
  go_wp2
  go_loopw [5, 6] (fun v i wr => ∃ k : Nat, k ≤ L.length ∧ i = .int .i64 k ∧ wr.ownsRow w.heap.size 5 1 v (encF (L.take k)).length (bv (encF (L.take k))) ∧ Below w.heap.size w wr ∧ ∀ j, j < k → okI (L.getD j (0, 0)) = true)
    (fun _ i _ => L.length - (intOf i).toNat)
  case atStart => exact ⟨0, Nat.zero_le _, rfl, World.ownsRow_nil _ _ _ _, Below.refl _ _, fun j hj => absurd hj (by omega)⟩
  case round =>
    obtain ⟨k, hk, rfl, hown, hb, hok⟩ := hrel
    have HO : Hid (∀ j, j < k → okI (L.getD j (0, 0)) = true) := hok
    clear hok
    by_cases hlt : k < L.length
    · obtain ⟨b, off, rfl, hbl, hc⟩ := (hr.below hb) (by omega)
      have hck := hc k hlt
      have hB0 := hb.size
      have hbr : b < wr.heap.size := by omega
      have hcW := fun W (h : Below wr.heap.size wr W) => crd_at (L := L) (k := k) hbr hck h
      obtain ⟨hc0, hc1⟩ := hck
      clear hc
      have hwk := hwf.at hlt
      have HT : Hid (encF (L.take (k + 1)) = encF (L.take k) ++ enc1 (L.getD k (0, 0))) := by
        rw [Hid, ptake (0, 0) L k hlt, encF_append]; simp [encF]
      have hE : (encF (L.take k)).length ≤ 81920 := by
        have := encF_le (L.take k); rw [List.length_take] at this; have := HL.out; omega
      have hltI : (k : Int) < (L.length : Int) := by omega
      cases hk1 : okI (L.getD k (0, 0))
      · have HE : Hid (encB L = [] ∧ encI L = k ∧ encX L = erV (L.getD k (0, 0)).1 (L.getD k (0, 0)).2) := enc_err L k hlt HO.out hk1 HL.out
        have hS := fun w => rcheck_any (L.getD k (0, 0)).1 (L.getD k (0, 0)).2 w hwk.1
        have hne : ¬ erV (L.getD k (0, 0)).1 (L.getD k (0, 0)).2 = 0 := by simpa [okI] using hk1
        clear HT hk1 hE hown HL HO hwk hcW
        generalize (L.getD k (0, 0)).1 = op at *
        generalize (L.getD k (0, 0)).2 = arg at *
        have hne' : ¬ ((erV op arg : Nat) : Int) = 0 := by omega
        generalize erV op arg = ev at *
        clear hne
        go_wp2_with (go_at_call 63; with_reducible refine (hS _).mono ?_; rintro e wq ⟨rfl, hq⟩)
        refine bodyPost_ret (results_tmp3 rfl _ _ _) rfl ?_
        obtain ⟨e1, e2, e3⟩ := HE.out
        refine ⟨_, ?_, by rw [e1]; exact World.ownsRow_nil _ _ _ _, bt hb hq⟩
        rw [e2, e3]; rfl
      · have her : erV (L.getD k (0, 0)).1 (L.getD k (0, 0)).2 = 0 := by simpa [okI] using hk1
        have HO1 : Hid (∀ j, j < k + 1 → okI (L.getD j (0, 0)) = true) := fun j hj => by
          by_cases h : j < k
          · exact HO.out j h
          · obtain rfl : j = k := by omega
            exact hk1
        have hS := fun w => rcheck_any (L.getD k (0, 0)).1 (L.getD k (0, 0)).2 w hwk.1
        have hS0 : ∀ w, Calls Tryd.prog 63 #[.agg #[.int .u8 (L.getD k (0, 0)).1, .int .u32 (L.getD k (0, 0)).2]] w fun e w' => e = .returned (.int .i64 0) ∧ Below w.heap.size w w' := fun w => by
          have := hS w; rw [her] at this; exact this
        have hZ := fun w => rsize_ok (L.getD k (0, 0)) w hwk.1 hk1
        have hW4 := opWi_le (L.getD k (0, 0)).1
        rw [show enc1 (L.getD k (0, 0)) = ((L.getD k (0, 0)).1 : Int) :: nb (opWi (L.getD k (0, 0)).1) (L.getD k (0, 0)).2 from rfl] at HT
        clear hk1 her HO hS
        generalize (L.getD k (0, 0)).1 = op at *
        generalize (L.getD k (0, 0)).2 = arg at *
        generalize opWi op = wi at *
        generalize hEE : encF (L.take k) = E at *
        clear hEE
        have HWK := hid_of hwk
        clear hwk
        go_wp2_with (first
          | (go_at_call 63; with_reducible refine (hS0 _).mono ?_; rintro e w1 ⟨rfl, hq1⟩; obtain ⟨y0, y1⟩ := hcW _ hq1)
          | (at_builtin; refine wpList_append_lies _ rfl _ _ 80 rfl w.heap.size 5 i0 (.int .u8 0) 1 1 Tryd.underlying80 hi hz0 hz1 hz2 rfl (by decide) _ _ _ rfl ((own_below hown hq1).alloc _) ⟨_, 0, none⟩ 1 1 [.int .u8 op] rfl rfl ?d1 ?d2 (by decide) ?d3 ?d4 ?d5 _ rfl ?_))
        case d1 =>
          intro j u hj
          match j, hj with
          | 0, hj => simp at hj; subst hj; simp [Addr.add]
        case d2 => intro u hu; simp at hu; subst hu; rfl
        case d3 => unfold maxLen; omega
        case d4 => omega
        case d5 => have := hq1.size; simp; omega
        intro g c2 w2 own2 hg2 hgr hgl
        have hbv : some b ≠ (u5 : Value).ownBlock := by
          intro e; have := (hown.lt b e.symm).1; omega
        have z0 : w2.cell? ⟨b, off + k * 2, none⟩ = some (.int .u8 op) := hg2.cell (by rw [World.cell?_alloc_old _ _ _ (by show b ≠ w1.heap.size; have := hq1.size; omega)]; exact y0) hbv
        have z1 : w2.cell? ⟨b, off + k * 2 + 1, none⟩ = some (.int .u32 arg) := hg2.cell (by rw [World.cell?_alloc_old _ _ _ (by show b ≠ w1.heap.size; have := hq1.size; omega)]; exact y1) hbv
        have R2 : Below w.heap.size w w2 := grown_below (bt hb hq1) (bt hb hq1).size (own_below hown hq1) hg2
        clear hg2 hgr hgl hown hq1 y0 y1 hc0 hc1 hcW hS0
        go_wp2_with (go_at_call 64; with_reducible refine (hZ _).mono ?_; rintro e w3 ⟨rfl, hq3⟩)
        have R3 := bt R2 hq3
        have own3 := own_below own2 hq3
        clear own2 hq3 z0 z1 R2 hZ
        go_loopw [5, 8, 10] (fun v x i wr => ∃ (j X : Nat), j ≤ wi ∧ X = arg / 256 ^ j ∧ i = .int .i64 (1 + (j : Int)) ∧ x = .int .u32 X ∧ wr.ownsRow w.heap.size 5 1 v (E.length + 1 + j) (bv (E ++ (op : Int) :: nb j (arg : Int))) ∧ Below w.heap.size w wr)
          (fun _ _ i _ => 1 + wi - (intOf i).toNat)
        case atStart => exact ⟨0, arg, Nat.zero_le _, by simp, rfl, rfl, by simpa [bv, nb] using own3, R3⟩
        case round =>
          clear own3 R3 hb
          obtain ⟨j, X, hj, hX, rfl, rfl, hown, hb⟩ := hrel
          have hB0 := hb.size
          by_cases hlt2 : j < wi
          · have hXl : X < 4294967296 := by rw [hX]; exact Nat.lt_of_le_of_lt (Nat.div_le_self _ _) HWK.out.2
            have hXI : (X : Int) < 4294967296 := by omega
            have HX2 : Hid (X / 256 = arg / 256 ^ (j + 1)) := by rw [Hid, hX, Nat.div_div_eq_div_mul, Nat.pow_succ]
            have HNB : Hid (nb (j + 1) (arg : Int) = nb j (arg : Int) ++ [(X : Int) % 256]) := by
              rw [Hid, nb_snoc, hX]; simp
            have q1 : (1 : Int) + (j : Int) < 1 + (wi : Int) := by omega
            clear hX hXl
            go_wp2_with (at_builtin; refine wpList_append_own _ rfl _ _ 80 rfl w.heap.size 5 i0 (.int .u8 0) 1 1 Tryd.underlying80 hi hz0 hz1 hz2 rfl (by decide) _ _ _ rfl (hown.alloc _) ⟨_, 0, none⟩ 1 1 [.int .u8 ((X : Int) % 256)] rfl rfl ?f1 ?f2 ?f3 ?f4 ?f5 ?_)
            case f1 =>
              intro j u hj
              match j, hj with
              | 0, hj => simp at hj; subst hj; simp [Addr.add]
            case f2 => intro u hu; simp at hu; subst hu; rfl
            case f3 => unfold maxLen; omega
            case f4 => omega
            case f5 => simp; omega
            intro v' w5 own5 hg5 _
            have R5 : Below w.heap.size w w5 := grown_below hb hB0 hown hg5
            have own6 : w5.ownsRow w.heap.size 5 1 v' (E.length + 1 + (j + 1)) (bv (E ++ (op : Int) :: nb (j + 1) (arg : Int))) := by
              rw [HNB.out]
              have e1 : bv (E ++ (op : Int) :: (nb j (arg : Int) ++ [(X : Int) % 256])) = bv (E ++ (op : Int) :: nb j (arg : Int)) ++ [.int .u8 ((X : Int) % 256)] := by simp [bv]
              rw [e1]; exact own5
            clear own5 hg5 hown hb
            go_wp2
            go_roundw
            case rel => exact ⟨j + 1, X / 256, by omega, HX2.out, by go_num, by go_num, own6, R5⟩
            case measure => simp [intOf]; omega
          · obtain rfl : j = wi := by omega
            have q1 : ¬ (1 : Int) + (j : Int) < 1 + (j : Int) := by omega
            have own7 := own_len hown (show E.length + 1 + j = (E ++ (op : Int) :: nb j (arg : Int)).length by simp [nb_len]; omega)
            clear hown hX
            go_wp2
            go_roundw
            case rel => exact ⟨k + 1, by omega, by go_num, by rw [HT.out]; exact own7, hb, HO1.out⟩
            case measure => simp [intOf]; omega
    · obtain rfl : k = L.length := by omega
      have HE : Hid (encB L = encF L ∧ encI L = 0 ∧ encX L = 0) := enc_ok L HO.out HL.out
      rw [List.take_length] at hown
      clear HO HL
      go_wp2
      refine bodyPost_ret (results_tmp3 rfl _ _ _) rfl ?_
      obtain ⟨e1, e2, e3⟩ := HE.out
      refine ⟨_, ?_, by rw [e1]; exact hown, hb⟩
      rw [e2, e3]; rfl
end Go.Proofs.YtihnkeflcnndpaaDoor
