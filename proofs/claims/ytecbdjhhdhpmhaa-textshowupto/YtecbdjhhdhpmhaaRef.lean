import Derived.Test.YtecbdjhhdhpmhaaShow
namespace Go.Proofs.Ytecbdjhhdhpmhaa
open Go.RowKit

set_option maxHeartbeats 400000 in
theorem nibble_any (x : Int) (w : World) (h0 : 0 ≤ x) (h1 : x < 16) :
    Calls Try.prog 20 #[.int .u8 x] w fun e w' => e = .returned (.int .u8 (hexd x)) ∧ w' = w := by
  by_cases h : x < 10
  · go_enter Try.func20, Try.ntmps20
    go_wp2
    go_ret
    exact ⟨ret_int (by simp [hexd, h]), rfl⟩
  · go_enter Try.func20, Try.ntmps20
    go_wp2
    go_ret
    exact ⟨ret_int (by simp [hexd, h]), rfl⟩

set_option maxHeartbeats 1000000 in
theorem rshow_any (ao : Option Addr) (cap : Nat) (zs : List Int) (w : World) (hn : zs.length ≤ 1048576) (hwf : ∀ z ∈ zs, 0 ≤ z ∧ z ≤ 255) (hr : Reads w ao zs w.heap.size) :
    Calls Try.prog 9 #[.slice ao zs.length cap] w fun e w' => e = .returned (.string (strOfNums (sh zs zs.length ++ [34]))) ∧ Below w.heap.size w w' := by
  obtain ⟨i0, hi, hz0, hz1, hz2⟩ := info_parts Try.info5
  go_enter Try.func9, Try.ntmps9
  go_wp2
  go_loopw [3, 4] (fun v i wr => ∃ k : Nat, k ≤ zs.length ∧ i = .int .i64 k ∧ wr.ownsRow w.heap.size 5 1 v (sh zs k).length (bv (sh zs k)) ∧ Below w.heap.size w wr)
    (fun _ i _ => zs.length - (intOf i).toNat)
  case atStart => exact ⟨0, Nat.zero_le _, rfl, World.ownsRow_lit w #[.int .u8 34] 1 (Nat.le_refl _) (by decide) rfl, (Below.refl _ _).alloc (Nat.le_refl _) _⟩
  case round =>
    obtain ⟨k, hk, rfl, hown, hb⟩ := hrel
    have hsl := sh_len zs k
    have hB := hb.size
    by_cases hlt : k < zs.length
    · obtain ⟨b, off, rfl, hbl, hc⟩ := (hr.below hb) (by omega)
      have hck := hc k hlt
      clear hc
      have hts := take_snoc zs k hlt
      have hcw : 0 ≤ zs.getD k 0 ∧ zs.getD k 0 ≤ 255 := hwf _ (by simp [List.getD, List.getElem?_eq_getElem hlt])
      generalize zs.getD k 0 = c at hck hts hcw
      have HS : Hid (zs.take (k + 1) = zs.take k ++ [c]) := hts
      obtain ⟨hc0, hc1⟩ := hcw
      clear hts
      by_cases e10 : c = 10
      · subst e10
        go_wp2_with (at_builtin; refine wpList_append_own _ rfl _ _ 22 rfl w.heap.size 5 i0 (.int .u8 0) 1 1 Try.underlying22 hi hz0 hz1 hz2 rfl (by decide) _ _ _ rfl (hown.alloc _) ⟨_, 0, none⟩ 2 2 [.int .u8 (92), .int .u8 (110)] rfl rfl ?s0x1 ?s0x2 ?s0x3 ?s0x4 ?s0x5 ?_)
        case s0x1 =>
          intro j u hj
          match j, hj with
          | 0, hj => simp at hj; subst hj; first | (simp [Addr.add]; done) | (simp [Addr.add]; rfl)
          | 1, hj => simp at hj; subst hj; first | (simp [Addr.add]; done) | (simp [Addr.add]; rfl)
          | (j + 2), hj => simp at hj
        case s0x2 => intro u hu; simp at hu; rcases hu with rfl | rfl <;> rfl
        case s0x3 => unfold maxLen; omega
        case s0x4 => omega
        case s0x5 => simp; omega
        intro v' w1 hown' hgrow _
        have R1 := own_app (news := [92, 110]) (sh_succ zs k _ HS.out |>.trans (by rw [show esc 10 = [92, 110] from by decide])) rfl rfl hown'
        have R2 := grown_below hb hB hown hgrow
        clear hown' hgrow hown hck
        go_wp2
        go_roundw
        case rel => exact ⟨k + 1, by omega, by go_num, R1, R2⟩
        case measure => simp [intOf]; omega
      by_cases e9 : c = 9
      · subst e9
        go_wp2_with (at_builtin; refine wpList_append_own _ rfl _ _ 22 rfl w.heap.size 5 i0 (.int .u8 0) 1 1 Try.underlying22 hi hz0 hz1 hz2 rfl (by decide) _ _ _ rfl (hown.alloc _) ⟨_, 0, none⟩ 2 2 [.int .u8 (92), .int .u8 (116)] rfl rfl ?s1x1 ?s1x2 ?s1x3 ?s1x4 ?s1x5 ?_)
        case s1x1 =>
          intro j u hj
          match j, hj with
          | 0, hj => simp at hj; subst hj; first | (simp [Addr.add]; done) | (simp [Addr.add]; rfl)
          | 1, hj => simp at hj; subst hj; first | (simp [Addr.add]; done) | (simp [Addr.add]; rfl)
          | (j + 2), hj => simp at hj
        case s1x2 => intro u hu; simp at hu; rcases hu with rfl | rfl <;> rfl
        case s1x3 => unfold maxLen; omega
        case s1x4 => omega
        case s1x5 => simp; omega
        intro v' w1 hown' hgrow _
        have R1 := own_app (news := [92, 116]) (sh_succ zs k _ HS.out |>.trans (by rw [show esc 9 = [92, 116] from by decide])) rfl rfl hown'
        have R2 := grown_below hb hB hown hgrow
        clear hown' hgrow hown hck
        go_wp2
        go_roundw
        case rel => exact ⟨k + 1, by omega, by go_num, R1, R2⟩
        case measure => simp [intOf]; omega
      by_cases e13 : c = 13
      · subst e13
        go_wp2_with (at_builtin; refine wpList_append_own _ rfl _ _ 22 rfl w.heap.size 5 i0 (.int .u8 0) 1 1 Try.underlying22 hi hz0 hz1 hz2 rfl (by decide) _ _ _ rfl (hown.alloc _) ⟨_, 0, none⟩ 2 2 [.int .u8 (92), .int .u8 (114)] rfl rfl ?s2x1 ?s2x2 ?s2x3 ?s2x4 ?s2x5 ?_)
        case s2x1 =>
          intro j u hj
          match j, hj with
          | 0, hj => simp at hj; subst hj; first | (simp [Addr.add]; done) | (simp [Addr.add]; rfl)
          | 1, hj => simp at hj; subst hj; first | (simp [Addr.add]; done) | (simp [Addr.add]; rfl)
          | (j + 2), hj => simp at hj
        case s2x2 => intro u hu; simp at hu; rcases hu with rfl | rfl <;> rfl
        case s2x3 => unfold maxLen; omega
        case s2x4 => omega
        case s2x5 => simp; omega
        intro v' w1 hown' hgrow _
        have R1 := own_app (news := [92, 114]) (sh_succ zs k _ HS.out |>.trans (by rw [show esc 13 = [92, 114] from by decide])) rfl rfl hown'
        have R2 := grown_below hb hB hown hgrow
        clear hown' hgrow hown hck
        go_wp2
        go_roundw
        case rel => exact ⟨k + 1, by omega, by go_num, R1, R2⟩
        case measure => simp [intOf]; omega
      by_cases e0 : c = 0
      · subst e0
        go_wp2_with (at_builtin; refine wpList_append_own _ rfl _ _ 22 rfl w.heap.size 5 i0 (.int .u8 0) 1 1 Try.underlying22 hi hz0 hz1 hz2 rfl (by decide) _ _ _ rfl (hown.alloc _) ⟨_, 0, none⟩ 2 2 [.int .u8 (92), .int .u8 (48)] rfl rfl ?s3x1 ?s3x2 ?s3x3 ?s3x4 ?s3x5 ?_)
        case s3x1 =>
          intro j u hj
          match j, hj with
          | 0, hj => simp at hj; subst hj; first | (simp [Addr.add]; done) | (simp [Addr.add]; rfl)
          | 1, hj => simp at hj; subst hj; first | (simp [Addr.add]; done) | (simp [Addr.add]; rfl)
          | (j + 2), hj => simp at hj
        case s3x2 => intro u hu; simp at hu; rcases hu with rfl | rfl <;> rfl
        case s3x3 => unfold maxLen; omega
        case s3x4 => omega
        case s3x5 => simp; omega
        intro v' w1 hown' hgrow _
        have R1 := own_app (news := [92, 48]) (sh_succ zs k _ HS.out |>.trans (by rw [show esc 0 = [92, 48] from by decide])) rfl rfl hown'
        have R2 := grown_below hb hB hown hgrow
        clear hown' hgrow hown hck
        go_wp2
        go_roundw
        case rel => exact ⟨k + 1, by omega, by go_num, R1, R2⟩
        case measure => simp [intOf]; omega
      by_cases e34 : c = 34
      · subst e34
        go_wp2_with (at_builtin; refine wpList_append_own _ rfl _ _ 22 rfl w.heap.size 5 i0 (.int .u8 0) 1 1 Try.underlying22 hi hz0 hz1 hz2 rfl (by decide) _ _ _ rfl (hown.alloc _) ⟨_, 0, none⟩ 2 2 [.int .u8 (92), .int .u8 (34)] rfl rfl ?s4x1 ?s4x2 ?s4x3 ?s4x4 ?s4x5 ?_)
        case s4x1 =>
          intro j u hj
          match j, hj with
          | 0, hj => simp at hj; subst hj; first | (simp [Addr.add]; done) | (simp [Addr.add]; rfl)
          | 1, hj => simp at hj; subst hj; first | (simp [Addr.add]; done) | (simp [Addr.add]; rfl)
          | (j + 2), hj => simp at hj
        case s4x2 => intro u hu; simp at hu; rcases hu with rfl | rfl <;> rfl
        case s4x3 => unfold maxLen; omega
        case s4x4 => omega
        case s4x5 => simp; omega
        intro v' w1 hown' hgrow _
        have R1 := own_app (news := [92, 34]) (sh_succ zs k _ HS.out |>.trans (by rw [show esc 34 = [92, 34] from by decide])) rfl rfl hown'
        have R2 := grown_below hb hB hown hgrow
        clear hown' hgrow hown hck
        go_wp2
        go_roundw
        case rel => exact ⟨k + 1, by omega, by go_num, R1, R2⟩
        case measure => simp [intOf]; omega
      by_cases e92 : c = 92
      · subst e92
        go_wp2_with (at_builtin; refine wpList_append_own _ rfl _ _ 22 rfl w.heap.size 5 i0 (.int .u8 0) 1 1 Try.underlying22 hi hz0 hz1 hz2 rfl (by decide) _ _ _ rfl (hown.alloc _) ⟨_, 0, none⟩ 2 2 [.int .u8 (92), .int .u8 (92)] rfl rfl ?s5x1 ?s5x2 ?s5x3 ?s5x4 ?s5x5 ?_)
        case s5x1 =>
          intro j u hj
          match j, hj with
          | 0, hj => simp at hj; subst hj; first | (simp [Addr.add]; done) | (simp [Addr.add]; rfl)
          | 1, hj => simp at hj; subst hj; first | (simp [Addr.add]; done) | (simp [Addr.add]; rfl)
          | (j + 2), hj => simp at hj
        case s5x2 => intro u hu; simp at hu; rcases hu with rfl | rfl <;> rfl
        case s5x3 => unfold maxLen; omega
        case s5x4 => omega
        case s5x5 => simp; omega
        intro v' w1 hown' hgrow _
        have R1 := own_app (news := [92, 92]) (sh_succ zs k _ HS.out |>.trans (by rw [show esc 92 = [92, 92] from by decide])) rfl rfl hown'
        have R2 := grown_below hb hB hown hgrow
        clear hown' hgrow hown hck
        go_wp2
        go_roundw
        case rel => exact ⟨k + 1, by omega, by go_num, R1, R2⟩
        case measure => simp [intOf]; omega
      by_cases hp : 32 ≤ c ∧ c ≤ 126
      · obtain ⟨hp1, hp2⟩ := hp
        have HE : Hid (esc c = [c]) := by unfold esc; simp [e10, e9, e13, e0, e34, e92, hp1, hp2, Hid]
        go_wp2_with (at_builtin; refine wpList_append_own _ rfl _ _ 22 rfl w.heap.size 5 i0 (.int .u8 0) 1 1 Try.underlying22 hi hz0 hz1 hz2 rfl (by decide) _ _ _ rfl (hown.alloc _) ⟨_, 0, none⟩ 1 1 [.int .u8 (c)] rfl rfl ?p1 ?p2 ?p3 ?p4 ?p5 ?_)
        case p1 =>
          intro j u hj
          match j, hj with
          | 0, hj => simp at hj; subst hj; first | (simp [Addr.add]; done) | (simp [Addr.add]; rfl)
          | (j + 1), hj => simp at hj
        case p2 => intro u hu; simp at hu; subst hu; rfl
        case p3 => unfold maxLen; omega
        case p4 => omega
        case p5 => simp; omega
        intro v' w1 hown' hgrow _
        have R1 := own_app (news := [c]) (sh_succ zs k _ HS.out |>.trans (by rw [show esc c = [c] from HE.out])) rfl rfl hown'
        have R2 := grown_below hb hB hown hgrow
        clear hown' hgrow hown hck
        go_wp2
        go_roundw
        case rel => exact ⟨k + 1, by omega, by go_num, R1, R2⟩
        case measure => simp [intOf]; omega
      · have HE : Hid (esc c = [92, 120, hexd (c / 16), hexd (c % 16)]) := by unfold esc; simp [e10, e9, e13, e0, e34, e92, hp, Hid]
        by_cases hp1 : 32 ≤ c
        · have hp2 : 126 < c := by omega
          clear hp
          go_wp2_with (first | (go_at_call 20; refine (nibble_any _ _ (by omega) (by omega)).mono ?_; rintro e w' ⟨rfl, rfl⟩) | (at_builtin; refine wpList_append_own _ rfl _ _ 22 rfl w.heap.size 5 i0 (.int .u8 0) 1 1 Try.underlying22 hi hz0 hz1 hz2 rfl (by decide) _ _ _ rfl (hown.alloc _) ⟨_, 0, none⟩ 4 4 [.int .u8 (92), .int .u8 (120), .int .u8 (hexd (c / 16)), .int .u8 (hexd (c % 16))] rfl rfl ?g1 ?g2 ?g3 ?g4 ?g5 ?_))
          case g1 =>
            intro j u hj
            match j, hj with
            | 0, hj => simp at hj; subst hj; first | (simp [Addr.add]; done) | (simp [Addr.add]; rfl)
            | 1, hj => simp at hj; subst hj; first | (simp [Addr.add]; done) | (simp [Addr.add]; rfl)
            | 2, hj => simp at hj; subst hj; first | (simp [Addr.add]; done) | (simp [Addr.add]; rfl)
            | 3, hj => simp at hj; subst hj; first | (simp [Addr.add]; done) | (simp [Addr.add]; rfl)
            | (j + 4), hj => simp at hj
          case g2 => intro u hu; simp at hu; rcases hu with rfl | rfl | rfl | rfl <;> rfl
          case g3 => unfold maxLen; omega
          case g4 => omega
          case g5 => simp; omega
          intro v' w1 hown' hgrow _
          have R1 := own_app (news := [92, 120, hexd (c / 16), hexd (c % 16)]) (sh_succ zs k _ HS.out |>.trans (by rw [show esc c = [92, 120, hexd (c / 16), hexd (c % 16)] from HE.out])) rfl rfl hown'
          have R2 := grown_below hb hB hown hgrow
          clear hown' hgrow hown hck
          go_wp2
          go_roundw
          case rel => exact ⟨k + 1, by omega, by go_num, R1, R2⟩
          case measure => simp [intOf]; omega
        · have hp2 : c < 32 := by omega
          clear hp
          go_wp2_with (first | (go_at_call 20; refine (nibble_any _ _ (by omega) (by omega)).mono ?_; rintro e w' ⟨rfl, rfl⟩) | (at_builtin; refine wpList_append_own _ rfl _ _ 22 rfl w.heap.size 5 i0 (.int .u8 0) 1 1 Try.underlying22 hi hz0 hz1 hz2 rfl (by decide) _ _ _ rfl (hown.alloc _) ⟨_, 0, none⟩ 4 4 [.int .u8 (92), .int .u8 (120), .int .u8 (hexd (c / 16)), .int .u8 (hexd (c % 16))] rfl rfl ?l1 ?l2 ?l3 ?l4 ?l5 ?_))
          case l1 =>
            intro j u hj
            match j, hj with
            | 0, hj => simp at hj; subst hj; first | (simp [Addr.add]; done) | (simp [Addr.add]; rfl)
            | 1, hj => simp at hj; subst hj; first | (simp [Addr.add]; done) | (simp [Addr.add]; rfl)
            | 2, hj => simp at hj; subst hj; first | (simp [Addr.add]; done) | (simp [Addr.add]; rfl)
            | 3, hj => simp at hj; subst hj; first | (simp [Addr.add]; done) | (simp [Addr.add]; rfl)
            | (j + 4), hj => simp at hj
          case l2 => intro u hu; simp at hu; rcases hu with rfl | rfl | rfl | rfl <;> rfl
          case l3 => unfold maxLen; omega
          case l4 => omega
          case l5 => simp; omega
          intro v' w1 hown' hgrow _
          have R1 := own_app (news := [92, 120, hexd (c / 16), hexd (c % 16)]) (sh_succ zs k _ HS.out |>.trans (by rw [show esc c = [92, 120, hexd (c / 16), hexd (c % 16)] from HE.out])) rfl rfl hown'
          have R2 := grown_below hb hB hown hgrow
          clear hown' hgrow hown hck
          go_wp2
          go_roundw
          case rel => exact ⟨k + 1, by omega, by go_num, R1, R2⟩
          case measure => simp [intOf]; omega
    · go_wp2_with (at_builtin; refine wpList_append_lies _ rfl _ _ 22 rfl w.heap.size 5 i0 (.int .u8 0) 1 1 Try.underlying22 hi hz0 hz1 hz2 rfl (by decide) _ _ _ rfl (hown.alloc _) ⟨_, 0, none⟩ 1 1 [.int .u8 34] rfl rfl ?z1 ?z2 (by decide) ?z3 ?z4 ?z5 (wr.heap.size + 1) (by simp) ?_)
      case z1 =>
        intro j u hj
        match j, hj with
        | 0, hj => simp at hj; subst hj; simp [Addr.add]
        | (j + 1), hj => simp at hj
      case z2 => intro u hu; simp at hu; subst hu; rfl
      case z3 => unfold maxLen; omega
      case z4 => omega
      case z5 => simp; omega
      intro g cap' w1 hown' hgrow hat hlt1
      obtain rfl : k = zs.length := by omega
      have R2 := grown_below hb hB hown hgrow
      have R1 := own_app (M := sh zs zs.length ++ [34]) (news := [34]) rfl rfl rfl hown'
      have hcv := run_convert_bytes_arg (P := Try.prog) w1 22 5 Try.underlying22 Try.underlying5 g 0 ((sh zs zs.length).length + 1) cap' (sh zs zs.length ++ [34]) (by simp) (fun i hi => own_cell R1 (by simpa using hi)) 9 Try.underlying9
      clear hown' hgrow hown
      go_wp2
      go_ret
      exact ⟨rfl, R2⟩
end Go.Proofs.Ytecbdjhhdhpmhaa
