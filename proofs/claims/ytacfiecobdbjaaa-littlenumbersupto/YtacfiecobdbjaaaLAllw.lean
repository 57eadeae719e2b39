import Derived.Test.YtacfiecobdbjaaaLAll
namespace Go.Proofs.Ytacfiecobdbjaaa
open Go.RowKit

theorem own_getK {w1 : World} {B e g n cap : Nat} {k : IntKind} {L : List Int} (h : w1.ownsRow B e 1 (.slice (some ⟨g, 0, none⟩) n cap) n (bk k L)) {i : Nat} (hi : i < L.length) : w1.cell? ⟨g, i, none⟩ = some (.int k (L.getD i 0)) := by
  have := h.cells (g := g) rfl i (.int k (L.getD i 0)) (by simp [bk, List.getD, List.getElem?_eq_getElem hi])
  have hadd : (⟨g, 0, none⟩ : Addr).add i = ⟨g, 0 + i, none⟩ := by unfold Addr.add; split <;> simp_all
  rw [hadd, Nat.zero_add] at this; exact this
theorem apart_new {w : World} {B e n H g : Nat} {vc v : Value} {xs : List Value} (hc : w.ownsRow B e 1 vc n xs) (hH : w.heap.size ≤ H) (hap : vc.ownBlock = none ∨ vc.ownBlock ≠ v.ownBlock) (hor : v.ownBlock = some g ∨ g = H) : vc.ownBlock = none ∨ vc.ownBlock ≠ some g := by
  rcases hor with h | h
  · rw [← h]; exact hap
  · right
    intro e
    have := (hc.lt g e).2
    omega
theorem own_form0 {w : World} {B e sz : Nat} {v : Value} {n : Nat} {xs : List Value} (h : w.ownsRow B e sz v n xs) : ∃ a c, v = .slice a n c := by
  rcases h.2 with ⟨rfl, hz⟩ | ⟨g, cap, cur, rfl, _⟩
  · exact ⟨none, 0, by rw [hz]⟩
  · exact ⟨_, _, rfl⟩
theorem own_pos {w : World} {B e sz : Nat} {a : Option Addr} {n c : Nat} {xs : List Value} (h : w.ownsRow B e sz (.slice a n c) n xs) (hn : 0 < n) : ∃ g, a = some ⟨g, 0, none⟩ := by
  rcases h.2 with ⟨_, hz⟩ | ⟨g, cap, cur, e, _⟩
  · omega
  · simp only [Value.slice.injEq] at e; exact ⟨g, e.1⟩

set_option maxRecDepth 100000 in
set_option maxHeartbeats 4000000 in
theorem allw_u8 (ao : Option Addr) (n cap : Nat) (L : List Int) (er : Int) (W : World) (hL : L.length ≤ 16777216) (hrg : ∀ x ∈ L, 0 ≤ x ∧ x < 256)
    (HA : ∀ W', Below W.heap.size W W' → Calls Try.prog 37 #[.slice ao n cap] W' fun e w' => ∃ v, e = .returned (.tuple #[v, .int .i64 er]) ∧ w'.ownsRow W'.heap.size 5 1 v L.length (bk .u8 L) ∧ Below W'.heap.size W' w') :
    Calls Try.prog 20 #[.int .i64 1, .slice ao n cap] W fun e w' => ∃ v, e = .returned (.tuple #[v, .int .i64 er]) ∧ w'.ownsRow W.heap.size 27 1 v L.length (bk .u64 L) ∧ Below W.heap.size W w' := by
  obtain ⟨i0, hi, hz0, hz1, hz2⟩ := info_parts Try.info_u8
  obtain ⟨j0, hj, hy0, hy1, hy2⟩ := info_parts Try.infoQ
  go_enter Try.func20, Try.ntmps20
  go_wp2_with fail
  with_reducible refine (HA W (Below.refl _ _)).mono ?_
  rintro e w1 ⟨va, rfl, owna, hb1⟩
  have hz1' := hb1.size
  go_wp2_with fail
  with_reducible refine (HA w1 hb1).mono ?_
  rintro e w2 ⟨vc, rfl, ownc, hb2⟩
  have owna2 := own_below owna hb2
  have hb12 := hb1.trans (hb2.mono hz1')
  obtain ⟨a1, ca1, rfl⟩ := own_form0 owna
  obtain ⟨a2, ca2, rfl⟩ := own_form0 ownc
  have hap : (Value.slice a2 L.length ca2).ownBlock = none ∨ (Value.slice a2 L.length ca2).ownBlock ≠ (Value.slice a1 L.length ca1).ownBlock := by
    cases hq : (Value.slice a2 L.length ca2).ownBlock with
    | none => exact .inl rfl
    | some g =>
      right
      intro e
      have h1 := (ownc.lt g hq).1
      have h2 := (owna.lt g e.symm).2
      omega
  have HAP : Hid ((Value.slice a2 L.length ca2).ownBlock = none ∨ (Value.slice a2 L.length ca2).ownBlock ≠ (Value.slice a1 L.length ca1).ownBlock) := hap
  clear hap owna HA hb1 hb2
  go_wp2_with fail
  go_loopw [11] (fun i wr => ∃ (k : Nat) (M : List Int), k ≤ L.length ∧ i = .int .i64 k ∧ M.length = L.length ∧ wr.ownsRow W.heap.size 5 1 (.slice a1 L.length ca1) L.length (bk .u8 M) ∧ wr.ownsRow w1.heap.size 5 1 (.slice a2 L.length ca2) L.length (bk .u8 L) ∧ Below W.heap.size W wr)
    (fun i _ => L.length - (intOf i).toNat)
  case atStart => exact ⟨0, L, Nat.zero_le _, rfl, rfl, owna2, ownc, hb12⟩
  case round =>
    clear owna2 ownc hb12
    obtain ⟨k, M, hk, rfl, hM, owna, ownc, hb⟩ := hrel
    have HM : Hid (M.length = L.length) := hM
    clear hM
    by_cases hlt : k < L.length
    · obtain ⟨g, rfl⟩ := own_pos owna (by omega)
      have hck := own_getK owna (i := k) (by rw [HM.out]; exact hlt)
      have hfk := owna.frozenAt k
      have R := owna.stored k (.int .u8 91)
      have hlo := (owna.lt g rfl).1
      have hcn := ownc.kept R.2 (by have := HAP.out; simpa [Value.ownBlock] using this)
      rw [show (bk .u8 M).set k (.int .u8 91) = bk .u8 (M.set k 91) by simp [bk, List.map_set]] at R
      have hbn := hb.setCell (p := ⟨g, k, none⟩) hlo (.int .u8 91)
      generalize M.getD k 0 = c at hck
      clear owna ownc
      go_wp2_with fail
      go_roundw
      case rel => exact ⟨k + 1, M.set k 91, by omega, by go_num, by rw [List.length_set]; exact HM.out, R.1, hcn, hbn⟩
      case measure => simp [intOf]; omega
    · go_wp2_with fail
      go_loopw [7, 12] (fun va i wr => ∃ (j : Nat) (M : List Value), j ≤ 64 ∧ i = .int .i64 j ∧ wr.ownsRow W.heap.size 5 1 va (L.length + j) M ∧ wr.ownsRow w1.heap.size 5 1 (.slice a2 L.length ca2) L.length (bk .u8 L) ∧ ((Value.slice a2 L.length ca2).ownBlock = none ∨ (Value.slice a2 L.length ca2).ownBlock ≠ va.ownBlock) ∧ Below W.heap.size W wr)
        (fun _ i _ => 64 - (intOf i).toNat)
      case atStart => exact ⟨0, _, by omega, rfl, owna, ownc, HAP.out, hb⟩
      case round =>
        clear owna ownc hb
        obtain ⟨j, M2, hj64, rfl, owna, ownc, hap2, hb⟩ := hrel
        have HAP2 : Hid ((Value.slice a2 L.length ca2).ownBlock = none ∨ (Value.slice a2 L.length ca2).ownBlock ≠ u7.ownBlock) := hap2
        clear hap2
        have hB := hb.size
        by_cases hlt2 : j < 64
        · go_wp2_with (at_builtin; refine wpList_append_lies _ rfl _ _ 26 rfl W.heap.size 5 i0 (.int .u8 0) 1 1 Try.underlying26 hi hz0 hz1 hz2 rfl (by decide) _ _ _ rfl (owna.alloc _) ⟨_, 0, none⟩ 1 1 [.int .u8 92] rfl rfl ?d1 ?d2 (by decide) ?d3 ?d4 ?d5 (wr.heap.size + 1) (by simp) ?_)
          case d1 =>
            intro j u hj
            match j, hj with
            | 0, hj => simp at hj; subst hj; simp [Addr.add]
          case d2 => intro u hu; simp at hu; subst hu; rfl
          case d3 => unfold maxLen; omega
          case d4 => omega
          case d5 => simp; omega
          intro g2 cap2 w5 hown' hgrow hor _
          have hcn := (ownc.alloc _).kept hgrow HAP2.out
          have HAN : Hid ((Value.slice a2 L.length ca2).ownBlock = none ∨ (Value.slice a2 L.length ca2).ownBlock ≠ some g2) := apart_new ownc (by omega) HAP2.out hor
          have R2 := grown_below hb hB owna hgrow
          clear hgrow owna ownc hor
          go_wp2_with fail
          go_roundw
          case rel => exact ⟨j + 1, _, by omega, by go_num, by rw [← Nat.add_assoc]; exact hown', hcn, HAN.out, R2⟩
          case measure => simp [intOf]; omega
        · clear owna HAP2
          go_wp2_with fail
          go_loopw [6, 13] (fun vo i wr => ∃ (k : Nat), k ≤ L.length ∧ i = .int .i64 k ∧ wr.ownsRow W.heap.size 27 1 vo k (bk .u64 (L.take k)) ∧ wr.ownsRow w1.heap.size 5 1 (.slice a2 L.length ca2) L.length (bk .u8 L) ∧ ((Value.slice a2 L.length ca2).ownBlock = none ∨ (Value.slice a2 L.length ca2).ownBlock ≠ vo.ownBlock) ∧ Below W.heap.size W wr)
            (fun _ i _ => L.length - (intOf i).toNat)
          case atStart => exact ⟨0, Nat.zero_le _, rfl, World.ownsRow_nil _ _ _ _, ownc, by cases hq : (Value.slice a2 L.length ca2).ownBlock <;> simp [Value.ownBlock], hb⟩
          case round =>
            clear ownc hb
            obtain ⟨k3, hk3, rfl, owno, ownc, hap3, hb⟩ := hrel
            have HAP3 : Hid ((Value.slice a2 L.length ca2).ownBlock = none ∨ (Value.slice a2 L.length ca2).ownBlock ≠ u6.ownBlock) := hap3
            clear hap3
            have hB3 := hb.size
            by_cases hlt3 : k3 < L.length
            · obtain ⟨g, rfl⟩ := own_pos ownc (by omega)
              have hck := own_getK ownc (i := k3) hlt3
              have hts := take_snoc L k3 hlt3
              have hxr := hrg _ (getD_mem hlt3)
              generalize L.getD k3 0 = x at hck hts hxr
              have HS : Hid (L.take (k3 + 1) = L.take k3 ++ [x]) := hts
              clear hts
              obtain ⟨x0, x1⟩ := hxr
              go_wp2_with (at_builtin; refine wpList_append_lies _ rfl _ _ 25 rfl W.heap.size 27 j0 (.int .u64 0) 1 8 Try.underlying25 hj hy0 hy1 hy2 rfl (by decide) _ _ _ rfl (owno.alloc _) ⟨_, 0, none⟩ 1 1 [.int .u64 x] rfl rfl ?f1 ?f2 (by decide) ?f3 ?f4 ?f5 (wr.heap.size + 1) (by simp) ?_)
              case f1 =>
                intro j u hj
                match j, hj with
                | 0, hj => simp at hj; subst hj; simp [Addr.add]
              case f2 => intro u hu; simp at hu; subst hu; rfl
              case f3 => unfold maxLen; omega
              case f4 => omega
              case f5 => simp; omega
              intro g2 cap2 w5 hown' hgrow hor _
              have hcn := (ownc.alloc _).kept hgrow HAP3.out
              have HAN : Hid ((Value.slice (some ⟨g, 0, none⟩) L.length ca2).ownBlock = none ∨ (Value.slice (some ⟨g, 0, none⟩) L.length ca2).ownBlock ≠ some g2) := apart_new ownc (by omega) HAP3.out hor
              have R1 := own_snocK HS.out hown'
              have R2 := grown_below hb hB3 owno hgrow
              clear hgrow owno ownc hown' hor
              go_wp2_with fail
              go_roundw
              case rel => exact ⟨k3 + 1, by omega, by go_num, R1, hcn, HAN.out, R2⟩
              case measure => simp [intOf]; omega
            · obtain rfl : k3 = L.length := by omega
              rw [List.take_length] at owno
              go_wp2_with fail
              go_ret2
              exact ⟨_, rfl, owno, hb⟩

set_option maxRecDepth 100000 in
set_option maxHeartbeats 4000000 in
theorem allw_u16 (ao : Option Addr) (n cap : Nat) (L : List Int) (er : Int) (W : World) (hL : L.length ≤ 16777216) (hrg : ∀ x ∈ L, 0 ≤ x ∧ x < 65536)
    (HA : ∀ W', Below W.heap.size W W' → Calls Try.prog 38 #[.slice ao n cap] W' fun e w' => ∃ v, e = .returned (.tuple #[v, .int .i64 er]) ∧ w'.ownsRow W'.heap.size 55 1 v L.length (bk .u16 L) ∧ Below W'.heap.size W' w') :
    Calls Try.prog 20 #[.int .i64 2, .slice ao n cap] W fun e w' => ∃ v, e = .returned (.tuple #[v, .int .i64 er]) ∧ w'.ownsRow W.heap.size 27 1 v L.length (bk .u64 L) ∧ Below W.heap.size W w' := by
  obtain ⟨i0, hi, hz0, hz1, hz2⟩ := info_parts Try.info_u16
  obtain ⟨j0, hj, hy0, hy1, hy2⟩ := info_parts Try.infoQ
  go_enter Try.func20, Try.ntmps20
  go_wp2_with fail
  with_reducible refine (HA W (Below.refl _ _)).mono ?_
  rintro e w1 ⟨va, rfl, owna, hb1⟩
  have hz1' := hb1.size
  go_wp2_with fail
  with_reducible refine (HA w1 hb1).mono ?_
  rintro e w2 ⟨vc, rfl, ownc, hb2⟩
  have owna2 := own_below owna hb2
  have hb12 := hb1.trans (hb2.mono hz1')
  obtain ⟨a1, ca1, rfl⟩ := own_form0 owna
  obtain ⟨a2, ca2, rfl⟩ := own_form0 ownc
  have hap : (Value.slice a2 L.length ca2).ownBlock = none ∨ (Value.slice a2 L.length ca2).ownBlock ≠ (Value.slice a1 L.length ca1).ownBlock := by
    cases hq : (Value.slice a2 L.length ca2).ownBlock with
    | none => exact .inl rfl
    | some g =>
      right
      intro e
      have h1 := (ownc.lt g hq).1
      have h2 := (owna.lt g e.symm).2
      omega
  have HAP : Hid ((Value.slice a2 L.length ca2).ownBlock = none ∨ (Value.slice a2 L.length ca2).ownBlock ≠ (Value.slice a1 L.length ca1).ownBlock) := hap
  clear hap owna HA hb1 hb2
  go_wp2_with fail
  go_loopw [18] (fun i wr => ∃ (k : Nat) (M : List Int), k ≤ L.length ∧ i = .int .i64 k ∧ M.length = L.length ∧ wr.ownsRow W.heap.size 55 1 (.slice a1 L.length ca1) L.length (bk .u16 M) ∧ wr.ownsRow w1.heap.size 55 1 (.slice a2 L.length ca2) L.length (bk .u16 L) ∧ Below W.heap.size W wr)
    (fun i _ => L.length - (intOf i).toNat)
  case atStart => exact ⟨0, L, Nat.zero_le _, rfl, rfl, owna2, ownc, hb12⟩
  case round =>
    clear owna2 ownc hb12
    obtain ⟨k, M, hk, rfl, hM, owna, ownc, hb⟩ := hrel
    have HM : Hid (M.length = L.length) := hM
    clear hM
    by_cases hlt : k < L.length
    · obtain ⟨g, rfl⟩ := own_pos owna (by omega)
      have hck := own_getK owna (i := k) (by rw [HM.out]; exact hlt)
      have hfk := owna.frozenAt k
      have R := owna.stored k (.int .u16 9191)
      have hlo := (owna.lt g rfl).1
      have hcn := ownc.kept R.2 (by have := HAP.out; simpa [Value.ownBlock] using this)
      rw [show (bk .u16 M).set k (.int .u16 9191) = bk .u16 (M.set k 9191) by simp [bk, List.map_set]] at R
      have hbn := hb.setCell (p := ⟨g, k, none⟩) hlo (.int .u16 9191)
      generalize M.getD k 0 = c at hck
      clear owna ownc
      go_wp2_with fail
      go_roundw
      case rel => exact ⟨k + 1, M.set k 9191, by omega, by go_num, by rw [List.length_set]; exact HM.out, R.1, hcn, hbn⟩
      case measure => simp [intOf]; omega
    · go_wp2_with fail
      go_loopw [14, 19] (fun va i wr => ∃ (j : Nat) (M : List Value), j ≤ 64 ∧ i = .int .i64 j ∧ wr.ownsRow W.heap.size 55 1 va (L.length + j) M ∧ wr.ownsRow w1.heap.size 55 1 (.slice a2 L.length ca2) L.length (bk .u16 L) ∧ ((Value.slice a2 L.length ca2).ownBlock = none ∨ (Value.slice a2 L.length ca2).ownBlock ≠ va.ownBlock) ∧ Below W.heap.size W wr)
        (fun _ i _ => 64 - (intOf i).toNat)
      case atStart => exact ⟨0, _, by omega, rfl, owna, ownc, HAP.out, hb⟩
      case round =>
        clear owna ownc hb
        obtain ⟨j, M2, hj64, rfl, owna, ownc, hap2, hb⟩ := hrel
        have HAP2 : Hid ((Value.slice a2 L.length ca2).ownBlock = none ∨ (Value.slice a2 L.length ca2).ownBlock ≠ u14.ownBlock) := hap2
        clear hap2
        have hB := hb.size
        by_cases hlt2 : j < 64
        · go_wp2_with (at_builtin; refine wpList_append_lies _ rfl _ _ 62 rfl W.heap.size 55 i0 (.int .u16 0) 1 2 Try.underlying62 hi hz0 hz1 hz2 rfl (by decide) _ _ _ rfl (owna.alloc _) ⟨_, 0, none⟩ 1 1 [.int .u16 9292] rfl rfl ?d1 ?d2 (by decide) ?d3 ?d4 ?d5 (wr.heap.size + 1) (by simp) ?_)
          case d1 =>
            intro j u hj
            match j, hj with
            | 0, hj => simp at hj; subst hj; simp [Addr.add]
          case d2 => intro u hu; simp at hu; subst hu; rfl
          case d3 => unfold maxLen; omega
          case d4 => omega
          case d5 => simp; omega
          intro g2 cap2 w5 hown' hgrow hor _
          have hcn := (ownc.alloc _).kept hgrow HAP2.out
          have HAN : Hid ((Value.slice a2 L.length ca2).ownBlock = none ∨ (Value.slice a2 L.length ca2).ownBlock ≠ some g2) := apart_new ownc (by omega) HAP2.out hor
          have R2 := grown_below hb hB owna hgrow
          clear hgrow owna ownc hor
          go_wp2_with fail
          go_roundw
          case rel => exact ⟨j + 1, _, by omega, by go_num, by rw [← Nat.add_assoc]; exact hown', hcn, HAN.out, R2⟩
          case measure => simp [intOf]; omega
        · clear owna HAP2
          go_wp2_with fail
          go_loopw [6, 20] (fun vo i wr => ∃ (k : Nat), k ≤ L.length ∧ i = .int .i64 k ∧ wr.ownsRow W.heap.size 27 1 vo k (bk .u64 (L.take k)) ∧ wr.ownsRow w1.heap.size 55 1 (.slice a2 L.length ca2) L.length (bk .u16 L) ∧ ((Value.slice a2 L.length ca2).ownBlock = none ∨ (Value.slice a2 L.length ca2).ownBlock ≠ vo.ownBlock) ∧ Below W.heap.size W wr)
            (fun _ i _ => L.length - (intOf i).toNat)
          case atStart => exact ⟨0, Nat.zero_le _, rfl, World.ownsRow_nil _ _ _ _, ownc, by cases hq : (Value.slice a2 L.length ca2).ownBlock <;> simp [Value.ownBlock], hb⟩
          case round =>
            clear ownc hb
            obtain ⟨k3, hk3, rfl, owno, ownc, hap3, hb⟩ := hrel
            have HAP3 : Hid ((Value.slice a2 L.length ca2).ownBlock = none ∨ (Value.slice a2 L.length ca2).ownBlock ≠ u6.ownBlock) := hap3
            clear hap3
            have hB3 := hb.size
            by_cases hlt3 : k3 < L.length
            · obtain ⟨g, rfl⟩ := own_pos ownc (by omega)
              have hck := own_getK ownc (i := k3) hlt3
              have hts := take_snoc L k3 hlt3
              have hxr := hrg _ (getD_mem hlt3)
              generalize L.getD k3 0 = x at hck hts hxr
              have HS : Hid (L.take (k3 + 1) = L.take k3 ++ [x]) := hts
              clear hts
              obtain ⟨x0, x1⟩ := hxr
              go_wp2_with (at_builtin; refine wpList_append_lies _ rfl _ _ 25 rfl W.heap.size 27 j0 (.int .u64 0) 1 8 Try.underlying25 hj hy0 hy1 hy2 rfl (by decide) _ _ _ rfl (owno.alloc _) ⟨_, 0, none⟩ 1 1 [.int .u64 x] rfl rfl ?f1 ?f2 (by decide) ?f3 ?f4 ?f5 (wr.heap.size + 1) (by simp) ?_)
              case f1 =>
                intro j u hj
                match j, hj with
                | 0, hj => simp at hj; subst hj; simp [Addr.add]
              case f2 => intro u hu; simp at hu; subst hu; rfl
              case f3 => unfold maxLen; omega
              case f4 => omega
              case f5 => simp; omega
              intro g2 cap2 w5 hown' hgrow hor _
              have hcn := (ownc.alloc _).kept hgrow HAP3.out
              have HAN : Hid ((Value.slice (some ⟨g, 0, none⟩) L.length ca2).ownBlock = none ∨ (Value.slice (some ⟨g, 0, none⟩) L.length ca2).ownBlock ≠ some g2) := apart_new ownc (by omega) HAP3.out hor
              have R1 := own_snocK HS.out hown'
              have R2 := grown_below hb hB3 owno hgrow
              clear hgrow owno ownc hown' hor
              go_wp2_with fail
              go_roundw
              case rel => exact ⟨k3 + 1, by omega, by go_num, R1, hcn, HAN.out, R2⟩
              case measure => simp [intOf]; omega
            · obtain rfl : k3 = L.length := by omega
              rw [List.take_length] at owno
              go_wp2_with fail
              go_ret2
              exact ⟨_, rfl, owno, hb⟩

set_option maxRecDepth 100000 in
set_option maxHeartbeats 4000000 in
theorem allw_u32 (ao : Option Addr) (n cap : Nat) (L : List Int) (er : Int) (W : World) (hL : L.length ≤ 16777216) (hrg : ∀ x ∈ L, 0 ≤ x ∧ x < 4294967296)
    (HA : ∀ W', Below W.heap.size W W' → Calls Try.prog 39 #[.slice ao n cap] W' fun e w' => ∃ v, e = .returned (.tuple #[v, .int .i64 er]) ∧ w'.ownsRow W'.heap.size 56 1 v L.length (bk .u32 L) ∧ Below W'.heap.size W' w') :
    Calls Try.prog 20 #[.int .i64 4, .slice ao n cap] W fun e w' => ∃ v, e = .returned (.tuple #[v, .int .i64 er]) ∧ w'.ownsRow W.heap.size 27 1 v L.length (bk .u64 L) ∧ Below W.heap.size W w' := by
  obtain ⟨i0, hi, hz0, hz1, hz2⟩ := info_parts Try.info_u32
  obtain ⟨j0, hj, hy0, hy1, hy2⟩ := info_parts Try.infoQ
  go_enter Try.func20, Try.ntmps20
  go_wp2_with fail
  with_reducible refine (HA W (Below.refl _ _)).mono ?_
  rintro e w1 ⟨va, rfl, owna, hb1⟩
  have hz1' := hb1.size
  go_wp2_with fail
  with_reducible refine (HA w1 hb1).mono ?_
  rintro e w2 ⟨vc, rfl, ownc, hb2⟩
  have owna2 := own_below owna hb2
  have hb12 := hb1.trans (hb2.mono hz1')
  obtain ⟨a1, ca1, rfl⟩ := own_form0 owna
  obtain ⟨a2, ca2, rfl⟩ := own_form0 ownc
  have hap : (Value.slice a2 L.length ca2).ownBlock = none ∨ (Value.slice a2 L.length ca2).ownBlock ≠ (Value.slice a1 L.length ca1).ownBlock := by
    cases hq : (Value.slice a2 L.length ca2).ownBlock with
    | none => exact .inl rfl
    | some g =>
      right
      intro e
      have h1 := (ownc.lt g hq).1
      have h2 := (owna.lt g e.symm).2
      omega
  have HAP : Hid ((Value.slice a2 L.length ca2).ownBlock = none ∨ (Value.slice a2 L.length ca2).ownBlock ≠ (Value.slice a1 L.length ca1).ownBlock) := hap
  clear hap owna HA hb1 hb2
  go_wp2_with fail
  go_loopw [25] (fun i wr => ∃ (k : Nat) (M : List Int), k ≤ L.length ∧ i = .int .i64 k ∧ M.length = L.length ∧ wr.ownsRow W.heap.size 56 1 (.slice a1 L.length ca1) L.length (bk .u32 M) ∧ wr.ownsRow w1.heap.size 56 1 (.slice a2 L.length ca2) L.length (bk .u32 L) ∧ Below W.heap.size W wr)
    (fun i _ => L.length - (intOf i).toNat)
  case atStart => exact ⟨0, L, Nat.zero_le _, rfl, rfl, owna2, ownc, hb12⟩
  case round =>
    clear owna2 ownc hb12
    obtain ⟨k, M, hk, rfl, hM, owna, ownc, hb⟩ := hrel
    have HM : Hid (M.length = L.length) := hM
    clear hM
    by_cases hlt : k < L.length
    · obtain ⟨g, rfl⟩ := own_pos owna (by omega)
      have hck := own_getK owna (i := k) (by rw [HM.out]; exact hlt)
      have hfk := owna.frozenAt k
      have R := owna.stored k (.int .u32 919191)
      have hlo := (owna.lt g rfl).1
      have hcn := ownc.kept R.2 (by have := HAP.out; simpa [Value.ownBlock] using this)
      rw [show (bk .u32 M).set k (.int .u32 919191) = bk .u32 (M.set k 919191) by simp [bk, List.map_set]] at R
      have hbn := hb.setCell (p := ⟨g, k, none⟩) hlo (.int .u32 919191)
      generalize M.getD k 0 = c at hck
      clear owna ownc
      go_wp2_with fail
      go_roundw
      case rel => exact ⟨k + 1, M.set k 919191, by omega, by go_num, by rw [List.length_set]; exact HM.out, R.1, hcn, hbn⟩
      case measure => simp [intOf]; omega
    · go_wp2_with fail
      go_loopw [21, 26] (fun va i wr => ∃ (j : Nat) (M : List Value), j ≤ 64 ∧ i = .int .i64 j ∧ wr.ownsRow W.heap.size 56 1 va (L.length + j) M ∧ wr.ownsRow w1.heap.size 56 1 (.slice a2 L.length ca2) L.length (bk .u32 L) ∧ ((Value.slice a2 L.length ca2).ownBlock = none ∨ (Value.slice a2 L.length ca2).ownBlock ≠ va.ownBlock) ∧ Below W.heap.size W wr)
        (fun _ i _ => 64 - (intOf i).toNat)
      case atStart => exact ⟨0, _, by omega, rfl, owna, ownc, HAP.out, hb⟩
      case round =>
        clear owna ownc hb
        obtain ⟨j, M2, hj64, rfl, owna, ownc, hap2, hb⟩ := hrel
        have HAP2 : Hid ((Value.slice a2 L.length ca2).ownBlock = none ∨ (Value.slice a2 L.length ca2).ownBlock ≠ u21.ownBlock) := hap2
        clear hap2
        have hB := hb.size
        by_cases hlt2 : j < 64
        · go_wp2_with (at_builtin; refine wpList_append_lies _ rfl _ _ 63 rfl W.heap.size 56 i0 (.int .u32 0) 1 4 Try.underlying63 hi hz0 hz1 hz2 rfl (by decide) _ _ _ rfl (owna.alloc _) ⟨_, 0, none⟩ 1 1 [.int .u32 929292] rfl rfl ?d1 ?d2 (by decide) ?d3 ?d4 ?d5 (wr.heap.size + 1) (by simp) ?_)
          case d1 =>
            intro j u hj
            match j, hj with
            | 0, hj => simp at hj; subst hj; simp [Addr.add]
          case d2 => intro u hu; simp at hu; subst hu; rfl
          case d3 => unfold maxLen; omega
          case d4 => omega
          case d5 => simp; omega
          intro g2 cap2 w5 hown' hgrow hor _
          have hcn := (ownc.alloc _).kept hgrow HAP2.out
          have HAN : Hid ((Value.slice a2 L.length ca2).ownBlock = none ∨ (Value.slice a2 L.length ca2).ownBlock ≠ some g2) := apart_new ownc (by omega) HAP2.out hor
          have R2 := grown_below hb hB owna hgrow
          clear hgrow owna ownc hor
          go_wp2_with fail
          go_roundw
          case rel => exact ⟨j + 1, _, by omega, by go_num, by rw [← Nat.add_assoc]; exact hown', hcn, HAN.out, R2⟩
          case measure => simp [intOf]; omega
        · clear owna HAP2
          go_wp2_with fail
          go_loopw [6, 27] (fun vo i wr => ∃ (k : Nat), k ≤ L.length ∧ i = .int .i64 k ∧ wr.ownsRow W.heap.size 27 1 vo k (bk .u64 (L.take k)) ∧ wr.ownsRow w1.heap.size 56 1 (.slice a2 L.length ca2) L.length (bk .u32 L) ∧ ((Value.slice a2 L.length ca2).ownBlock = none ∨ (Value.slice a2 L.length ca2).ownBlock ≠ vo.ownBlock) ∧ Below W.heap.size W wr)
            (fun _ i _ => L.length - (intOf i).toNat)
          case atStart => exact ⟨0, Nat.zero_le _, rfl, World.ownsRow_nil _ _ _ _, ownc, by cases hq : (Value.slice a2 L.length ca2).ownBlock <;> simp [Value.ownBlock], hb⟩
          case round =>
            clear ownc hb
            obtain ⟨k3, hk3, rfl, owno, ownc, hap3, hb⟩ := hrel
            have HAP3 : Hid ((Value.slice a2 L.length ca2).ownBlock = none ∨ (Value.slice a2 L.length ca2).ownBlock ≠ u6.ownBlock) := hap3
            clear hap3
            have hB3 := hb.size
            by_cases hlt3 : k3 < L.length
            · obtain ⟨g, rfl⟩ := own_pos ownc (by omega)
              have hck := own_getK ownc (i := k3) hlt3
              have hts := take_snoc L k3 hlt3
              have hxr := hrg _ (getD_mem hlt3)
              generalize L.getD k3 0 = x at hck hts hxr
              have HS : Hid (L.take (k3 + 1) = L.take k3 ++ [x]) := hts
              clear hts
              obtain ⟨x0, x1⟩ := hxr
              go_wp2_with (at_builtin; refine wpList_append_lies _ rfl _ _ 25 rfl W.heap.size 27 j0 (.int .u64 0) 1 8 Try.underlying25 hj hy0 hy1 hy2 rfl (by decide) _ _ _ rfl (owno.alloc _) ⟨_, 0, none⟩ 1 1 [.int .u64 x] rfl rfl ?f1 ?f2 (by decide) ?f3 ?f4 ?f5 (wr.heap.size + 1) (by simp) ?_)
              case f1 =>
                intro j u hj
                match j, hj with
                | 0, hj => simp at hj; subst hj; simp [Addr.add]
              case f2 => intro u hu; simp at hu; subst hu; rfl
              case f3 => unfold maxLen; omega
              case f4 => omega
              case f5 => simp; omega
              intro g2 cap2 w5 hown' hgrow hor _
              have hcn := (ownc.alloc _).kept hgrow HAP3.out
              have HAN : Hid ((Value.slice (some ⟨g, 0, none⟩) L.length ca2).ownBlock = none ∨ (Value.slice (some ⟨g, 0, none⟩) L.length ca2).ownBlock ≠ some g2) := apart_new ownc (by omega) HAP3.out hor
              have R1 := own_snocK HS.out hown'
              have R2 := grown_below hb hB3 owno hgrow
              clear hgrow owno ownc hown' hor
              go_wp2_with fail
              go_roundw
              case rel => exact ⟨k3 + 1, by omega, by go_num, R1, hcn, HAN.out, R2⟩
              case measure => simp [intOf]; omega
            · obtain rfl : k3 = L.length := by omega
              rw [List.take_length] at owno
              go_wp2_with fail
              go_ret2
              exact ⟨_, rfl, owno, hb⟩

set_option maxRecDepth 100000 in
set_option maxHeartbeats 4000000 in
theorem allw_u64 (ao : Option Addr) (n cap : Nat) (L : List Int) (er : Int) (W : World) (hL : L.length ≤ 16777216) (hrg : ∀ x ∈ L, 0 ≤ x ∧ x < 18446744073709551616)
    (HA : ∀ W', Below W.heap.size W W' → Calls Try.prog 40 #[.slice ao n cap] W' fun e w' => ∃ v, e = .returned (.tuple #[v, .int .i64 er]) ∧ w'.ownsRow W'.heap.size 27 1 v L.length (bk .u64 L) ∧ Below W'.heap.size W' w') :
    Calls Try.prog 20 #[.int .i64 8, .slice ao n cap] W fun e w' => ∃ v, e = .returned (.tuple #[v, .int .i64 er]) ∧ w'.ownsRow W.heap.size 27 1 v L.length (bk .u64 L) ∧ Below W.heap.size W w' := by
  obtain ⟨i0, hi, hz0, hz1, hz2⟩ := info_parts Try.info_u64
  obtain ⟨j0, hj, hy0, hy1, hy2⟩ := info_parts Try.infoQ
  go_enter Try.func20, Try.ntmps20
  go_wp2_with fail
  with_reducible refine (HA W (Below.refl _ _)).mono ?_
  rintro e w1 ⟨va, rfl, owna, hb1⟩
  have hz1' := hb1.size
  go_wp2_with fail
  with_reducible refine (HA w1 hb1).mono ?_
  rintro e w2 ⟨vc, rfl, ownc, hb2⟩
  have owna2 := own_below owna hb2
  have hb12 := hb1.trans (hb2.mono hz1')
  obtain ⟨a1, ca1, rfl⟩ := own_form0 owna
  obtain ⟨a2, ca2, rfl⟩ := own_form0 ownc
  have hap : (Value.slice a2 L.length ca2).ownBlock = none ∨ (Value.slice a2 L.length ca2).ownBlock ≠ (Value.slice a1 L.length ca1).ownBlock := by
    cases hq : (Value.slice a2 L.length ca2).ownBlock with
    | none => exact .inl rfl
    | some g =>
      right
      intro e
      have h1 := (ownc.lt g hq).1
      have h2 := (owna.lt g e.symm).2
      omega
  have HAP : Hid ((Value.slice a2 L.length ca2).ownBlock = none ∨ (Value.slice a2 L.length ca2).ownBlock ≠ (Value.slice a1 L.length ca1).ownBlock) := hap
  clear hap owna HA hb1 hb2
  go_wp2_with fail
  go_loopw [32] (fun i wr => ∃ (k : Nat) (M : List Int), k ≤ L.length ∧ i = .int .i64 k ∧ M.length = L.length ∧ wr.ownsRow W.heap.size 27 1 (.slice a1 L.length ca1) L.length (bk .u64 M) ∧ wr.ownsRow w1.heap.size 27 1 (.slice a2 L.length ca2) L.length (bk .u64 L) ∧ Below W.heap.size W wr)
    (fun i _ => L.length - (intOf i).toNat)
  case atStart => exact ⟨0, L, Nat.zero_le _, rfl, rfl, owna2, ownc, hb12⟩
  case round =>
    clear owna2 ownc hb12
    obtain ⟨k, M, hk, rfl, hM, owna, ownc, hb⟩ := hrel
    have HM : Hid (M.length = L.length) := hM
    clear hM
    by_cases hlt : k < L.length
    · obtain ⟨g, rfl⟩ := own_pos owna (by omega)
      have hck := own_getK owna (i := k) (by rw [HM.out]; exact hlt)
      have hfk := owna.frozenAt k
      have R := owna.stored k (.int .u64 919191)
      have hlo := (owna.lt g rfl).1
      have hcn := ownc.kept R.2 (by have := HAP.out; simpa [Value.ownBlock] using this)
      rw [show (bk .u64 M).set k (.int .u64 919191) = bk .u64 (M.set k 919191) by simp [bk, List.map_set]] at R
      have hbn := hb.setCell (p := ⟨g, k, none⟩) hlo (.int .u64 919191)
      generalize M.getD k 0 = c at hck
      clear owna ownc
      go_wp2_with fail
      go_roundw
      case rel => exact ⟨k + 1, M.set k 919191, by omega, by go_num, by rw [List.length_set]; exact HM.out, R.1, hcn, hbn⟩
      case measure => simp [intOf]; omega
    · go_wp2_with fail
      go_loopw [28, 33] (fun va i wr => ∃ (j : Nat) (M : List Value), j ≤ 64 ∧ i = .int .i64 j ∧ wr.ownsRow W.heap.size 27 1 va (L.length + j) M ∧ wr.ownsRow w1.heap.size 27 1 (.slice a2 L.length ca2) L.length (bk .u64 L) ∧ ((Value.slice a2 L.length ca2).ownBlock = none ∨ (Value.slice a2 L.length ca2).ownBlock ≠ va.ownBlock) ∧ Below W.heap.size W wr)
        (fun _ i _ => 64 - (intOf i).toNat)
      case atStart => exact ⟨0, _, by omega, rfl, owna, ownc, HAP.out, hb⟩
      case round =>
        clear owna ownc hb
        obtain ⟨j, M2, hj64, rfl, owna, ownc, hap2, hb⟩ := hrel
        have HAP2 : Hid ((Value.slice a2 L.length ca2).ownBlock = none ∨ (Value.slice a2 L.length ca2).ownBlock ≠ u28.ownBlock) := hap2
        clear hap2
        have hB := hb.size
        by_cases hlt2 : j < 64
        · go_wp2_with (at_builtin; refine wpList_append_lies _ rfl _ _ 25 rfl W.heap.size 27 i0 (.int .u64 0) 1 8 Try.underlying25 hi hz0 hz1 hz2 rfl (by decide) _ _ _ rfl (owna.alloc _) ⟨_, 0, none⟩ 1 1 [.int .u64 929292] rfl rfl ?d1 ?d2 (by decide) ?d3 ?d4 ?d5 (wr.heap.size + 1) (by simp) ?_)
          case d1 =>
            intro j u hj
            match j, hj with
            | 0, hj => simp at hj; subst hj; simp [Addr.add]
          case d2 => intro u hu; simp at hu; subst hu; rfl
          case d3 => unfold maxLen; omega
          case d4 => omega
          case d5 => simp; omega
          intro g2 cap2 w5 hown' hgrow hor _
          have hcn := (ownc.alloc _).kept hgrow HAP2.out
          have HAN : Hid ((Value.slice a2 L.length ca2).ownBlock = none ∨ (Value.slice a2 L.length ca2).ownBlock ≠ some g2) := apart_new ownc (by omega) HAP2.out hor
          have R2 := grown_below hb hB owna hgrow
          clear hgrow owna ownc hor
          go_wp2_with fail
          go_roundw
          case rel => exact ⟨j + 1, _, by omega, by go_num, by rw [← Nat.add_assoc]; exact hown', hcn, HAN.out, R2⟩
          case measure => simp [intOf]; omega
        · clear owna HAP2
          go_wp2_with fail
          go_loopw [6, 34] (fun vo i wr => ∃ (k : Nat), k ≤ L.length ∧ i = .int .i64 k ∧ wr.ownsRow W.heap.size 27 1 vo k (bk .u64 (L.take k)) ∧ wr.ownsRow w1.heap.size 27 1 (.slice a2 L.length ca2) L.length (bk .u64 L) ∧ ((Value.slice a2 L.length ca2).ownBlock = none ∨ (Value.slice a2 L.length ca2).ownBlock ≠ vo.ownBlock) ∧ Below W.heap.size W wr)
            (fun _ i _ => L.length - (intOf i).toNat)
          case atStart => exact ⟨0, Nat.zero_le _, rfl, World.ownsRow_nil _ _ _ _, ownc, by cases hq : (Value.slice a2 L.length ca2).ownBlock <;> simp [Value.ownBlock], hb⟩
          case round =>
            clear ownc hb
            obtain ⟨k3, hk3, rfl, owno, ownc, hap3, hb⟩ := hrel
            have HAP3 : Hid ((Value.slice a2 L.length ca2).ownBlock = none ∨ (Value.slice a2 L.length ca2).ownBlock ≠ u6.ownBlock) := hap3
            clear hap3
            have hB3 := hb.size
            by_cases hlt3 : k3 < L.length
            · obtain ⟨g, rfl⟩ := own_pos ownc (by omega)
              have hck := own_getK ownc (i := k3) hlt3
              have hts := take_snoc L k3 hlt3
              have hxr := hrg _ (getD_mem hlt3)
              generalize L.getD k3 0 = x at hck hts hxr
              have HS : Hid (L.take (k3 + 1) = L.take k3 ++ [x]) := hts
              clear hts
              obtain ⟨x0, x1⟩ := hxr
              go_wp2_with (at_builtin; refine wpList_append_lies _ rfl _ _ 25 rfl W.heap.size 27 j0 (.int .u64 0) 1 8 Try.underlying25 hj hy0 hy1 hy2 rfl (by decide) _ _ _ rfl (owno.alloc _) ⟨_, 0, none⟩ 1 1 [.int .u64 x] rfl rfl ?f1 ?f2 (by decide) ?f3 ?f4 ?f5 (wr.heap.size + 1) (by simp) ?_)
              case f1 =>
                intro j u hj
                match j, hj with
                | 0, hj => simp at hj; subst hj; simp [Addr.add]
              case f2 => intro u hu; simp at hu; subst hu; rfl
              case f3 => unfold maxLen; omega
              case f4 => omega
              case f5 => simp; omega
              intro g2 cap2 w5 hown' hgrow hor _
              have hcn := (ownc.alloc _).kept hgrow HAP3.out
              have HAN : Hid ((Value.slice (some ⟨g, 0, none⟩) L.length ca2).ownBlock = none ∨ (Value.slice (some ⟨g, 0, none⟩) L.length ca2).ownBlock ≠ some g2) := apart_new ownc (by omega) HAP3.out hor
              have R1 := own_snocK HS.out hown'
              have R2 := grown_below hb hB3 owno hgrow
              clear hgrow owno ownc hown' hor
              go_wp2_with fail
              go_roundw
              case rel => exact ⟨k3 + 1, by omega, by go_num, R1, hcn, HAN.out, R2⟩
              case measure => simp [intOf]; omega
            · obtain rfl : k3 = L.length := by omega
              rw [List.take_length] at owno
              go_wp2_with fail
              go_ret2
              exact ⟨_, rfl, owno, hb⟩
end Go.Proofs.Ytacfiecobdbjaaa
