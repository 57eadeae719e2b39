import Derived.Test.YtipgpigcpbckgaaDoorMSeg
namespace Go.Proofs.YtipgpigcpbckgaaDoor
open Go.RowKit Go.WideShapes Go.Sort Go.Lib
set_option maxRecDepth 100000

set_option maxHeartbeats 1000000 in
theorem header_lo (ao : Option Addr) (n cap : Nat) (w : World) (h : n < 64) :
    Calls Tryd.prog 13 #[.slice ao n cap] w fun e w' => e = .returned (.tuple #[.int .i64 n, .int .i64 80]) ∧ w' = w := by
  have hL := lenF_lo ao n cap w h
  clear h
  go_enter Tryd.func13, Tryd.ntmps13
  go_wp2_with fail
  with_reducible refine hL.mono ?_
  rintro e wq ⟨rfl, hq⟩
  subst wq
  go_wp2_with fail
  refine bodyPost_ret (results_tmp2 rfl _ _ _) rfl ?_
  exact ⟨rfl, rfl⟩
set_option maxHeartbeats 1000000 in
theorem header_hi (ao : Option Addr) (n cap : Nat) (w : World) (h : 1048576 < n) :
    Calls Tryd.prog 13 #[.slice ao n cap] w fun e w' => e = .returned (.tuple #[.int .i64 1048576, .int .i64 80]) ∧ w' = w := by
  have hL := lenF_hi ao n cap w h
  clear h
  go_enter Tryd.func13, Tryd.ntmps13
  go_wp2_with fail
  with_reducible refine hL.mono ?_
  rintro e wq ⟨rfl, hq⟩
  subst wq
  go_wp2_with fail
  refine bodyPost_ret (results_tmp2 rfl _ _ _) rfl ?_
  exact ⟨rfl, rfl⟩
def ParPost (zs : List Int) (e : Ending) : Prop := ∃ v0 v1 v2 v3 v4 v5, ∃ at_ er : Int, e = .returned (.tuple #[.agg #[v0, v1, v2, v3, v4, v5], .int .i64 at_, .int .i64 er]) ∧ (#[v0, v1, v2, v3, v4, v5] : Array Value).all (·.oneCell') = true ∧ (er = 0 → 64 ≤ zs.length ∧ zs.length ≤ 1048576 ∧ atv 4 zs 8 = sumV zs)
set_option maxHeartbeats 2000000 in
/-- where the header is at fault already -/
theorem parse_bad (ao : Option Addr) (n cap : Nat) (w : World) (at_ er : Int) (her : ¬ er = 0) (hH : ∀ W, Below w.heap.size w W → Calls Tryd.prog 13 #[.slice ao n cap] W fun e w' => e = .returned (.tuple #[.int .i64 at_, .int .i64 er]) ∧ Below W.heap.size W w') :
    Calls Tryd.prog 6 #[.slice ao n cap] w fun e w' => e = .returned (.tuple #[.agg #[.slice none 0 0, .slice none 0 0, .slice none 0 0, .int .u32 0, .int .u32 0, .slice none 0 0], .int .i64 at_, .int .i64 er]) ∧ Below w.heap.size w w' := by
  have her' : (er == 0) = false := by rw [beq_eq_false_iff_ne]; exact her
  have bR : Below w.heap.size w (w.alloc (.cells #[.slice none 0 0, .slice none 0 0, .slice none 0 0, .int .u32 0, .int .u32 0, .slice none 0 0] 29)) := belS (Below.refl _ _)
  have h1 := hH _ bR
  have hR := heap_alloc_last w (.cells #[.slice none 0 0, .slice none 0 0, .slice none 0 0, .int .u32 0, .int .u32 0, .slice none 0 0] 29)
  clear hH
  go_enter Tryd.func6, Tryd.ntmps6
  go_wp2_with fail
  with_reducible refine h1.mono ?_
  rintro e W1 ⟨rfl, b1⟩
  have B1 := btS bR b1
  have hR1 := (b1.block w.heap.size (by simp)).trans hR
  clear h1 hR b1
  go_wp2_with (refine wpList_store_row rfl _ _ _ rfl w.heap.size _ #[.slice none 0 0, .slice none 0 0, .slice none 0 0, .int .u32 0, .int .u32 0, .slice none 0 0] rfl rfl hR1 (by rw [infoI6]; rfl) rfl (i6_all rfl rfl rfl rfl rfl rfl) ?_)
  obtain ⟨fs, hu⟩ := undI6
  refine bodyPost_ret (res_cell3 (p := 2) (u := 3) (v := 4) (ty := 29) (by kernel_rfl) _ _ _ w.heap.size #[.slice none 0 0, .slice none 0 0, .slice none 0 0, .int .u32 0, .int .u32 0, .slice none 0 0] (setRow_heap _ w.heap.size _ _ _ _ hR1) hu (by rw [infoI6]; rfl) rfl) rfl ?_
  exact ⟨rfl, below_setRow B1 (Nat.le_refl _) _⟩
set_option maxHeartbeats 2000000 in
theorem parse_mid (b off cap : Nat) (zs : List Int) (w : World) (hn : zs.length ≤ 1048576) (h64 : 64 ≤ zs.length) (hcp : zs.length ≤ cap) (hwf : ∀ z ∈ zs, 0 ≤ z ∧ z ≤ 255) (hr : Reads w (some ⟨b, off, none⟩) zs w.heap.size) (hg : Sg w) :
    Calls Tryd.prog 6 #[.slice (some ⟨b, off, none⟩) zs.length cap] w fun e w' => ParPost zs e ∧ Below w.heap.size w w' := by
  have bR : Below w.heap.size w (w.alloc (.cells #[.slice none 0 0, .slice none 0 0, .slice none 0 0, .int .u32 0, .int .u32 0, .slice none 0 0] 29)) := belS (Below.refl _ _)
  have hR := heap_alloc_last w (.cells #[.slice none 0 0, .slice none 0 0, .slice none 0 0, .int .u32 0, .int .u32 0, .slice none 0 0] 29)
  have h1 := header_any b off cap zs (w.alloc (.cells #[.slice none 0 0, .slice none 0 0, .slice none 0 0, .int .u32 0, .int .u32 0, .slice none 0 0] 29)) hn h64 hcp hwf ((hr.below bR).mono bR.size)
  have HWF := hidS hwf
  have HR := hidS hr
  have HG := hidS hg
  clear hwf hr hg
  go_enter Tryd.func6, Tryd.ntmps6
  go_wp2_with fail
  with_reducible refine h1.mono ?_
  rintro e W1 ⟨⟨at1, er1, rfl, hok⟩, b1⟩
  have B1 := btS bR b1
  have hR1 := (b1.block w.heap.size (by simp)).trans hR
  have hs1 := b1.size
  have HOK := hidS hok
  have hsA : (w.alloc (.cells #[.slice none 0 0, .slice none 0 0, .slice none 0 0, .int .u32 0, .int .u32 0, .slice none 0 0] 29)).heap.size = w.heap.size + 1 := by simp
  clear h1 hR b1 hok
  by_cases he1 : er1 = 0
  · subst he1
    have hOK2 := hidS (HOK.out rfl)
    have hS := spansOf_any (some ⟨b, off, none⟩) cap zs W1 hn hcp HWF.out ((HR.out.below B1).mono B1.size) (HG.out.below B1) (fun a => (atv_range 4 zs a HWF.out).1)
    go_wp2_with fail
    with_reducible refine hS.mono ?_
    rintro e W2 ⟨v2, rfl, own2, b2⟩
    have B2 := btS B1 b2
    have hR2 := (b2.block w.heap.size (by omega)).trans hR1
    have hs2 := b2.size
    obtain ⟨g2, c2, rfl, _⟩ := own_form own2 (by decide)
    have hw32 : IntKind.u32.wrap (zs.length : Int) = (zs.length : Int) := by rw [IntKind.wrap_u32]; omega
    have hF := spansFault_any (some ⟨g2, 0, none⟩) c2 (spL zs) zs.length W2 (spF_len zs 4) (spL_wf zs HWF.out) (by omega) (HG.out.below B2) (own_lowM own2 (Nat.zero_le _))
    clear hS hR1 b2
    go_wp2_with fail
    with_reducible refine hF.mono ?_
    rintro e W3 ⟨⟨at3, er3, rfl⟩, b3⟩
    have B3 := btS B2 b3
    have hR3 := (b3.block w.heap.size (by omega)).trans hR2
    have hs3 := b3.size
    have own3 := own_below own2 b3
    clear hF hR2 own2 b3
    by_cases he3 : er3 = 0
    · subst he3
      have hSg := readSeg_any b off cap g2 c2 (spL zs) zs W3 hn hcp HWF.out ((HR.out.below B3).mono B3.size) (spF_len zs 4) (spL_wf zs HWF.out) (own_lowM own3 (Nat.zero_le _)) (HG.out.below B3)
      go_wp2_with fail
      with_reducible refine hSg.mono ?_
      rintro e W4 ⟨⟨v0, v1, v2, v3, v4, v5, at4, er4, rfl, o0, o1, o2, o3, o4, o5⟩, b4⟩
      have B4 := btS B3 b4
      have hR4 := (b4.block w.heap.size (by omega)).trans hR3
      have hA4 := heap_alloc_last W4 (.cells #[.slice none 0 0, .slice none 0 0, .slice none 0 0, .int .u32 0, .int .u32 0, .slice none 0 0] 29)
      have hI5 := setRow_heap (W4.alloc (.cells #[.slice none 0 0, .slice none 0 0, .slice none 0 0, .int .u32 0, .int .u32 0, .slice none 0 0] 29)) W4.heap.size _ #[v0, v1, v2, v3, v4, v5] _ _ hA4
      have b5 : Below W4.heap.size W4 ((W4.alloc (.cells #[.slice none 0 0, .slice none 0 0, .slice none 0 0, .int .u32 0, .int .u32 0, .slice none 0 0] 29)).setRow W4.heap.size #[v0, v1, v2, v3, v4, v5]) := below_setRow (belS (Below.refl _ _)) (Nat.le_refl _) _
      have hs4 := b4.size
      have hR5 := (b5.block w.heap.size (by omega)).trans hR4
      have B5 := btS B4 b5
      have hall := i6_all o0 o1 o2 o3 o4 o5
      have i0 := blk_cell hI5 (i := 0) rfl
      have i1 := blk_cell hI5 (i := 1) rfl
      have i2 := blk_cell hI5 (i := 2) rfl
      have i3 := blk_cell hI5 (i := 3) rfl
      have i4 := blk_cell hI5 (i := 4) rfl
      have i5 := blk_cell hI5 (i := 5) rfl
      have HALL := hidS hall
      clear hSg hR3 own3 b4 hall hI5 o0 o1 o2 o3 o4 o5
      by_cases he4 : er4 = 0
      · subst he4
        go_wp2_with (first | (refine wpList_store_row rfl _ _ _ rfl W4.heap.size _ #[v0, v1, v2, v3, v4, v5] rfl rfl hA4 (by rw [infoI6]; rfl) rfl HALL.out ?_; generalize (W4.alloc (.cells #[.slice none 0 0, .slice none 0 0, .slice none 0 0, .int .u32 0, .int .u32 0, .slice none 0 0] 29)).setRow W4.heap.size #[v0, v1, v2, v3, v4, v5] = W5 at *) | (refine wpList_store_row rfl _ _ _ rfl w.heap.size _ #[v0, v1, v2, v3, v4, v5] rfl rfl hR5 (by rw [infoI6]; rfl) rfl HALL.out ?_))
        obtain ⟨fs, hu⟩ := undI6
        refine bodyPost_ret (res_cell3 (p := 2) (u := 3) (v := 4) (ty := 29) (by kernel_rfl) _ _ _ w.heap.size #[v0, v1, v2, v3, v4, v5] (setRow_heap _ w.heap.size _ _ _ _ hR5) hu (by rw [infoI6]; rfl) rfl) rfl ?_
        exact ⟨⟨_, _, _, _, _, _, _, _, rfl, HALL.out, fun _ => ⟨h64, hn, hOK2.out⟩⟩, below_setRow B5 (Nat.le_refl _) _⟩
      · have he4' : (er4 == 0) = false := by rw [beq_eq_false_iff_ne]; exact he4
        have HE4 := hidS he4
        clear he4
        go_wp2_with (first | (refine wpList_store_row rfl _ _ _ rfl W4.heap.size _ #[v0, v1, v2, v3, v4, v5] rfl rfl hA4 (by rw [infoI6]; rfl) rfl HALL.out ?_; generalize (W4.alloc (.cells #[.slice none 0 0, .slice none 0 0, .slice none 0 0, .int .u32 0, .int .u32 0, .slice none 0 0] 29)).setRow W4.heap.size #[v0, v1, v2, v3, v4, v5] = W5 at *) | (refine wpList_store_row rfl _ _ _ rfl w.heap.size _ #[.slice none 0 0, .slice none 0 0, .slice none 0 0, .int .u32 0, .int .u32 0, .slice none 0 0] rfl rfl hR5 (by rw [infoI6]; rfl) rfl (i6_all rfl rfl rfl rfl rfl rfl) ?_))
        obtain ⟨fs, hu⟩ := undI6
        refine bodyPost_ret (res_cell3 (p := 2) (u := 3) (v := 4) (ty := 29) (by kernel_rfl) _ _ _ w.heap.size #[.slice none 0 0, .slice none 0 0, .slice none 0 0, .int .u32 0, .int .u32 0, .slice none 0 0] (setRow_heap _ w.heap.size _ _ _ _ hR5) hu (by rw [infoI6]; rfl) rfl) rfl ?_
        exact ⟨⟨_, _, _, _, _, _, _, _, rfl, i6_all rfl rfl rfl rfl rfl rfl, fun h => absurd h HE4.out⟩, below_setRow B5 (Nat.le_refl _) _⟩
    · have he3' : (er3 == 0) = false := by rw [beq_eq_false_iff_ne]; exact he3
      have HE3 := hidS he3
      clear he3
      go_wp2_with (refine wpList_store_row rfl _ _ _ rfl w.heap.size _ #[.slice none 0 0, .slice none 0 0, .slice none 0 0, .int .u32 0, .int .u32 0, .slice none 0 0] rfl rfl hR3 (by rw [infoI6]; rfl) rfl (i6_all rfl rfl rfl rfl rfl rfl) ?_)
      obtain ⟨fs, hu⟩ := undI6
      refine bodyPost_ret (res_cell3 (p := 2) (u := 3) (v := 4) (ty := 29) (by kernel_rfl) _ _ _ w.heap.size #[.slice none 0 0, .slice none 0 0, .slice none 0 0, .int .u32 0, .int .u32 0, .slice none 0 0] (setRow_heap _ w.heap.size _ _ _ _ hR3) hu (by rw [infoI6]; rfl) rfl) rfl ?_
      exact ⟨⟨_, _, _, _, _, _, _, _, rfl, i6_all rfl rfl rfl rfl rfl rfl, fun h => absurd h HE3.out⟩, below_setRow B3 (Nat.le_refl _) _⟩
  · have he1' : (er1 == 0) = false := by rw [beq_eq_false_iff_ne]; exact he1
    have HE1 := hidS he1
    clear he1
    go_wp2_with (refine wpList_store_row rfl _ _ _ rfl w.heap.size _ #[.slice none 0 0, .slice none 0 0, .slice none 0 0, .int .u32 0, .int .u32 0, .slice none 0 0] rfl rfl hR1 (by rw [infoI6]; rfl) rfl (i6_all rfl rfl rfl rfl rfl rfl) ?_)
    obtain ⟨fs, hu⟩ := undI6
    refine bodyPost_ret (res_cell3 (p := 2) (u := 3) (v := 4) (ty := 29) (by kernel_rfl) _ _ _ w.heap.size #[.slice none 0 0, .slice none 0 0, .slice none 0 0, .int .u32 0, .int .u32 0, .slice none 0 0] (setRow_heap _ w.heap.size _ _ _ _ hR1) hu (by rw [infoI6]; rfl) rfl) rfl ?_
    exact ⟨⟨_, _, _, _, _, _, _, _, rfl, i6_all rfl rfl rfl rfl rfl rfl, fun h => absurd h HE1.out⟩, below_setRow B1 (Nat.le_refl _) _⟩
end Go.Proofs.YtipgpigcpbckgaaDoor
