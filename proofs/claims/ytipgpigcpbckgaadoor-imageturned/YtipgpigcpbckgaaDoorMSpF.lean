import Derived.Test.YtipgpigcpbckgaaDoorMSpO
namespace Go.Proofs.YtipgpigcpbckgaaDoor
open Go.RowKit Go.WideShapes Go.Sort Go.Lib
set_option maxRecDepth 100000

set_option maxHeartbeats 1000000 in
theorem within_b (a : Nat × Nat) (t : Nat) (w : World) (ha : a.1 < 4294967296 ∧ a.2 < 4294967296) (ht : t < 4294967296) :
    Calls Tryd.prog 23 #[.agg #[.int .u32 a.1, .int .u32 a.2], .int .u32 t] w fun e w' => e = .returned (.bool (decide (a.1 + a.2 ≤ t))) ∧ ∃ q os', w' = grow (w.drewN q) os' := by
  have hE := fun W => end_any a.1 a.2 W ha.1 ha.2
  have hd : decide (a.1 + a.2 ≤ t) = decide ((a.1 : Int) + (a.2 : Int) ≤ (t : Int)) := by rw [decide_eq_decide]; omega
  rw [hd]
  have htI : (t : Int) < 4294967296 := by omega
  have ht0 : (0 : Int) ≤ (t : Int) := by omega
  clear ha ht hd
  generalize (a.1 : Int) = a1 at *
  generalize (a.2 : Int) = a2 at *
  generalize (t : Int) = tt at *
  have hw1 : IntKind.u64.wrap tt = tt := by rw [IntKind.wrap_u64]; omega
  go_enter Tryd.func23, Tryd.ntmps23
  go_wp2_with (first | (go_at_call 37; with_reducible refine (hE _).mono ?_; rintro e wq ⟨rfl, q, os', hq⟩; subst wq))
  go_ret
  exact ⟨rfl, q, _, by rw [alloc_eq_grow]; show grow (grow (w.drewN q) _) os' = _; rw [grow_grow]⟩
def TwoPost (e : Ending) : Prop := ∃ at_ er : Int, e = .returned (.tuple #[.int .i64 at_, .int .i64 er])
theorem spL_wf (zs : List Int) (hwf : ∀ z ∈ zs, 0 ≤ z ∧ z ≤ 255) : Wfs (spL zs) := by
  intro p hp
  obtain ⟨j, _, rfl⟩ := List.mem_map.1 hp
  have h1 := atv_range 4 zs (pA j : Nat) hwf
  have h2 := atv_range 4 zs ((pA j + 4 : Nat)) hwf
  unfold wdA
  omega
theorem getD4 (L : List (Nat × Nat)) (h : L.length = 4) (k : Nat) (hk : k < 4) : k < L.length := by omega
set_option maxHeartbeats 2000000 in
theorem spansFault_any (a : Option Addr) (c : Nat) (L : List (Nat × Nat)) (t : Nat) (w : World) (h4 : L.length = 4) (hw : Wfs L) (ht : t < 4294967296) (hg : Sg w) (hown : w.ownsRow 0 41 2 (.slice a 4 c) 4 (sv L)) :
    Calls Tryd.prog 15 #[.slice a 4 c, .int .u32 t] w fun e w' => TwoPost e ∧ Below w.heap.size w w' := by
  obtain ⟨i0, hi, hz0, hz1, hz2⟩ := info_parts Tryd.infoS
  obtain ⟨g, cc, he, _⟩ := own_form hown (by decide)
  simp only [Value.slice.injEq, true_and] at he
  obtain ⟨rfl, rfl⟩ := he
  have hgl := (hown.lt g rfl).2
  have hcs : ∀ W, Below w.heap.size w W → ∀ k, k < 4 → W.cell? ⟨g, k * 2, none⟩ = some (.int .u32 (L.getD k (0, 0)).1) ∧ W.cell? ⟨g, k * 2 + 1, none⟩ = some (.int .u32 (L.getD k (0, 0)).2) := fun W hW k hk => by
    obtain ⟨e0, e1⟩ := sv_get L k (by omega)
    have x0 := hown.cells (g := g) rfl _ _ e0
    have x1 := hown.cells (g := g) rfl _ _ e1
    rw [add_plain, Nat.zero_add] at x0 x1
    exact ⟨(hW.cell (p := ⟨g, k * 2, none⟩) hgl).trans x0, (hW.cell (p := ⟨g, k * 2 + 1, none⟩) hgl).trans x1⟩
  have HCS := hidS hcs
  have HW := hidS hw
  have HG := hidS hg
  have HO := hidS hown
  obtain ⟨hp, g0, g1, g2, g3⟩ := hg
  clear hcs hw hown
  go_enter Tryd.func15, Tryd.ntmps15
  go_wp2_with fail
  go_loopw [13] (fun i wr => ∃ k : Nat, k ≤ 4 ∧ i = .int .i64 k ∧ Below w.heap.size w wr) (fun i _ => 4 - (intOf i).toNat)
  case atStart => exact ⟨0, by omega, rfl, Below.refl _ _⟩
  case round =>
    obtain ⟨k, hk, rfl, hb⟩ := hrel
    by_cases hlt : k < 4
    · have hltI : (k : Int) < 4 := by omega
      have hix := index_pl wr k hlt
      obtain ⟨x0, x1⟩ := HCS.out wr hb k hlt
      have hT := fun W => within_b (L.getD k (0, 0)) t W (HW.out _ (getD_memS (by omega))) ht
      generalize decide ((L.getD k (0, 0)).1 + (L.getD k (0, 0)).2 ≤ t) = r at *
      generalize L.getD k (0, 0) = p at *
      generalize pA k = pk at *
      cases r
      · go_wp2_with fail
        with_reducible refine (hT _).mono ?_
        rintro e wq ⟨rfl, q, os', hq⟩
        subst wq
        go_wp2_with fail
        refine bodyPost_ret (results_tmp2 rfl _ _ _) rfl ?_
        exact ⟨⟨_, _, rfl⟩, btS hb (below_grow _ _ _)⟩
      · go_wp2_with fail
        with_reducible refine (hT _).mono ?_
        rintro e wq ⟨rfl, q, os', hq⟩
        subst wq
        go_wp2_with fail
        go_roundw
        case rel => exact ⟨k + 1, by omega, by go_num, btS hb (below_grow _ _ _)⟩
        case measure => simp [intOf]; omega
    · obtain rfl : k = 4 := by omega
      have own0 := World.ownsRow_lit (size := 2) (base := wr.heap.size) (e := 41) wr #[.int .u32 0, .int .u32 64] 1 (Nat.le_refl _) (by decide) rfl
      have hbA : Below wr.heap.size wr (wr.alloc (.cells #[.int .u32 0, .int .u32 64] 41)) := belS (Below.refl _ _)
      have hnews : ∀ j u, (sv L)[j]? = some u → (wr.alloc (.cells #[.int .u32 0, .int .u32 64] 41)).cell? ((⟨g, 0, none⟩ : Addr).add j) = some u := fun j u hj => by
        have h1 := HO.out.cells (g := g) rfl _ _ hj
        rw [add_plain] at h1 ⊢
        have hgw : g < wr.heap.size := by have := hb.size; omega
        exact (hbA.cell (p := ⟨g, 0 + j, none⟩) hgw).trans ((hb.cell (p := ⟨g, 0 + j, none⟩) hgl).trans h1)
      have HNW := hidS hnews
      clear hnews
      go_wp2_with (at_builtin; refine wpList_append_lies _ rfl _ _ 37 rfl wr.heap.size 41 i0 (.agg #[.int .u32 0, .int .u32 0]) 2 8 Tryd.underlying37 hi hz0 hz1 hz2 rfl (by decide) _ 1 _ rfl own0 ⟨g, 0, none⟩ 4 c (sv L) rfl (by rw [sv_len, h4]) HNW.out (sv_one' L) (by decide) (by decide) (by decide) ?d5 (wr.heap.size + 1) ?d6 ?_)
      intro g5 c5 w5 hown5 hgrow _ _
      have R2 : Below wr.heap.size wr w5 := hbA.grown hgrow (by simp) (fun j e => by simp [Value.ownBlock] at e; omega)
      have B5 := btS hb R2
      have eL : [Value.int .u32 0, Value.int .u32 64] ++ sv L = sv ((0, 64) :: L) := rfl
      have hown6 : w5.ownsRow wr.heap.size 41 2 (.slice (some ⟨g5, 0, none⟩) ((0, 64) :: L).length c5) ((0, 64) :: L).length (sv ((0, 64) :: L)) := by
        rw [← eL, List.length_cons, h4]; exact hown5
      have hc5 := own_capS hown6
      obtain ⟨a6, c6, he6, hrd6⟩ := own_srd hown6
      simp only [Value.slice.injEq, true_and] at he6
      obtain ⟨rfl, rfl⟩ := he6
      have hWf : Wfs ((0, 64) :: L) := by
        intro p hp
        rcases List.mem_cons.1 hp with rfl | hp
        · exact ⟨by decide, by decide⟩
        · exact HW.out p hp
      have hP := aptG_any (some ⟨g5, 0, none⟩) c5 ((0, 64) :: L) w5 (by rw [List.length_cons, h4]; decide) hc5 hWf hrd6
      have e5 : ((0, 64) :: L).length = 5 := by rw [List.length_cons, h4]
      rw [e5] at hP
      have HG5 := hidS (HG.out.below B5)
      clear hown5 hgrow own0 hown6 hrd6 HNW HCS HO hWf hc5 eL hbA R2
      go_wp2_with fail
      with_reducible refine hP.mono ?_
      rintro e w6 ⟨hpost, b6⟩
      have B6 := btS B5 b6
      have hg6 := HG5.out.below b6
      obtain ⟨_, q0, q1, q2, q3⟩ := hg6
      rcases hpost with ⟨_, rfl⟩ | ⟨_, i, j, rfl, hi1, hi5, _, _⟩
      · go_wp2_with fail
        refine bodyPost_ret (results_tmp2 rfl _ _ _) rfl ?_
        exact ⟨⟨_, _, rfl⟩, B6⟩
      · rw [e5] at hi5
        have hcase : i = 1 ∨ i = 2 ∨ i = 3 ∨ i = 4 := by omega
        rcases hcase with rfl | rfl | rfl | rfl
        all_goals
          go_wp2_with fail
          refine bodyPost_ret (results_tmp2 rfl _ _ _) rfl ?_
          exact ⟨⟨_, _, rfl⟩, B6⟩
end Go.Proofs.YtipgpigcpbckgaaDoor
