import Derived.Test.YtgfgdkeeonolcaaWSq
import Derived.Test.YtgfgdkeeonolcaaWIu
namespace Go.Proofs.Ytgfgdkeeonolcaa
open Go.RowKit Go.Shelf
attribute [local go_sem] Oper.semAt_some

abbrev encW (x : It) : Array Value := #[.int .i64 x.1, .agg #[.int .u8 x.2.1, .int .u32 x.2.2.1]]
/-- what a round of a walk keeps -/
def Kw (ao : Option Addr) (zs : List Int) (B0 : Nat) (W W' : World) : Prop := Reads W ao zs B0 → Reads W' ao zs B0
theorem Kw_t {ao : Option Addr} {zs : List Int} {B0 : Nat} {A B C : World} (h : Kw ao zs B0 A B) (k : Kw ao zs B0 B C) : Kw ao zs B0 A C := fun x => k (h x)
theorem reads_step {A C : World} {row : Option Nat} {ao : Option Addr} {zs : List Int} {B0 : Nat} (h : Reads A ao zs B0) (hg : A.grownBy C row) (hr : ∀ r, row = some r → ∃ o : Obj, A.heap[r]? = some o ∧ o.isCells = false) : Reads C ao zs B0 := by
  intro hp
  obtain ⟨b, off, e, hb, hx⟩ := h hp
  exact ⟨b, off, e, hb, fun j hj => cell_kept (hx j hj) hg hr⟩
theorem Kw_b {ao : Option Addr} {zs : List Int} {B0 : Nat} {w : World} (W : World) (l : Nat) (o o' : Obj) (_ : w.heap.size ≤ l) (h : W.heap[l]? = some o) (hc : o.isCells = false) (_ : o.isWalk = false) : Kw ao zs B0 W (W.putObj l o') :=
  fun x => reads_step x (grownBy_putObj' W l o') (fun r e => by cases e; exact ⟨o, h, hc⟩)
theorem ok_last {zs : List Int} {q : List It} {x : It} (h : q ++ [x] <+: items zs) (hq : ∀ y ∈ q, y.2.2.2.2 = 0) (hx : ¬ x.2.2.2.2 = 0) : q = okItems zs := by
  obtain ⟨t, ht⟩ := h
  have h0 : t = [] := rds_bad zs _ _ _ q x t (by show items zs = _; rw [← ht]; simp) hx
  subst h0
  exact (ok_bad (by simpa using ht) hq hx).1.symm
theorem ok_pre {zs : List Int} {q : List It} (h : q <+: items zs) (hq : ∀ y ∈ q, y.2.2.2.2 = 0) : q <+: okItems zs := by
  obtain ⟨t, ht⟩ := h
  unfold okItems
  rw [← ht, List.filter_append]
  have : q.filter (fun x => x.2.2.2.2 == 0) = q := List.filter_eq_self.2 (fun y hy => by simp [hq y hy])
  rw [this]
  exact ⟨_, rfl⟩
theorem ok_bytes {zs : List Int} (xs : List It) (h : xs = items zs) (hq : ∀ y ∈ xs, y.2.2.2.2 = 0) : xs = okItems zs := by
  unfold okItems
  rw [← h]
  exact (List.filter_eq_self.2 (fun y hy => by simp [hq y hy])).symm
theorem round_wide {n m l0 : Nat} {P : Program} {l : Nat} {f : FuncId} {tmps : Array Value} {assign body : Code} {w : World} {R : Ending → World → Prop} (h : RoundIn Fence.wide n P l f tmps assign body w R) : RoundIn (Fence.wide.inRound l0) m P l f tmps assign body w R :=
  ⟨trivial, fun c cs _ => h.2 c cs (fun _ hd => by cases hd)⟩
set_option maxRecDepth 100000 in
set_option maxHeartbeats 4000000 in
theorem walk1_own (n : Nat) (hn4 : 4 ≤ n) (Bs B0 : Nat) (ao : Option Addr) (cap : Nat) (zs : List Int) (w : World) (hn : zs.length ≤ 140737488355328) (hcp : zs.length ≤ cap) (hwf : ∀ z ∈ zs, 0 ≤ z ∧ z ≤ 255)
    (hc : Boxed w Bs 22 (.slice ao zs.length cap)) (hr : Reads w ao zs B0) (hB0 : B0 ≤ w.heap.size) :
    SeqOwn Fence.wide n Try.prog 13 #[.pointer (some ⟨Bs, 0, none⟩)] encW (Kw ao zs B0) (fun ys => ys = okItems zs) (fun pre => pre <+: okItems zs) 16385 w := by
  intro l J Jx W hW hJ hJx hY h0
  have hcW : Boxed W Bs 22 (.slice ao zs.length cap) := (hW.block Bs hc.lt).trans hc
  have hrW : Reads W ao zs B0 := hr.below (hW.mono hB0)
  have hB0W : B0 ≤ W.heap.size := Nat.le_trans hB0 hW.size
  have hBl : Bs < W.heap.size := hcW.lt
  clear hc hr hB0
  refine callsIn_of_wp_marks Try.func13 rfl trivial ?_ rfl
  simp only [Try.ntmps13, List.size_toArray, List.length_cons, List.length_nil, Nat.reduceAdd, Nat.reduceSub, Array.replicate_succ, Array.replicate_zero, List.push_toArray, List.append_toArray, List.nil_append, List.cons_append]
  have hca := fun o => (hcW.alloc o).cell
  gi_wp2_with (refine ⟨trivial, fun _ => by omega, ?_⟩; gi_at_call 14; refine (readings_in _ _ _ _ _).mono ?_; rintro e wq ⟨rfl, hq⟩; subst wq)
  clear hca
  obtain ⟨W0, hW0⟩ : ∃ W0, (W.alloc (Obj.cells #[.func (.yield l) #[] #[]] 43)).alloc (Obj.cells #[.slice ao zs.length cap] 22) = W0 := ⟨_, rfl⟩
  have by0 : Boxed W0 W.heap.size 43 (.func (.yield l) #[] #[]) := by rw [← hW0]; exact (Boxed.new W 43 _).alloc _
  have bh0 : Boxed W0 (W.heap.size + 1) 22 (.slice ao zs.length cap) := by
    rw [← hW0]
    have := Boxed.new (W.alloc (Obj.cells #[.func (.yield l) #[] #[]] 43)) 22 (.slice ao zs.length cap)
    simpa using this
  have hBW : Below W.heap.size W W0 := by rw [← hW0]; exact bel (bel (Below.refl _ _))
  have hsz : W0.heap.size = W.heap.size + 2 := by rw [← hW0]; simp
  have hJ0 : J [] W0 := by rw [← hW0]; exact hJ.alloc _ (hJ.alloc _ h0)
  rw [hW0]
  clear hW0 h0
  have hr0 : Reads W0 ao zs B0 := hrW.below (hBW.mono hB0W)
  have hr1 : Reads W0 ao zs W.heap.size := hr0.mono hB0W
  have upJ : ∀ {Z : List It → World → Prop}, OwnFrom W.heap.size Z → OwnFrom W0.heap.size Z := fun h s A C row hs hg hr => h s A C row hs hg (fun r e => ⟨by have := (hr r e).1; omega, (hr r e).2⟩)
  refine range_outer (F := Fence.wide) rfl (by omega) (gf := 16) (lb := #[.pointer (some ⟨W.heap.size + 1, 0, none⟩)]) rfl trivial (enters_of Try.func16 (by kernel_rfl) rfl)
    (rds2_stops (n - 1) (by omega) (W.heap.size + 1) ao cap zs W0 W.heap.size hn hcp hwf bh0 hr1 (by omega)) Ke_t (Ke_b (w := W0)) (Below.refl _ _) (fun _ => rfl)
    (fun pre V => J pre V ∧ (∀ x ∈ pre, x.2.2.2.2 = 0) ∧ Boxed V W.heap.size 43 (.func (.yield l) #[] #[]) ∧ Reads V ao zs B0 ∧ W.heap.size + 2 ≤ V.heap.size)
    (fun c pre V => c = .ret ∧ ((∃ q x, pre = q ++ [x] ∧ ¬ x.2.2.2.2 = 0 ∧ (∀ y ∈ q, y.2.2.2.2 = 0) ∧ J q V) ∨ ((∀ y ∈ pre, y.2.2.2.2 = 0) ∧ Jx pre V)))
    (fun s A C row hs hg hr => ⟨upJ hJ s A C row hs.1 hg hr, hs.2.1, boxed_step hs.2.2.1 hg (fun r e => (hr r e).2), reads_step hs.2.2.2.1 hg (fun r e => (hr r e).2), Nat.le_trans hs.2.2.2.2 hg.size⟩)
    (fun c s A C row hs hg hr => ⟨hs.1, hs.2.imp (fun ⟨q, x, h1, h2, h3, h4⟩ => ⟨q, x, h1, h2, h3, upJ hJ q A C row h4 hg hr⟩) (fun ⟨h1, h2⟩ => ⟨h1, upJ hJx s A C row h2 hg hr⟩)⟩)
    ⟨hJ0, by simp, by0, hr0, by omega⟩
    (fun x a' V => ∃ R, W.heap.size + 2 ≤ R ∧ V.heap[R]? = some (Obj.cells (rdA x.2) 48) ∧ a' = { tmps := #[.func (.yield l) #[] #[], .pointer (some ⟨Bs, 0, none⟩), .pointer (some ⟨W.heap.size, 0, none⟩), .int .i64 x.1, .pointer (some ⟨R, 0, none⟩), .slice ao zs.length cap, .func (.func 16) #[] #[.pointer (some ⟨W.heap.size + 1, 0, none⟩)], .int .i64 x.1, .agg (rdA x.2), undef, undef, undef, undef, undef, undef, undef, undef, undef, undef, undef], defers := [] })
    (fun x a' => Own.from (fun t A C row h hg hr => by
      obtain ⟨R, h1, h2, h3⟩ := h
      exact ⟨R, h1, row_step h2 hg hr, h3⟩) _)
    ?assign ?body ?done ?stop
  case assign =>
    intro l2 pre x V K hI hK
    obtain ⟨h1, h2, h3, h4, h5⟩ := hI
    have hfin := fun a' (ha : _) => hK a' (V.alloc (.cells (rdA x.2) 48)) (Upon.alloc _ V _) ⟨fun y => y.alloc _, fun y => y.below ((Below.refl _ V).alloc (by omega) _), fun b cs _ y => (Below.heap_alloc _ _ _ (Array.getElem?_eq_some_iff.1 y).1).trans y⟩ ⟨upJ hJ |>.alloc _ h1, h2, h3.alloc _, h4.below ((Below.refl _ V).alloc (by omega) _), by simp; omega⟩ ⟨V.heap.size, by omega, heap_alloc_last V _, ha⟩
    have HF := hid_of hfin
    clear hfin hK h1 h2 h3 h4
    gi_wp2
    exact HF.out _ rfl
  case body =>
    rintro l2 pre x a' V hl hrec ⟨h1, h2, h3, h4, h5⟩ ⟨R, hR5, hRh, rfl⟩ hlen hsp
    obtain ⟨d0, d1, d2, d3⟩ := rdCells hRh
    have c3 := h3.cell
    by_cases he : x.2.2.2.2 = 0
    · rw [he] at d3
      have d3' : V.cell? ⟨R, 3, none⟩ = some (.int .i64 0) := d3
      obtain ⟨fn, tmps, assign, body, hy, hRd⟩ := hY pre x V h1 hlen (ok_pre hsp (fun y hy => by rcases List.mem_append.1 hy with h | h; exact h2 y h; simp at h; subst h; exact he))
      have hy' : (Instr.yield l #[.int .i64 (x.1 : Int), .agg #[.int .u8 (x.2.1 : Int), .int .u32 (x.2.2.1 : Int)]]).run Try.prog V = .ok (.round l fn tmps assign body) V := hy
      have HA : Hid (∀ y ∈ pre ++ [x], y.2.2.2.2 = 0) := hid_of (fun y hy => by rcases List.mem_append.1 hy with h | h; exact h2 y h; simp at h; subst h; exact he)
      clear d3 hy hY hwf hrec hW hcW
      gi_wp2
      refine ⟨fun h => (by cases h), (round_wide hRd).mono ?_⟩
      rintro e V2 (⟨rfl, hJ2, hk2, hu2⟩ | ⟨rfl, hJ2, hu2⟩)
      · gi_wp2
        refine ⟨hu2.mono (by omega), ⟨fun y => hu2.at (by omega) y, fun y => ?_, fun b cs hb y => hu2.at hb y⟩, hJ2, HA.out, hu2.at (Nat.le_refl _) h3, hk2 h4, Nat.le_trans h5 hu2.size⟩
        exact (hk2 h4).mono hB0W
      · gi_wp2
        exact ⟨hu2.mono (by omega), rfl, .inr ⟨HA.out, hJ2⟩⟩
    · have he' : ¬ ((x.2.2.2.2 : Nat) : Int) = 0 := by omega
      have he2 : (((x.2.2.2.2 : Nat) : Int) != 0) = true := by simpa using he
      clear hY hwf hrec hW hcW
      gi_wp2
      refine ⟨fun _ h => (by cases h), ?_⟩
      gi_wp2
      exact ⟨Upon.refl _ _, rfl, .inl ⟨pre, x, rfl, he, h2, h1⟩⟩
  case done =>
    rintro D ys V hD hys ⟨h1, h2, h3, h4, h5⟩ hK
    have HE := hid_of (ok_bytes ys hys h2)
    clear hY hwf hcW hys
    gi_wp2
    refine ⟨by simp, .inl ⟨_, _, rfl, run_takeDeferred (w := V) hK, ?_⟩⟩
    refine ⟨_, results_none rfl _ _ _, ?_⟩
    exact ⟨⟨_, rfl⟩, .inl ⟨ys, HE.out, (upJ hJ).putObj _ h1 hD hK rfl⟩⟩
  case stop =>
    rintro D c pre V hD hpre ⟨rfl, hor⟩ hK
    have HO := hid_of hor
    have HP := hid_of hpre
    clear hY hwf hcW hor hpre
    gi_wp2
    refine ⟨by simp, .inl ⟨_, _, rfl, run_takeDeferred (w := V) hK, ?_⟩⟩
    refine ⟨_, results_none rfl _ _ _, ?_⟩
    rcases HO.out with ⟨q, x, rfl, hx, hq, hj⟩ | ⟨hq, hj⟩
    · exact ⟨⟨_, rfl⟩, .inl ⟨q, ok_last HP.out hq hx, (upJ hJ).putObj _ hj hD hK rfl⟩⟩
    · exact ⟨⟨_, rfl⟩, .inr ⟨pre, ok_pre HP.out hq, (upJ hJx).putObj _ hj hD hK rfl⟩⟩
end Go.Proofs.Ytgfgdkeeonolcaa
