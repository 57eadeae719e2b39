import Derived.Test.YtagflmjiajjkcaaDoorESl
namespace Go.Proofs.YtagflmjiajjkcaaDoor
open Go.RowKit Go.WideShapes
set_option maxRecDepth 100000

set_option maxHeartbeats 1000000 in
theorem ones300 (w : World) : Calls Tryd.prog 48 #[.int .u64 300] w fun e w' => e = .returned (.int .i64 4) ∧ w' = w := by
  go_enter Tryd.func48, Tryd.ntmps48
  go_wp2
  go_ret
  exact ⟨ret_int (by kernel_rfl), rfl⟩
theorem onesc300 (w : World) : Calls Tryd.prog 44 #[.int .u64 300] w fun e w' => e = .returned (.int .i64 4) ∧ w' = w := by
  have hO := ones300 w
  go_enter Tryd.func44, Tryd.ntmps44
  go_wp2_with (first
    | (go_at_call 48; with_reducible refine hO.mono ?_; rintro e wq ⟨rfl, hq⟩; subst wq)
    | fail)
  go_ret
  exact ⟨rfl, rfl⟩
theorem size300 (w : World) : Calls Tryd.prog 35 #[.int .i64 300] w fun e w' => e = .returned (.bool false) ∧ w' = w := by
  have hO := onesc300 w
  go_enter Tryd.func35, Tryd.ntmps35
  go_wp2_with (first
    | (go_at_call 44; with_reducible refine hO.mono ?_; rintro e wq ⟨rfl, hq⟩; subst wq)
    | fail)
  go_ret
  exact ⟨rfl, rfl⟩
theorem from300 (ao : Option Addr) (c : Nat) (w : World) : Calls Tryd.prog 17 #[.slice ao 300 c] w fun e w' => e = .returned (.tuple #[.pointer none, .int .i64 91]) ∧ w' = w := by
  have hO := size300 w
  go_enter Tryd.func17, Tryd.ntmps17
  go_wp2_with (first
    | (go_at_call 35; with_reducible refine hO.mono ?_; rintro e wq ⟨rfl, hq⟩; subst wq)
    | fail)
  go_ret2
  exact ⟨rfl, rfl⟩
theorem new17 (w : World) : Calls Tryd.prog 18 #[.int .i64 17] w fun e w' => e = .returned (.tuple #[.pointer none, .int .i64 90]) ∧ w' = w := by
  go_enter Tryd.func18, Tryd.ntmps18
  go_wp2
  go_ret2
  exact ⟨rfl, rfl⟩
theorem own_cellv {w : World} {B e sz n g c : Nat} {xs : List Value} (h : w.ownsRow B e sz (.slice (some ⟨g, 0, none⟩) n c) n xs) (i : Nat) (v : Value) (hv : xs[i]? = some v) : w.cell? ⟨g, i, none⟩ = some v := by
  have := h.cells (g := g) rfl i v hv
  have hadd : (⟨g, 0, none⟩ : Addr).add i = ⟨g, 0 + i, none⟩ := by unfold Addr.add; split <;> simp_all
  rw [hadd, Nat.zero_add] at this; exact this
set_option maxHeartbeats 4000000 in
theorem memnames_any (w : World) (hT : Tab w) (h1 : 1 < w.heap.size) :
    Calls Tryd.prog 3 #[] w fun e w' => e = .returned (.bool true) ∧ Below w.heap.size w w' := by
  obtain ⟨b1, hb1⟩ : ∃ b1, b1 = wrL (ramp 256) 2 (rdL (ramp 256) 0 4) := ⟨_, rfl⟩
  have l1 : b1.length = 256 := by rw [hb1, wrL_len, ramp_len]
  have f1 : n4 (rdL b1 2 4) = 50462976 := by rw [hb1]; kernel_rfl
  have f2 : n4 (rdL b1 4 4) = 117834498 := by rw [hb1]; kernel_rfl
  have t1 : lgL true [] (tcs 255 2 b1.length false) = [(255, false), (0, false)] := by rw [l1]; kernel_rfl
  have t2 : lgL true [(255, false), (0, false)] (tcs 7 1 b1.length true) = [(255, false), (0, false), (7, true)] := by rw [l1]; kernel_rfl
  have hAw : Calls Tryd.prog 8 #[] w fun e w' => e = .returned (.bool true) ∧ Hid (Below w.heap.size w w') := (awake_any w hT h1).mono fun e w' h => h
  have hMd : Hid (∀ W, Below w.heap.size w W → Calls Tryd.prog 9 #[.int .u8 0, .slice none 0 0] W fun e w' => ∃ a, e = .returned (.pointer (some ⟨a, 0, none⟩)) ∧ Hid ((∃ ts, SegL w.heap.size false w' a (ramp 256) ts) ∧ Below w.heap.size w w')) := fun W hW =>
    (made0_any W).mono fun e w' ⟨a, he, hS, hbl⟩ => ⟨a, he, by obtain ⟨ts, g, cap, tv, h1, h2⟩ := hS.segl; exact ⟨ts, g, cap, tv, h1, fun k hk => Nat.le_trans hW.size (h2 k hk)⟩, hW.trans (hbl.mono hW.size)⟩
  have hCp : Hid (∀ a W, (∃ ts, SegL w.heap.size false W a (ramp 256) ts) → Below w.heap.size w W → Calls Tryd.prog 10 #[.pointer (some ⟨a, 0, none⟩), .int .u32 2, .int .u32 0, .int .u32 4] W fun e w' => e = .returned (.int .i64 0) ∧ Hid ((∃ ts, SegL w.heap.size false w' a b1 ts) ∧ Below w.heap.size w w')) := fun a W ⟨ts, hS⟩ hW =>
    (copy_l _ a 2 0 4 false _ ts W hS hW.size (by decide) (by decide) (by decide)).mono fun e w' ⟨he, q1, q2⟩ => ⟨he, ⟨_, by rw [hb1]; exact q1⟩, hW.trans q2⟩
  have hL2 : Hid (∀ a W, (∃ ts, SegL w.heap.size false W a b1 ts) → Below w.heap.size w W → Calls Tryd.prog 11 #[.pointer (some ⟨a, 0, none⟩), .int .u32 2] W fun e w' => e = .returned (.int .u32 50462976) ∧ Hid ((∃ ts, SegL w.heap.size false w' a b1 ts) ∧ Below w.heap.size w w')) := fun a W ⟨ts, hS⟩ hW =>
    (load4_l _ a 2 false _ ts W hS hW.size (by decide)).mono fun e w' ⟨he, q1, q2⟩ => ⟨by rw [he, f1], ⟨_, q1⟩, hW.trans q2⟩
  have hL4 : Hid (∀ a W, (∃ ts, SegL w.heap.size false W a b1 ts) → Below w.heap.size w W → Calls Tryd.prog 11 #[.pointer (some ⟨a, 0, none⟩), .int .u32 4] W fun e w' => e = .returned (.int .u32 117834498) ∧ Hid ((∃ ts, SegL w.heap.size false w' a b1 ts) ∧ Below w.heap.size w w')) := fun a W ⟨ts, hS⟩ hW =>
    (load4_l _ a 4 false _ ts W hS hW.size (by decide)).mono fun e w' ⟨he, q1, q2⟩ => ⟨by rw [he, f2], ⟨_, q1⟩, hW.trans q2⟩
  have hCl : Hid (∀ a W, (∃ ts, SegL w.heap.size false W a b1 ts) → Below w.heap.size w W → Calls Tryd.prog 10 #[.pointer (some ⟨a, 0, none⟩), .int .u32 0, .int .u32 0, .int .u32 4097] W fun e w' => e = .returned (.int .i64 92) ∧ Hid ((∃ ts, SegL w.heap.size false w' a b1 ts) ∧ Below w.heap.size w w')) := fun a W ⟨ts, hS⟩ hW =>
    (copy_ll _ a 4097 _ _ false _ ts W hS (by decide)).mono fun e w' ⟨he, q1, q2⟩ => ⟨he, ⟨_, q1⟩, hW.trans q2⟩
  have hLg : Hid (∀ a W, (∃ ts, SegL w.heap.size false W a b1 ts) → Below w.heap.size w W → Calls Tryd.prog 12 #[.pointer (some ⟨a, 0, none⟩), .bool true] W fun e w' => e = .returned (.tuple #[]) ∧ Hid (SegL w.heap.size true w' a b1 [] ∧ Below w.heap.size w w')) := fun a W ⟨ts, hS⟩ hW =>
    (log_l _ a false true _ ts W hS hW.size).mono fun e w' ⟨he, q1, q2⟩ => ⟨he, q1, hW.trans q2⟩
  have hLd : Hid (∀ a W, SegL w.heap.size true W a b1 [] → Below w.heap.size w W → Calls Tryd.prog 13 #[.pointer (some ⟨a, 0, none⟩), .int .u32 255] W fun e w' => ∃ x, e = .returned (.int .u32 x) ∧ Hid (SegL w.heap.size true w' a b1 [(255, false), (0, false)] ∧ Below w.heap.size w w')) := fun a W hS hW =>
    (load2_l _ a 255 true _ _ W hS hW.size (by decide)).mono fun e w' ⟨he, q1, q2⟩ => ⟨_, he, by rw [t1] at q1; exact q1, hW.trans q2⟩
  have hSt : Hid (∀ a W, SegL w.heap.size true W a b1 [(255, false), (0, false)] → Below w.heap.size w W → Calls Tryd.prog 14 #[.pointer (some ⟨a, 0, none⟩), .int .u32 7, .int .u32 9] W fun e w' => e = .returned (.tuple #[]) ∧ Hid (SegL w.heap.size true w' a (wrL b1 7 ((by4 9).take 1)) [(255, false), (0, false), (7, true)] ∧ Below w.heap.size w w')) := fun a W hS hW =>
    (store1_l _ a 7 9 true _ _ W hS hW.size (by decide) (by decide)).mono fun e w' ⟨he, q1, q2⟩ => ⟨he, by rw [t2] at q1; exact q1, hW.trans q2⟩
  generalize wrL b1 7 ((by4 9).take 1) = b2 at *
  have hTc : Hid (∀ a W, SegL w.heap.size true W a b2 [(255, false), (0, false), (7, true)] → Below w.heap.size w W → Calls Tryd.prog 15 #[.pointer (some ⟨a, 0, none⟩)] W fun e w' => ∃ g c, e = .returned (.slice (some ⟨g, 0, none⟩) 3 c) ∧
      (w'.cell? ⟨g, 0, none⟩ = some (.int .u32 255) ∧ w'.cell? ⟨g, 1, none⟩ = some (.bool false) ∧ w'.cell? ⟨g, 2, none⟩ = some (.int .u32 0) ∧ w'.cell? ⟨g, 3, none⟩ = some (.bool false) ∧ w'.cell? ⟨g, 4, none⟩ = some (.int .u32 7) ∧ w'.cell? ⟨g, 5, none⟩ = some (.bool true)) ∧ Hid (SegL w.heap.size true w' a b2 [] ∧ Below w.heap.size w w')) := fun a W hS hW =>
    (touched_l _ a true _ _ W hS hW.size).mono fun e w' ⟨tv, he, q1, q2, q3, q4⟩ => by
      obtain ⟨g, c, rfl, _⟩ := own_form q3 (by decide)
      exact ⟨g, c, he, ⟨own_cellv q3 0 _ rfl, own_cellv q3 1 _ rfl, own_cellv q3 2 _ rfl, own_cellv q3 3 _ rfl, own_cellv q3 4 _ rfl, own_cellv q3 5 _ rfl⟩, q1, hW.trans q2⟩
  have hTe : Hid (∀ a W, SegL w.heap.size true W a b2 [] → Below w.heap.size w W → Calls Tryd.prog 15 #[.pointer (some ⟨a, 0, none⟩)] W fun e w' => ∃ ao c, e = .returned (.slice ao 0 c) ∧ Hid (SegL w.heap.size true w' a b2 [] ∧ Below w.heap.size w w')) := fun a W hS hW =>
    (touched_l _ a true _ _ W hS hW.size).mono fun e w' ⟨tv, he, q1, q2, q3, q4⟩ => by
      obtain ⟨ao, c, rfl⟩ := own_slice q3
      exact ⟨ao, c, he, q1, hW.trans q2⟩
  have hRd : Hid (∀ a W, SegL w.heap.size true W a b2 [] → Calls Tryd.prog 16 #[.pointer (some ⟨a, 0, none⟩), .int .u32 0, .int .i64 (-1)] W fun e w' => e = .returned (.tuple #[.slice none 0 0, .int .i64 92]) ∧ w' = W) := fun a W hS =>
    read_bad _ a _ (-1) true _ _ W hS (.inl (by decide))
  have hMk : Hid (∀ W, ∃ w1, (Instr.makeSlice 35 (.int .i64 300) (.int .i64 300)).run Tryd.prog W = .ok (.slice (some ⟨W.heap.size, 0, none⟩) 300 300) w1 ∧ Hid (Below W.heap.size W w1)) := fun W => by
    obtain ⟨w1, q1, _, q3⟩ := make_any .i64 300 (by decide) W
    exact ⟨w1, q1, q3⟩
  have hFr := fun ao c W => from300 ao c W
  have hNw := fun W => new17 W
  clear t1 t2 f1 f2 l1 hb1 hT h1
  go_enter Tryd.func3, Tryd.ntmps3
  go_wp2_with (first
    | (go_at_call 8; with_reducible refine hAw.mono ?_; rintro e w1 ⟨rfl, HQ1⟩)
    | (go_at_call 9; with_reducible refine (hMd.out _ HQ1.out).mono ?_; rintro e w2 ⟨a, rfl, HQ2⟩)
    | (go_at_call 10; with_reducible refine (hCp.out _ _ HQ2.out.1 HQ2.out.2).mono ?_; rintro e w3 ⟨rfl, HQ3⟩)
    | (go_at_call 11; with_reducible refine (hL2.out _ _ HQ3.out.1 HQ3.out.2).mono ?_; rintro e w4 ⟨rfl, HQ4⟩)
    | (go_at_call 11; with_reducible refine (hL4.out _ _ HQ4.out.1 HQ4.out.2).mono ?_; rintro e w5 ⟨rfl, HQ5⟩)
    | (go_at_call 10; with_reducible refine (hCl.out _ _ HQ5.out.1 HQ5.out.2).mono ?_; rintro e w6 ⟨rfl, HQ6⟩)
    | (go_at_call 12; with_reducible refine (hLg.out _ _ HQ6.out.1 HQ6.out.2).mono ?_; rintro e w7 ⟨rfl, HQ7⟩)
    | (go_at_call 13; with_reducible refine (hLd.out _ _ HQ7.out.1 HQ7.out.2).mono ?_; rintro e w8 ⟨x8, rfl, HQ8⟩)
    | (go_at_call 14; with_reducible refine (hSt.out _ _ HQ8.out.1 HQ8.out.2).mono ?_; rintro e w9 ⟨rfl, HQ9⟩)
    | (go_at_call 15; with_reducible refine (hTe.out _ _ HQ10.out.1 HQ10.out.2).mono ?_; rintro e w11 ⟨ao, c11, rfl, HQ11⟩)
    | (go_at_call 15; with_reducible refine (hTc.out _ _ HQ9.out.1 HQ9.out.2).mono ?_; rintro e w10 ⟨g, c, rfl, ⟨d0, d1, d2, d3, d4, d5⟩, HQ10⟩)
    | (go_at_call 16; with_reducible refine (hRd.out _ _ HQ11.out.1).mono ?_; rintro e wq ⟨rfl, hq⟩; subst wq; obtain ⟨w12, hmk, HQ12⟩ := hMk.out w11)
    | (go_at_call 17; with_reducible refine (hFr _ _ _).mono ?_; rintro e wq ⟨rfl, hq⟩; subst wq)
    | (go_at_call 18; with_reducible refine (hNw _).mono ?_; rintro e wq ⟨rfl, hq⟩; subst wq)
    | fail)
  go_ret
  exact ⟨rfl, HQ11.out.2.trans (HQ12.out.mono HQ11.out.2.size)⟩
end Go.Proofs.YtagflmjiajjkcaaDoor
