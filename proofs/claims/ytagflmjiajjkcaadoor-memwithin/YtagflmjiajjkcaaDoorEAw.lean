import Derived.Test.YtagflmjiajjkcaaDoorEFr
namespace Go.Proofs.YtagflmjiajjkcaaDoor
open Go.RowKit Go.WideShapes
set_option maxRecDepth 100000

/-- Go's table, as far as it is read here -/
def Tab (w : World) : Prop := w.cell? ⟨1, 61, none⟩ = some (.int .u8 8)
theorem Tab.below {B : Nat} {w w' : World} (h : Tab w) (hb : Below B w w') (hB : 1 < B) : Tab w' := (hb.cell (p := ⟨1, 61, none⟩) hB).trans h
theorem tz64_any (w : World) (hT : Tab w) : Calls Tryd.prog 46 #[.int .u64 256] w fun e w' => e = .returned (.int .i64 8) ∧ w' = w := by
  have hb : bits .and .u64 256 18446744073709551360 = 256 := by kernel_rfl
  have hw0 : IntKind.u64.wrap (-256) = 18446744073709551360 := by kernel_rfl
  have hw1 : IntKind.u64.wrap 73182774541146589440 = 17842542320017934592 := by kernel_rfl
  have hc : w.cell? ⟨1, 61, none⟩ = some (.int .u8 8) := hT
  go_enter Tryd.func46, Tryd.ntmps46
  go_wp2
  go_ret
  exact ⟨rfl, rfl⟩
theorem tz_any (w : World) (hT : Tab w) : Calls Tryd.prog 39 #[.int .u64 256] w fun e w' => e = .returned (.int .i64 8) ∧ w' = w := by
  have hO := tz64_any w hT
  go_enter Tryd.func39, Tryd.ntmps39
  go_wp2_with (first
    | (go_at_call 46; with_reducible refine hO.mono ?_; rintro e wq ⟨rfl, hq⟩; subst wq)
    | fail)
  go_ret
  exact ⟨rfl, rfl⟩
theorem bits8_any (B a : Nat) (bs : List Int) (w : World) (hS : Seg B w a bs) (hl : bs.length = 256) (hT : Tab w) :
    Calls Tryd.prog 29 #[.pointer (some ⟨a, 0, none⟩)] w fun e w' => e = .returned (.int .i64 8) ∧ w' = w := by
  obtain ⟨g, cap, tv, ts, h, _⟩ := hS
  have hO := tz_any w hT
  have hM := made_yes a w ((obj_cell h.obj 0).trans rfl)
  have c1 : w.cell? ⟨a, 1, none⟩ = some (.slice (some ⟨g, 0, none⟩) 256 cap) := by rw [← hl]; exact (obj_cell h.obj 1).trans rfl
  clear h hT
  go_enter Tryd.func29, Tryd.ntmps29
  go_wp2_with (first
    | (go_at_call 30; with_reducible refine hM.mono ?_; rintro e wq ⟨rfl, hq⟩; subst wq)
    | (go_at_call 39; with_reducible refine hO.mono ?_; rintro e wq ⟨rfl, hq⟩; subst wq)
    | fail)
  go_ret
  exact ⟨rfl, rfl⟩
theorem Seg.below {B a : Nat} {bs : List Int} {w w' : World} (h : Seg B w a bs) (hb : Below w.heap.size w w') : Seg B w' a bs := by
  obtain ⟨g, cap, tv, ts, h, h2⟩ := h
  exact ⟨g, cap, tv, ts, h.kept (S := fun _ => False) (Kp.ofBelow hb) (fun _ _ h => h), h2⟩
set_option maxHeartbeats 1000000 in
theorem bytes_any (B a : Nat) (bs : List Int) (w : World) (hS : Seg B w a bs) :
    Calls Tryd.prog 21 #[.pointer (some ⟨a, 0, none⟩)] w fun e w' => ∃ g c, e = .returned (.slice (some ⟨g, 0, none⟩) bs.length c) ∧ w'.ownsRow w.heap.size 5 1 (.slice (some ⟨g, 0, none⟩) bs.length c) bs.length (bv bs) ∧ Below w.heap.size w w' := by
  obtain ⟨g, cap, tv, ts, h, _⟩ := hS
  have hb := h.pw.bd
  have hM := made_yes a w ((obj_cell h.obj 0).trans rfl)
  have c1 : w.cell? ⟨a, 1, none⟩ = some (.slice (some ⟨g, 0, none⟩) bs.length cap) := (obj_cell h.obj 1).trans rfl
  have hC := clone_any (some ⟨g, 0, none⟩) cap bs w (by omega) (fun e => by cases e) (reads_own h.row (by simp))
  have HC : Hid (Calls Tryd.prog 37 #[.slice (some ⟨g, 0, none⟩) bs.length cap] w fun e w1 => ∃ g c, e = .returned (.slice (some ⟨g, 0, none⟩) bs.length c) ∧ Hid (w1.ownsRow w.heap.size 5 1 (.slice (some ⟨g, 0, none⟩) bs.length c) bs.length (bv bs) ∧ Below w.heap.size w w1)) := hC.mono fun e w1 ⟨v, he, ho, hb⟩ => by
    obtain ⟨g, c, rfl, _⟩ := own_form ho (by omega)
    exact ⟨g, c, he, ho, hb⟩
  clear h hC
  go_enter Tryd.func21, Tryd.ntmps21
  go_wp2_with (first
    | (go_at_call 30; with_reducible refine hM.mono ?_; rintro e wq ⟨rfl, hq⟩; subst wq)
    | (go_at_call 37; with_reducible refine HC.out.mono ?_; rintro e w1 ⟨g2, c2, rfl, HQ⟩)
    | fail)
  go_ret
  exact ⟨_, _, rfl, HQ.out.1, HQ.out.2⟩
set_option maxHeartbeats 1000000 in
theorem writes_any (B a x cap : Nat) (bo : Option Addr) (bs zs : List Int) (w : World) (hS : Seg B w a bs) (hB : B ≤ w.heap.size) (hx : x < 4294967296) (hn : zs.length ≤ 4096) (hc : zs.length ≤ cap) (hwf : ∀ z ∈ zs, 0 ≤ z ∧ z ≤ 255) (hr : Reads w bo zs B) :
    Calls Tryd.prog 25 #[.pointer (some ⟨a, 0, none⟩), .int .u32 x, .slice bo zs.length cap] w fun e w' => e = .returned (.int .i64 0) ∧ Seg B w' a (wrL bs x zs) ∧ Below B w w' := by
  obtain ⟨g, cp, tv, ts, h, ha, hg, ht⟩ := hS
  have hM := made_yes a w ((obj_cell h.obj 0).trans rfl)
  have hW : Calls Tryd.prog 32 #[.pointer (some ⟨a, 0, none⟩), .int .u32 x, .slice bo zs.length cap] w fun e w' => e = .returned (.tuple #[]) ∧ Hid (Seg B w' a (wrL bs x zs) ∧ Below B w w') := by
    by_cases h0 : 0 < zs.length
    · obtain ⟨b, off, rfl, hlt, hcell⟩ := hr h0
      refine (write_any false (note_ok_off _ _) a g cp cap x zs.length b off (some ⟨b, off, none⟩) bs zs tv ts w h hx (by omega) rfl hc hwf (fun _ => ⟨rfl, by omega, hcell⟩) ?_).mono fun e w' ⟨he, h1, h2⟩ => ⟨he, Seg.after h ha hg ht hB h1 h2⟩
      rintro (e | e | e)
      · omega
      · omega
      · have := ht b e; omega
    · refine (write_any false (note_ok_off _ _) a g cp cap x zs.length w.heap.size 0 bo bs zs tv ts w h hx (by omega) rfl hc hwf (fun h => absurd h h0) ?_).mono fun e w' ⟨he, h1, h2⟩ => ⟨he, Seg.after h ha hg ht hB h1 h2⟩
      intro hF
      have := h.lt _ hF
      omega
  have hI : ¬ (4096 : Int) < (zs.length : Int) := by omega
  clear h hwf hr
  go_enter Tryd.func25, Tryd.ntmps25
  go_wp2_with (first
    | (go_at_call 30; with_reducible refine hM.mono ?_; rintro e wq ⟨rfl, hq⟩; subst wq)
    | (go_at_call 32; with_reducible refine hW.mono ?_; rintro e w1 ⟨rfl, HQ⟩)
    | fail)
  go_ret
  exact ⟨rfl, HQ.out.1, HQ.out.2⟩
set_option maxHeartbeats 1000000 in
theorem reads_any (B a x n : Nat) (bs : List Int) (w : World) (hS : Seg B w a bs) (hB : B ≤ w.heap.size) (hx : x < 4294967296) (hn : n ≤ 4096) :
    Calls Tryd.prog 16 #[.pointer (some ⟨a, 0, none⟩), .int .u32 x, .int .i64 n] w fun e w' => ∃ gw, e = .returned (.tuple #[.slice (some ⟨gw, 0, none⟩) n n, .int .i64 0]) ∧ Reads w' (some ⟨gw, 0, none⟩) (rdL bs x n) w'.heap.size ∧ Seg B w' a bs ∧ Below B w w' := by
  obtain ⟨g, cp, tv, ts, h, ha, hg, ht⟩ := hS
  have hM := made_yes a w ((obj_cell h.obj 0).trans rfl)
  obtain ⟨w1, hm, hrow, hb⟩ := make_any .i64 n (by omega) w
  have h1 := h.kept (S := fun _ => False) (Kp.ofBelow hb) (fun _ _ h => h)
  have hR : Calls Tryd.prog 31 #[.pointer (some ⟨a, 0, none⟩), .int .u32 x, .slice (some ⟨w.heap.size, 0, none⟩) n n] w1 fun e w2 => e = .returned (.tuple #[]) ∧ Hid (Reads w2 (some ⟨w.heap.size, 0, none⟩) (rdL bs x n) w2.heap.size ∧ Seg B w2 a bs ∧ Below B w w2) := by
    rcases hrow.2 with ⟨e, _⟩ | ⟨g', cap', cur, e, _, hg', _, _, hs, htk⟩
    · simp at e
    · simp only [Value.slice.injEq, Option.some.injEq, Addr.mk.injEq, true_and, and_true] at e
      obtain ⟨rfl, rfl⟩ := e
      have hcur : cur = (bv (List.replicate n 0) ++ []).toArray := by
        rw [Nat.mul_one, List.take_of_length_le (by simpa using Nat.le_of_eq hs)] at htk
        rw [List.append_nil, ← htk]
      rw [hcur] at hg'
      have hwlt : w.heap.size < w1.heap.size := (Array.getElem?_eq_some_iff.1 hg').1
      refine (read_any false (note_ok_off _ _) a g cp w.heap.size n x n bs (List.replicate n 0) [] 5 tv ts w1 h1 hx (by omega) hg' (by simp) (Nat.le_refl _) (by unfold maxLen; omega) (fun hF => by have := h.lt _ hF; omega)).mono fun e w2 ⟨he, ⟨tv', k1, k2⟩, k3, k4⟩ => ⟨he, ?_, ?_, ?_⟩
      · intro _
        refine ⟨w.heap.size, 0, rfl, (Array.getElem?_eq_some_iff.1 k4).1, fun j hj => ?_⟩
        rw [obj_cell k4 (0 + j), Nat.zero_add]
        rw [rdL_len] at hj
        have hj2 : j < (rdL bs x n).length := by rw [rdL_len]; exact hj
        simp [bv, hj2]
      · exact ⟨g, cp, tv', ts, k1, ha, hg, fun k hk => (k2 k hk).elim (ht k) (fun h => by omega)⟩
      · refine (hb.mono hB).trans (k3.below (by omega) ?_)
        rintro i ((e | e | e) | e)
        · omega
        · omega
        · exact ht i e
        · omega
  have hI0 : ¬ (n : Int) < 0 := by omega
  have hI : ¬ (4096 : Int) < (n : Int) := by omega
  clear h h1 hrow hb
  go_enter Tryd.func16, Tryd.ntmps16
  go_wp2_with (first
    | (go_at_call 30; with_reducible refine hM.mono ?_; rintro e wq ⟨rfl, hq⟩; subst wq)
    | (go_at_call 31; with_reducible refine hR.mono ?_; rintro e w2 ⟨rfl, HQ⟩)
    | fail)
  go_ret2
  exact ⟨_, rfl, HQ.out.1, HQ.out.2.1, HQ.out.2.2⟩
end Go.Proofs.YtagflmjiajjkcaaDoor
