import Derived.Test.YtcmfephbhbgoiaaDoorEFr
namespace Go.Proofs.YtcmfephbhbgoiaaDoor
open Go.RowKit Go.WideShapes
set_option maxRecDepth 100000

/-- Go's table, as far as it is read here -/
def Tab (w : World) : Prop := w.cell? ⟨1, 61, none⟩ = some (.int .u8 8)
theorem Tab.below {B : Nat} {w w' : World} (h : Tab w) (hb : Below B w w') (hB : 1 < B) : Tab w' := (hb.cell (p := ⟨1, 61, none⟩) hB).trans h
theorem tz64_any (w : World) (hT : Tab w) : Calls Tryd.prog 66 #[.int .u64 256] w fun e w' => e = .returned (.int .i64 8) ∧ w' = w := by
  have hb : bits .and .u64 256 18446744073709551360 = 256 := by kernel_rfl
  have hw0 : IntKind.u64.wrap (-256) = 18446744073709551360 := by kernel_rfl
  have hw1 : IntKind.u64.wrap 73182774541146589440 = 17842542320017934592 := by kernel_rfl
  have hc : w.cell? ⟨1, 61, none⟩ = some (.int .u8 8) := hT
  go_enter Tryd.func66, Tryd.ntmps66
  go_wp2
  go_ret
  exact ⟨rfl, rfl⟩
theorem tz_any (w : World) (hT : Tab w) : Calls Tryd.prog 48 #[.int .u64 256] w fun e w' => e = .returned (.int .i64 8) ∧ w' = w := by
  have hO := tz64_any w hT
  go_enter Tryd.func48, Tryd.ntmps48
  go_wp2_with (first
    | (go_at_call 66; with_reducible refine hO.mono ?_; rintro e wq ⟨rfl, hq⟩; subst wq)
    | fail)
  go_ret
  exact ⟨rfl, rfl⟩
theorem bits8_any (B a : Nat) (bs : List Int) (w : World) (hS : Seg B w a bs) (hl : bs.length = 256) (hT : Tab w) :
    Calls Tryd.prog 40 #[.pointer (some ⟨a, 0, none⟩)] w fun e w' => e = .returned (.int .i64 8) ∧ w' = w := by
  obtain ⟨g, cap, tv, ts, h, _⟩ := hS
  have hO := tz_any w hT
  have hM := made_yes a w ((obj_cell h.obj 0).trans rfl)
  have c1 : w.cell? ⟨a, 1, none⟩ = some (.slice (some ⟨g, 0, none⟩) 256 cap) := by rw [← hl]; exact (obj_cell h.obj 1).trans rfl
  clear h hT
  go_enter Tryd.func40, Tryd.ntmps40
  go_wp2_with (first
    | (go_at_call 37; with_reducible refine hM.mono ?_; rintro e wq ⟨rfl, hq⟩; subst wq)
    | (go_at_call 48; with_reducible refine hO.mono ?_; rintro e wq ⟨rfl, hq⟩; subst wq)
    | fail)
  go_ret
  exact ⟨rfl, rfl⟩
theorem Seg.below {B a : Nat} {bs : List Int} {w w' : World} (h : Seg B w a bs) (hb : Below w.heap.size w w') : Seg B w' a bs := by
  obtain ⟨g, cap, tv, ts, h, h2⟩ := h
  exact ⟨g, cap, tv, ts, h.kept (S := fun _ => False) (Kp.ofBelow hb) (fun _ _ h => h), h2⟩
set_option maxHeartbeats 1000000 in
theorem bytes_any (B a : Nat) (bs : List Int) (w : World) (hS : Seg B w a bs) :
    Calls Tryd.prog 18 #[.pointer (some ⟨a, 0, none⟩)] w fun e w' => ∃ g c, e = .returned (.slice (some ⟨g, 0, none⟩) bs.length c) ∧ w'.ownsRow w.heap.size 5 1 (.slice (some ⟨g, 0, none⟩) bs.length c) bs.length (bv bs) ∧ Below w.heap.size w w' := by
  obtain ⟨g, cap, tv, ts, h, _⟩ := hS
  have hb := h.pw.bd
  have hM := made_yes a w ((obj_cell h.obj 0).trans rfl)
  have c1 : w.cell? ⟨a, 1, none⟩ = some (.slice (some ⟨g, 0, none⟩) bs.length cap) := (obj_cell h.obj 1).trans rfl
  have hC := clone_any (some ⟨g, 0, none⟩) cap bs w (by omega) (fun e => by cases e) (reads_own h.row (by simp))
  have HC : Hid (Calls Tryd.prog 36 #[.slice (some ⟨g, 0, none⟩) bs.length cap] w fun e w1 => ∃ g c, e = .returned (.slice (some ⟨g, 0, none⟩) bs.length c) ∧ Hid (w1.ownsRow w.heap.size 5 1 (.slice (some ⟨g, 0, none⟩) bs.length c) bs.length (bv bs) ∧ Below w.heap.size w w1)) := hC.mono fun e w1 ⟨v, he, ho, hb⟩ => by
    obtain ⟨g, c, rfl, _⟩ := own_form ho (by omega)
    exact ⟨g, c, he, ho, hb⟩
  clear h hC
  go_enter Tryd.func18, Tryd.ntmps18
  go_wp2_with (first
    | (go_at_call 37; with_reducible refine hM.mono ?_; rintro e wq ⟨rfl, hq⟩; subst wq)
    | (go_at_call 36; with_reducible refine HC.out.mono ?_; rintro e w1 ⟨g2, c2, rfl, HQ⟩)
    | fail)
  go_ret
  exact ⟨_, _, rfl, HQ.out.1, HQ.out.2⟩
set_option maxHeartbeats 1000000 in
theorem writes_any (B a x cap : Nat) (bo : Option Addr) (bs zs : List Int) (w : World) (hS : Seg B w a bs) (hB : B ≤ w.heap.size) (hx : x < 4294967296) (hn : zs.length ≤ 4096) (hc : zs.length ≤ cap) (hwf : ∀ z ∈ zs, 0 ≤ z ∧ z ≤ 255) (hr : Reads w bo zs B) :
    Calls Tryd.prog 34 #[.pointer (some ⟨a, 0, none⟩), .int .u32 x, .slice bo zs.length cap] w fun e w' => e = .returned (.int .i64 0) ∧ Seg B w' a (wrL bs x zs) ∧ Below B w w' := by
  obtain ⟨g, cp, tv, ts, h, ha, hg, ht⟩ := hS
  have hM := made_yes a w ((obj_cell h.obj 0).trans rfl)
  have hW : Calls Tryd.prog 45 #[.pointer (some ⟨a, 0, none⟩), .int .u32 x, .slice bo zs.length cap] w fun e w' => e = .returned (.tuple #[]) ∧ Hid (Seg B w' a (wrL bs x zs) ∧ Below B w w') := by
    by_cases h0 : 0 < zs.length
    · obtain ⟨b, off, rfl, hlt, hcell⟩ := hr h0
      refine (write_any false (note_ok_off _ _) a g cp cap x zs.length b off (some ⟨b, off, none⟩) bs zs tv ts w h hx (by omega) rfl hc hwf (fun _ => ⟨rfl, by omega, hcell⟩) ?_).mono fun e w' ⟨he, h1, h2⟩ => ⟨he, Seg.after h ha hg ht hB h1 h2⟩
      rintro (e | e | e)
      · omega
      · omega
      · have := ht b e; omega
    · refine (write_any false (note_ok_off _ _) a g cp cap x zs.length w.heap.size 0 bo bs zs tv ts w h hx (by omega) rfl hc hwf (fun h => absurd h h0) ?_).mono fun e w' ⟨he, h1, h2⟩ => ⟨he, Seg.after h ha hg ht hB h1 h2⟩
      intro hF
      have := h.lt _ hF
      omega
  have hI : ¬ (4096 : Int) < (zs.length : Int) := by omega
  clear h hwf hr
  go_enter Tryd.func34, Tryd.ntmps34
  go_wp2_with (first
    | (go_at_call 37; with_reducible refine hM.mono ?_; rintro e wq ⟨rfl, hq⟩; subst wq)
    | (go_at_call 45; with_reducible refine hW.mono ?_; rintro e w1 ⟨rfl, HQ⟩)
    | fail)
  go_ret
  exact ⟨rfl, HQ.out.1, HQ.out.2⟩
end Go.Proofs.YtcmfephbhbgoiaaDoor
