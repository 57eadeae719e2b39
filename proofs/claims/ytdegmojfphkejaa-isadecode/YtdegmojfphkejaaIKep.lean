import Derived.Test.YtdegmojfphkejaaILen
namespace Go.Proofs.Ytdegmojfphkejaa
open Go.RowKit
set_option maxRecDepth 100000

theorem gC {w W : World} {b o : Nat} {v0 v1 : Value} (hb : b < w.heap.size) (h0 : w.cell? ⟨b, o, none⟩ = some v0) (h1 : w.cell? ⟨b, o + 1, none⟩ = some v1) (h : Below w.heap.size w W) : W.cell? ⟨b, o, none⟩ = some v0 ∧ W.cell? ⟨b, o + 1, none⟩ = some v1 :=
  ⟨(h.cell (p := ⟨b, o, none⟩) hb).trans h0, (h.cell (p := ⟨b, o + 1, none⟩) hb).trans h1⟩
theorem getD_app_left {L M : List (Nat × Nat)} {k : Nat} (h : k < L.length) : (L ++ M).getD k (0, 0) = L.getD k (0, 0) := by
  simp [List.getD, List.getElem?_append_left h]
theorem getD_app_right {L M : List (Nat × Nat)} {j : Nat} : (L ++ M).getD (L.length + j) (0, 0) = M.getD j (0, 0) := by
  simp only [List.getD]
  rw [List.getElem?_append_right (by omega), Nat.add_sub_cancel_left]
theorem mksC_get {j : Nat} (h : j < 64) : (mksC 64).getD j (0, 0) = (200, 1000003 + j) := by
  simp [mksC, mk0, List.getD, h]
set_option maxRecDepth 100000 in
set_option maxHeartbeats 2000000 in
theorem keptc_any (ao : Option Addr) (cap : Nat) (L : List (Nat × Nat)) (g capF : Nat) (w : World) (hn : L.length ≤ 17592186044352) (hr : CRd w ao L w.heap.size)
    (hcl : CRd w (some ⟨g, 0, none⟩) (L ++ mksC 64) w.heap.size) :
    Calls Try.prog 18 #[.slice (some ⟨g, 0, none⟩) (L.length + 64) capF, .slice ao L.length cap] w fun e w' => e = .returned (.bool true) ∧ Below w.heap.size w w' := by
  obtain ⟨b', off', e', hgl, hcc⟩ := hcl (by simp [mksC_len])
  simp only [Option.some.injEq, Addr.mk.injEq] at e'
  obtain ⟨rfl, rfl, _⟩ := e'
  have HC := hid_of hcc
  clear hcc hcl
  go_enter Try.func18, Try.ntmps18
  go_wp2
  go_loopw [5] (fun i wr => ∃ k : Nat, k ≤ L.length ∧ i = .int .i64 k ∧ Below w.heap.size w wr)
    (fun i _ => L.length - (intOf i).toNat)
  case atStart => exact ⟨0, Nat.zero_le _, rfl, Below.refl _ _⟩
  case round =>
    obtain ⟨k, hk, rfl, hb⟩ := hrel
    by_cases hlt : k < L.length
    · obtain ⟨b, off, rfl, hbl, hc⟩ := (hr.below hb) (by omega)
      obtain ⟨x0, x1⟩ := hc k hlt
      have hk0 := HC.out k (by simp [mksC_len]; omega)
      rw [getD_app_left hlt, Nat.zero_add] at hk0
      obtain ⟨y0, y1⟩ := gC hgl hk0.1 hk0.2 hb
      clear hc hk0
      generalize L.getD k (0, 0) = c at x0 x1 y0 y1
      have hlt' : (k : Int) < (L.length : Int) := by omega
      have hlt2 : (k : Int) < (L.length : Int) + 64 := by omega
      go_wp2
      go_quiet (fail)
      go_wp2
      go_roundw
      case rel => exact ⟨k + 1, by omega, by go_num, bt hb (below_drew0 _)⟩
      case measure => simp [intOf]; omega
    · go_wp2
      go_loopw [6] (fun i wr => ∃ k : Nat, k ≤ 64 ∧ i = .int .i64 k ∧ Below w.heap.size w wr)
        (fun i _ => 64 - (intOf i).toNat)
      case atStart => exact ⟨0, by omega, rfl, hb⟩
      case round =>
        clear hb
        obtain ⟨j, hj, rfl, hb⟩ := hrel
        by_cases hlt2 : j < 64
        · have hk0 := HC.out (L.length + j) (by simp [mksC_len]; omega)
          rw [getD_app_right, mksC_get hlt2, Nat.zero_add] at hk0
          have hk1 : w.cell? ⟨g, (L.length + j) * 2, none⟩ = some (.int .u8 200) ∧ w.cell? ⟨g, (L.length + j) * 2 + 1, none⟩ = some (.int .u32 (1000003 + (j : Int))) := by
            refine ⟨hk0.1, ?_⟩
            rw [hk0.2]; simp
          obtain ⟨q, hq⟩ : ∃ q, q = L.length + j := ⟨_, rfl⟩
          rw [← hq] at hk1
          have hwr : IntKind.i64.wrap ((L.length : Int) + (j : Int)) = (q : Int) := by rw [IntKind.wrap_i64]; omega
          have hq0 : (0 : Int) ≤ (q : Int) := by omega
          have hq1 : (q : Int) < (L.length : Int) + 64 := by omega
          have hq2 : q < L.length + 64 := by omega
          have hbl2 : g < wr.heap.size := Nat.lt_of_lt_of_le hgl hb.size
          obtain ⟨y0, y1⟩ := gC hgl hk1.1 hk1.2 hb
          have hGC := fun W h => gC (W := W) hbl2 y0 y1 h
          have hlt3 : (L.length : Int) + (j : Int) < (L.length : Int) + 64 := by omega
          have hltI : (j : Int) < 64 := by omega
          have hM := fun w => markc_any j w (by omega)
          clear hk0 hk1 hq
          have HB : Below wr.heap.size wr wr := Below.refl _ _
          go_wp2
          go_region_held3 (fun w' => w'.cell? ⟨g, q * 2, none⟩ = some (.int .u8 200) ∧ w'.cell? ⟨g, q * 2 + 1, none⟩ = some (.int .u32 (1000003 + (j : Int)))) ((refine hGC _ ?_; (repeat (first | exact HB | exact Below.refl _ _ | with_reducible refine bel ?_ | with_reducible refine Below.drew ?_)))) (first
            | (go_at_call 31; with_reducible refine (hM _).mono ?_; rintro e wq ⟨rfl, hq⟩; subst wq))
          clear hM hGC
          go_wp2
          go_roundw
          case rel => exact ⟨j + 1, by omega, by go_num, bt hb (by (repeat (first | exact HB | exact Below.refl _ _ | with_reducible refine bel ?_ | with_reducible refine Below.drew ?_)))⟩
          case measure => simp [intOf]; omega
        · go_wp2
          go_ret
          exact ⟨rfl, hb⟩
end Go.Proofs.Ytdegmojfphkejaa
