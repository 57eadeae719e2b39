import Derived.Test.YtbaigjckimpkmaaMSrt
import Derived.Test.YtbaigjckimpkmaaNAm
namespace Go.Proofs.Ytbaigjckimpkmaa
open Go.RowKit Go.WideShapes Go.Sort Go.Lib
set_option maxRecDepth 100000

/-- no two lap -/
def AnyPost (L : List (Nat × Nat)) (e : Ending) : Prop := ∃ r, e = .returned (.bool r) ∧ (r = false ↔ Ap L)
set_option maxHeartbeats 1000000 in
theorem anyLap_any (ad : Addr) (cap : Nat) (L : List (Nat × Nat)) (w : World) (hn : L.length ≤ 1048576) (hpos : 0 < L.length) (hw : Wfs L) (hr : SRd w (some ad) L w.heap.size) :
    Calls Try.prog 51 #[.slice (some ad) L.length cap] w fun e w' => AnyPost L e ∧ Below w.heap.size w w' := by
  have hC := sclone_any ad cap L w hn hpos hr
  have HW := hidS hw
  clear hr hw
  go_enter Try.func51, Try.ntmps51
  go_wp2_with fail
  with_reducible refine hC.mono ?_
  rintro e w1 ⟨g, c, rfl, hcap, own1, b1⟩
  have hDl := delf_any g c w.heap.size L w1 hn HW.out b1.size hcap own1
  have hFl : (L.filter kp).length ≤ L.length := List.length_filter_le _ _
  go_wp2_with fail
  with_reducible refine hDl.mono ?_
  rintro e w2 ⟨rfl, own2, b2⟩
  have B2 := b1.trans b2
  have hSl := sortf_any g c w.heap.size (L.filter kp) w2 (by omega) B2.size own2
  clear own1 hDl hC
  go_wp2_with fail
  with_reducible refine hSl.mono ?_
  rintro e w3 ⟨rfl, M, hperm, hsorted, hcells, b3, hg3⟩
  have B3 := B2.trans b3
  have hAM : Ap M ↔ Ap L := ⟨fun h => ap_of_filter (Ap.perm h hperm.symm), fun h => Ap.perm (List.Pairwise.filter _ h) hperm⟩
  have hPos : ∀ p ∈ M, 0 < p.2 := fun p hp => by
    have := (List.mem_filter.1 (hperm.mem_iff.1 hp)).2
    simp [kp] at this; omega
  have HPO := hidS hPos
  have HSO := hidS hsorted
  have hWM : Wfs M := fun p hp => HW.out p (List.mem_filter.1 (hperm.mem_iff.1 hp)).1
  have hMl : M.length = (L.filter kp).length := hperm.length_eq
  have HAM := hidS hAM
  have HWM := hidS hWM
  have HCS := hidS hcells
  have hM2 : M.length ≤ 1048576 := by omega
  clear own2 hSl HW hperm hcells hAM hWM b1 b2 b3 hFl B2 hPos hsorted
  generalize (L.filter kp).length = m at *
  subst hMl
  have mixed : Try.prog.follows .mixedOrders = true := by kernel_rfl
  go_wp2_with fail
  go_loopw [4] (fun u wr => ∃ k : Nat, u = .int .i64 k ∧ 1 ≤ k ∧ k ≤ M.length + 1 ∧ (∀ j, j + 1 < k → j + 1 < M.length → lapB (M.getD j (0, 0)) (M.getD (j + 1) (0, 0)) = false) ∧ Below w3.heap.size w3 wr) (fun u _ => M.length - (intOf u).toNat)
  case atStart => exact ⟨1, rfl, Nat.le_refl _, by omega, fun j h => by omega, Below.refl _ _⟩
  case round =>
    obtain ⟨k, rfl, hk1, hk2, hadj, hb⟩ := hrel
    have HAD := hidS hadj
    clear hadj
    by_cases hlt : k < M.length
    · have hltI : (k : Int) < (M.length : Int) := by omega
      have hwa := HWM.out _ (getD_memS (L := M) (k := k - 1) (by omega))
      have hwb := HWM.out _ (getD_memS (L := M) hlt)
      obtain ⟨c0, c1⟩ := HCS.out (k - 1) (by omega)
      obtain ⟨c2, c3⟩ := HCS.out k hlt
      rw [Nat.zero_add] at c0 c1 c2 c3
      have hgw : g < wr.heap.size := by have := hb.size; omega
      have x0 := (hb.cell (p := ⟨g, (k - 1) * 2, none⟩) hg3).trans c0
      have x1 := (hb.cell (p := ⟨g, (k - 1) * 2 + 1, none⟩) hg3).trans c1
      have x2 := (hb.cell (p := ⟨g, k * 2, none⟩) hg3).trans c2
      have x3 := (hb.cell (p := ⟨g, k * 2 + 1, none⟩) hg3).trans c3
      have hL := fun W => lap_any (M.getD (k - 1) (0, 0)) (M.getD k (0, 0)) W hwa hwb
      have HLP : Hid (∀ r, lapB (M.getD (k - 1) (0, 0)) (M.getD k (0, 0)) = r → r = true → ¬ Ap M) := fun r e1 e2 h => by
        have := h.at (i := k - 1) (j := k) (by omega) hlt
        rw [e1, e2] at this; cases this
      have HLF : Hid (lapB (M.getD (k - 1) (0, 0)) (M.getD k (0, 0)) = false → ∀ j, j + 1 < k + 1 → j + 1 < M.length → lapB (M.getD j (0, 0)) (M.getD (j + 1) (0, 0)) = false) := fun e1 j hj hj2 => by
        by_cases he : j + 1 < k
        · exact HAD.out j he hj2
        · obtain rfl : k = j + 1 := by omega
          simpa using e1
      generalize M.getD (k - 1) (0, 0) = p at *
      generalize M.getD k (0, 0) = q at *
      have y0 : ∀ n os, (grow (wr.drewN n) os).cell? ⟨g, (k - 1) * 2, none⟩ = some (.int .u32 p.1) := fun n os => cell_grown (a := ⟨g, (k - 1) * 2, none⟩) hgw x0 n os
      have y1 : ∀ n os, (grow (wr.drewN n) os).cell? ⟨g, (k - 1) * 2 + 1, none⟩ = some (.int .u32 p.2) := fun n os => cell_grown (a := ⟨g, (k - 1) * 2 + 1, none⟩) hgw x1 n os
      have y2 : ∀ n os, (grow (wr.drewN n) os).cell? ⟨g, k * 2, none⟩ = some (.int .u32 q.1) := fun n os => cell_grown (a := ⟨g, k * 2, none⟩) hgw x2 n os
      have y3 : ∀ n os, (grow (wr.drewN n) os).cell? ⟨g, k * 2 + 1, none⟩ = some (.int .u32 q.2) := fun n os => cell_grown (a := ⟨g, k * 2 + 1, none⟩) hgw x3 n os
      obtain ⟨j, rfl⟩ : ∃ j, k = j + 1 := ⟨k - 1, by omega⟩
      simp only [Nat.add_sub_cancel] at *
      have hltI2 : (j : Int) + 1 < (M.length : Int) := by omega
      have hwj : IntKind.i64.wrap (j : Int) = (j : Int) := by rw [IntKind.wrap_i64]; omega
      have t0 : (0 : Int) ≤ (j : Int) + 1 := by omega
      have t1 : ((j : Int) + 1).toNat = j + 1 := by omega
      have t2 : ¬ ((j : Int) + 1 < 0) := by omega
      have t3 : j + 1 < M.length := by omega
      have hltI3 : (j : Int) < (M.length : Int) := by omega
      clear c0 c1 c2 c3 hwa hwb x0 x1 x2 x3
      cases hlp : lapB p q
      · rw [hlp] at hL HLF
        go_wp2_with fail
        go_quiet_grown (first | (with_reducible refine Calls.grown_of (hL _)) | fail)
        go_wp2_with fail
        go_roundw
        case rel => exact ⟨j + 1 + 1, by go_num, by omega, by omega, HLF.out (by first | rfl | trivial), btS hb (below_grow _ _ _)⟩
        case measure => simp [intOf]; omega
      · rw [hlp] at hL HLP
        have HN := hidS (HLP.out true rfl rfl)
        go_wp2_with fail
        go_quiet_grown (first | (with_reducible refine Calls.grown_of (hL _)) | fail)
        go_wp2_with fail
        go_ret
        exact ⟨⟨true, rfl, by simp [← HAM.out, HN.out]⟩, btS B3 (btS hb (below_grow _ _ _))⟩
    · have hltI : ¬ (k : Int) < (M.length : Int) := by omega
      have HY : Hid (Ap M) := ap_adj M HPO.out HSO.out (fun j hj => HAD.out j (by omega) hj)
      go_wp2_with fail
      go_ret
      exact ⟨⟨false, rfl, by simp [← HAM.out, HY.out]⟩, btS B3 hb⟩
end Go.Proofs.Ytbaigjckimpkmaa
