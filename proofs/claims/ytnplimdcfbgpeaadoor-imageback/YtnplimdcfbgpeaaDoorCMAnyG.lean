import Derived.Test.YtnplimdcfbgpeaaDoorMSrt
namespace Go.Proofs.YtnplimdcfbgpeaaDoor
open Go.RowKit Go.WideShapes Go.Sort Go.Lib
set_option maxRecDepth 100000

/-- no two lap -/
def Ap (L : List (Nat × Nat)) : Prop := L.Pairwise fun a b => lapB a b = false
theorem lapB_comm (a b : Nat × Nat) : lapB a b = lapB b a := by
  unfold lapB
  cases decide (0 < a.2) <;> cases decide (0 < b.2) <;> cases decide (a.1 < b.1 + b.2) <;> cases decide (b.1 < a.1 + a.2) <;> rfl
theorem Ap.perm {L M : List (Nat × Nat)} (h : Ap L) (hp : M.Perm L) : Ap M := by
  refine (hp.symm.pairwise_iff ?_).1 h
  intro a b hab
  rw [lapB_comm]; exact hab
theorem Ap.at {L : List (Nat × Nat)} (h : Ap L) {i j : Nat} (hij : i < j) (hj : j < L.length) : lapB (L.getD i (0, 0)) (L.getD j (0, 0)) = false := by
  have := List.pairwise_iff_getElem.1 h i j (by omega) hj hij
  rw [List.getD_eq_getElem?_getD, List.getD_eq_getElem?_getD, List.getElem?_eq_getElem hj, List.getElem?_eq_getElem (by omega)]
  exact this
theorem ap_of_filter {L : List (Nat × Nat)} (h : Ap (L.filter kp)) : Ap L := by
  induction L with
  | nil => exact List.Pairwise.nil
  | cons a L ih =>
    cases ha : kp a
    · rw [List.filter_cons, ha] at h
      refine List.Pairwise.cons (fun b _ => ?_) (ih h)
      have : a.2 = 0 := by simpa [kp] using ha
      simp [lapB, this]
    · rw [List.filter_cons, ha] at h
      simp only [if_true] at h
      obtain ⟨h1, h2⟩ := List.pairwise_cons.1 h
      refine List.Pairwise.cons (fun b hb => ?_) (ih h2)
      cases hk : kp b
      · have : b.2 = 0 := by simpa [kp] using hk
        simp [lapB, this]
      · exact h1 b (List.mem_filter.2 ⟨hb, hk⟩)
theorem ap_adj (M : List (Nat × Nat)) (hp : ∀ p ∈ M, 0 < p.2) (hs : ∀ i j, i < j → j < M.length → (M.getD i (0, 0)).1 ≤ (M.getD j (0, 0)).1)
    (ha : ∀ j, j + 1 < M.length → lapB (M.getD j (0, 0)) (M.getD (j + 1) (0, 0)) = false) : Ap M := by
  refine List.pairwise_iff_getElem.2 fun i j hi hj hij => ?_
  have e : ∀ k (h : k < M.length), M[k] = M.getD k (0, 0) := fun k h => by rw [List.getD_eq_getElem?_getD, List.getElem?_eq_getElem h]; rfl
  rw [e i hi, e j hj]
  have h1 := ha i (by omega)
  have h2 := hs i (i + 1) (by omega) (by omega)
  have p1 := hp _ (getD_memS hi)
  have p2 := hp _ (getD_memS (L := M) (k := i + 1) (by omega))
  have h3 : (M.getD i (0, 0)).1 + (M.getD i (0, 0)).2 ≤ (M.getD (i + 1) (0, 0)).1 := by
    simp only [lapB, Bool.and_eq_false_iff, decide_eq_false_iff_not] at h1
    omega
  have h4 : (M.getD (i + 1) (0, 0)).1 ≤ (M.getD j (0, 0)).1 := by
    by_cases hh : i + 1 = j
    · rw [hh]; exact Nat.le_refl _
    · exact hs (i + 1) j (by omega) hj
  have h5 : ¬ (M.getD j (0, 0)).1 < (M.getD i (0, 0)).1 + (M.getD i (0, 0)).2 := by omega
  unfold lapB
  rw [decide_eq_false h5, Bool.and_false]
def AnyPost (L : List (Nat × Nat)) (e : Ending) : Prop := ∃ r, e = .returned (.bool r) ∧ (r = false ↔ Ap L)
set_option maxHeartbeats 1000000 in
theorem anyLap_any (ad : Addr) (cap : Nat) (L : List (Nat × Nat)) (w : World) (hn : L.length ≤ 1048576) (hpos : 0 < L.length) (hw : Wfs L) (hr : SRd w (some ad) L w.heap.size) :
    Calls Tryd.prog 53 #[.slice (some ad) L.length cap] w fun e w' => AnyPost L e ∧ Below w.heap.size w w' := by
  have hC := sclone_any ad cap L w hn hpos hr
  have HW := hidS hw
  clear hr hw
  go_enter Tryd.func53, Tryd.ntmps53
  go_wp2_with fail
  with_reducible refine hC.mono ?_
  rintro e w1 ⟨g, c, rfl, hcap, own1, b1⟩
  have hDl := delf_any g c w.heap.size L w1 hn HW.out b1.size hcap own1
  have hFl : (L.filter kp).length ≤ L.length := List.length_filter_le _ _
  go_wp2_with fail
  with_reducible refine hDl.mono ?_
  rintro e w2 ⟨rfl, own2, b2⟩
  have B2 := b1.trans b2
  have hSl := sortf_any g c w.heap.size (L.filter kp) w2 (by omega) B2.size own2
  clear own1 hDl hC
  go_wp2_with fail
  with_reducible refine hSl.mono ?_
  rintro e w3 ⟨rfl, M, hperm, hsorted, hcells, b3, hg3⟩
  have B3 := B2.trans b3
  have hAM : Ap M ↔ Ap L := ⟨fun h => ap_of_filter (Ap.perm h hperm.symm), fun h => Ap.perm (List.Pairwise.filter _ h) hperm⟩
  have hPos : ∀ p ∈ M, 0 < p.2 := fun p hp => by
    have := (List.mem_filter.1 (hperm.mem_iff.1 hp)).2
    simp [kp] at this; omega
  have HPO := hidS hPos
  have HSO := hidS hsorted
  have hWM : Wfs M := fun p hp => HW.out p (List.mem_filter.1 (hperm.mem_iff.1 hp)).1
  have hMl : M.length = (L.filter kp).length := hperm.length_eq
  have HAM := hidS hAM
  have HWM := hidS hWM
  have HCS := hidS hcells
  have hM2 : M.length ≤ 1048576 := by omega
  clear own2 hSl HW hperm hcells hAM hWM b1 b2 b3 hFl B2 hPos hsorted
  generalize (L.filter kp).length = m at *
  subst hMl
  have mixed : Tryd.prog.follows .mixedOrders = true := by kernel_rfl
  go_wp2_with fail
  go_loopw [4] (fun u wr => ∃ k : Nat, u = .int .i64 k ∧ 1 ≤ k ∧ k ≤ M.length + 1 ∧ (∀ j, j + 1 < k → j + 1 < M.length → lapB (M.getD j (0, 0)) (M.getD (j + 1) (0, 0)) = false) ∧ Below w3.heap.size w3 wr) (fun u _ => M.length - (intOf u).toNat)
  case atStart => exact ⟨1, rfl, Nat.le_refl _, by omega, fun j h => by omega, Below.refl _ _⟩
  case round =>
    obtain ⟨k, rfl, hk1, hk2, hadj, hb⟩ := hrel
    have HAD := hidS hadj
    clear hadj
    by_cases hlt : k < M.length
    · have hltI : (k : Int) < (M.length : Int) := by omega
      have hwa := HWM.out _ (getD_memS (L := M) (k := k - 1) (by omega))
      have hwb := HWM.out _ (getD_memS (L := M) hlt)
      obtain ⟨c0, c1⟩ := HCS.out (k - 1) (by omega)
      obtain ⟨c2, c3⟩ := HCS.out k hlt
      rw [Nat.zero_add] at c0 c1 c2 c3
      have hgw : g < wr.heap.size := by have := hb.size; omega
      have x0 := (hb.cell (p := ⟨g, (k - 1) * 2, none⟩) hg3).trans c0
      have x1 := (hb.cell (p := ⟨g, (k - 1) * 2 + 1, none⟩) hg3).trans c1
      have x2 := (hb.cell (p := ⟨g, k * 2, none⟩) hg3).trans c2
      have x3 := (hb.cell (p := ⟨g, k * 2 + 1, none⟩) hg3).trans c3
      have hL := fun W => lap_any (M.getD (k - 1) (0, 0)) (M.getD k (0, 0)) W hwa hwb
      have HLP : Hid (∀ r, lapB (M.getD (k - 1) (0, 0)) (M.getD k (0, 0)) = r → r = true → ¬ Ap M) := fun r e1 e2 h => by
        have := h.at (i := k - 1) (j := k) (by omega) hlt
        rw [e1, e2] at this; cases this
      have HLF : Hid (lapB (M.getD (k - 1) (0, 0)) (M.getD k (0, 0)) = false → ∀ j, j + 1 < k + 1 → j + 1 < M.length → lapB (M.getD j (0, 0)) (M.getD (j + 1) (0, 0)) = false) := fun e1 j hj hj2 => by
        by_cases he : j + 1 < k
        · exact HAD.out j he hj2
        · obtain rfl : k = j + 1 := by omega
          simpa using e1
      generalize M.getD (k - 1) (0, 0) = p at *
      generalize M.getD k (0, 0) = q at *
      have y0 : ∀ n os, (grow (wr.drewN n) os).cell? ⟨g, (k - 1) * 2, none⟩ = some (.int .u32 p.1) := fun n os => cell_grown (a := ⟨g, (k - 1) * 2, none⟩) hgw x0 n os
      have y1 : ∀ n os, (grow (wr.drewN n) os).cell? ⟨g, (k - 1) * 2 + 1, none⟩ = some (.int .u32 p.2) := fun n os => cell_grown (a := ⟨g, (k - 1) * 2 + 1, none⟩) hgw x1 n os
      have y2 : ∀ n os, (grow (wr.drewN n) os).cell? ⟨g, k * 2, none⟩ = some (.int .u32 q.1) := fun n os => cell_grown (a := ⟨g, k * 2, none⟩) hgw x2 n os
      have y3 : ∀ n os, (grow (wr.drewN n) os).cell? ⟨g, k * 2 + 1, none⟩ = some (.int .u32 q.2) := fun n os => cell_grown (a := ⟨g, k * 2 + 1, none⟩) hgw x3 n os
      obtain ⟨j, rfl⟩ : ∃ j, k = j + 1 := ⟨k - 1, by omega⟩
      simp only [Nat.add_sub_cancel] at *
      have hltI2 : (j : Int) + 1 < (M.length : Int) := by omega
      have hwj : IntKind.i64.wrap (j : Int) = (j : Int) := by rw [IntKind.wrap_i64]; omega
      have t0 : (0 : Int) ≤ (j : Int) + 1 := by omega
      have t1 : ((j : Int) + 1).toNat = j + 1 := by omega
      have t2 : ¬ ((j : Int) + 1 < 0) := by omega
      have t3 : j + 1 < M.length := by omega
      have hltI3 : (j : Int) < (M.length : Int) := by omega
      clear c0 c1 c2 c3 hwa hwb x0 x1 x2 x3
      cases hlp : lapB p q
      · rw [hlp] at hL HLF
        go_wp2_with fail
        go_quiet_grown (first | (with_reducible refine Calls.grown_of (hL _)) | fail)
        go_wp2_with fail
        go_roundw
        case rel => exact ⟨j + 1 + 1, by go_num, by omega, by omega, HLF.out (by first | rfl | trivial), btS hb (below_grow _ _ _)⟩
        case measure => simp [intOf]; omega
      · rw [hlp] at hL HLP
        have HN := hidS (HLP.out true rfl rfl)
        go_wp2_with fail
        go_quiet_grown (first | (with_reducible refine Calls.grown_of (hL _)) | fail)
        go_wp2_with fail
        go_ret
        exact ⟨⟨true, rfl, by simp [← HAM.out, HN.out]⟩, btS B3 (btS hb (below_grow _ _ _))⟩
    · have hltI : ¬ (k : Int) < (M.length : Int) := by omega
      have HY : Hid (Ap M) := ap_adj M HPO.out HSO.out (fun j hj => HAD.out j (by omega) hj)
      go_wp2_with fail
      go_ret
      exact ⟨⟨false, rfl, by simp [← HAM.out, HY.out]⟩, btS B3 hb⟩
end Go.Proofs.YtnplimdcfbgpeaaDoor
namespace Go.Proofs.YtnplimdcfbgpeaaDoor
open Go.RowKit Go.WideShapes Go.Sort Go.Lib
set_option maxRecDepth 100000

theorem Ap.take {L : List (Nat × Nat)} (h : Ap L) (m : Nat) : Ap (L.take m) := List.Pairwise.sublist (List.take_sublist m L) h
theorem Wfs.take {L : List (Nat × Nat)} (h : Wfs L) (m : Nat) : Wfs (L.take m) := fun p hp => h p (List.mem_of_mem_take hp)
theorem ap_one (L : List (Nat × Nat)) : Ap (L.take 1) := by
  cases L with
  | nil => exact List.Pairwise.nil
  | cons a L => exact List.pairwise_singleton _ _
theorem anyLap_n (ad : Addr) (cap n : Nat) (L : List (Nat × Nat)) (w : World) (hl : L.length = n) (hn : L.length ≤ 1048576) (hpos : 0 < L.length) (hw : Wfs L) (hr : SRd w (some ad) L w.heap.size) :
    Calls Tryd.prog 53 #[.slice (some ad) n cap] w fun e w' => AnyPost L e ∧ Below w.heap.size w w' := by
  subst hl; exact anyLap_any ad cap L w hn hpos hw hr
set_option maxHeartbeats 1000000 in
theorem clo1_any (Bs : Nat) (ad : Addr) (cap : Nat) (L : List (Nat × Nat)) (h : Nat) (w : World) (hh : h < L.length) (hn : L.length ≤ 1048576) (hcap : L.length ≤ cap) (hw : Wfs L) (hr : SRd w (some ad) L w.heap.size)
    (hb : w.cell? ⟨Bs, 0, none⟩ = some (.slice (some ad) L.length cap)) :
    Calls Tryd.prog 52 #[.int .i64 (h : Int), .pointer (some ⟨Bs, 0, none⟩)] w fun e w' => AnyPost (L.take (h + 1)) e ∧ Below w.heap.size w w' := by
  have hl : (L.take (h + 1)).length = h + 1 := by rw [List.length_take]; omega
  have hC := anyLap_n ad cap (h + 1) (L.take (h + 1)) w hl (by omega) (by omega) (hw.take _) (hr.take _)
  have h1 : (h : Int) + 1 ≤ (cap : Int) := by omega
  have h2 : (h : Int) + 1 ≤ (L.length : Int) := by omega
  clear hr hw hl
  go_enter Tryd.func52, Tryd.ntmps52
  go_wp2_with fail
  with_reducible refine hC.mono ?_
  rintro e wq ⟨⟨r, rfl, hrr⟩, hq⟩
  have HRR := hidS hrr
  clear hrr
  go_wp2_with fail
  go_ret
  exact ⟨⟨r, rfl, HRR.out⟩, hq⟩
set_option maxHeartbeats 1000000 in
theorem clo2_any (Bs Bi : Nat) (ad : Addr) (cap : Nat) (L : List (Nat × Nat)) (i : Nat) (p : Nat × Nat) (w : World) (hi : i < L.length) (hn : L.length ≤ 1048576) (hp : p.1 < 4294967296 ∧ p.2 < 4294967296) (hw : Wfs L) (hr : SRd w (some ad) L w.heap.size)
    (hb : w.cell? ⟨Bs, 0, none⟩ = some (.slice (some ad) L.length cap)) (hb2 : w.cell? ⟨Bi, 0, none⟩ = some (.int .i64 (i : Int))) (hs : Bs < w.heap.size) (hs2 : Bi < w.heap.size) :
    Calls Tryd.prog 55 #[.agg #[.int .u32 p.1, .int .u32 p.2], .pointer (some ⟨Bs, 0, none⟩), .pointer (some ⟨Bi, 0, none⟩)] w fun e w' => (∃ r : Bool, e = .returned (.bool r)) ∧ Below w.heap.size w w' := by
  obtain ⟨b, off, e, hbl, hc⟩ := hr (by omega)
  cases e
  obtain ⟨c0, c1⟩ := hc i hi
  have hwf := hw _ (getD_memS hi)
  have hL := fun W => lap_any p (L.getD i (0, 0)) W hp hwf
  generalize lapB p (L.getD i (0, 0)) = r at hL
  generalize L.getD i (0, 0) = q at *
  have hiI : (i : Int) < (L.length : Int) := by omega
  have mixed : Tryd.prog.follows .mixedOrders = true := by kernel_rfl
  clear hc hr hw hwf hp
  go_enter Tryd.func55, Tryd.ntmps55
  go_wp2_with fail
  have hgr : ∀ (b j : Nat) (v : Value), b < (w.alloc (.cells #[.int .u32 (p.1 : Int), .int .u32 (p.2 : Int)] 47)).heap.size → (w.alloc (.cells #[.int .u32 (p.1 : Int), .int .u32 (p.2 : Int)] 47)).cell? ⟨b, j, none⟩ = some v → ∀ n os, (grow ((w.alloc (.cells #[.int .u32 (p.1 : Int), .int .u32 (p.2 : Int)] 47)).drewN n) os).cell? ⟨b, j, none⟩ = some v := fun b j v hb hv n os => cell_grown (a := ⟨b, j, none⟩) hb hv n os
  have hal : ∀ (b j : Nat) (v : Value), b < w.heap.size → w.cell? ⟨b, j, none⟩ = some v → (w.alloc (.cells #[.int .u32 (p.1 : Int), .int .u32 (p.2 : Int)] 47)).cell? ⟨b, j, none⟩ = some v := fun b j v hb hv => ((belS (o := .cells #[.int .u32 (p.1 : Int), .int .u32 (p.2 : Int)] 47) (Below.refl w.heap.size w)).cell (p := ⟨b, j, none⟩) hb).trans hv
  have hlast := heap_alloc_last w (.cells #[.int .u32 (p.1 : Int), .int .u32 (p.2 : Int)] 47)
  have n0 : (w.alloc (.cells #[.int .u32 (p.1 : Int), .int .u32 (p.2 : Int)] 47)).cell? ⟨w.heap.size, 0, none⟩ = some (.int .u32 p.1) := by unfold World.cell?; simp only [hlast]; rfl
  have n1 : (w.alloc (.cells #[.int .u32 (p.1 : Int), .int .u32 (p.2 : Int)] 47)).cell? ⟨w.heap.size, 1, none⟩ = some (.int .u32 p.2) := by unfold World.cell?; simp only [hlast]; rfl
  have y0 := hgr _ _ _ (by simp) n0
  have y1 := hgr _ _ _ (by simp) n1
  have y2 := hgr _ _ _ (by simp; omega) (hal _ _ _ hs hb)
  have y3 := hgr _ _ _ (by simp; omega) (hal _ _ _ hs2 hb2)
  have y4 := hgr _ _ _ (by simp; omega) (hal _ _ _ hbl c0)
  have y5 := hgr _ _ _ (by simp; omega) (hal _ _ _ hbl c1)
  have hB1 : Below w.heap.size w (w.alloc (.cells #[.int .u32 (p.1 : Int), .int .u32 (p.2 : Int)] 47)) := belS (Below.refl _ _)
  generalize w.alloc (.cells #[.int .u32 (p.1 : Int), .int .u32 (p.2 : Int)] 47) = W1 at *
  clear hgr hal hlast n0 n1 hb hb2 c0 c1
  go_quiet_grown (first | (with_reducible refine Calls.grown_of (hL _)) | fail)
  go_wp2_with fail
  go_ret
  exact ⟨⟨r, rfl⟩, btS hB1 (below_grow _ _ _)⟩
set_option maxHeartbeats 1000000 in
theorem idxw_any (b off cap g n : Nat) (lb : Array Value) (L : List (Nat × Nat)) (w : World) (hl : L.length = n) (hn : n ≤ 1048576) (hb : b < w.heap.size) (eg : ∀ args w, (callFunc g args).run Tryd.prog w = .ok (.enter g args) w)
    (hc : ∀ j, j < n → w.cell? ⟨b, off + j * 2, none⟩ = some (.int .u32 (L.getD j (0, 0)).1) ∧ w.cell? ⟨b, off + j * 2 + 1, none⟩ = some (.int .u32 (L.getD j (0, 0)).2))
    (hf : ∀ j, j < n → ∀ W, Below w.heap.size w W → Calls Tryd.prog g (#[.agg #[.int .u32 (L.getD j (0, 0)).1, .int .u32 (L.getD j (0, 0)).2]] ++ lb) W fun e w' => (∃ r : Bool, e = .returned (.bool r)) ∧ Below W.heap.size W w') :
    Calls Tryd.prog 54 #[.slice (some ⟨b, off, none⟩) n cap, .func (.func g) #[] lb] w fun e w' => (∃ i : Int, e = .returned (.int .i64 i)) ∧ Below w.heap.size w w' := by
  have HC := hidS hc
  have HF := hidS hf
  clear hc hf
  go_enter Tryd.func54, Tryd.ntmps54
  go_wp2_with fail
  go_loopw [8] (fun i wr => ∃ k : Nat, k ≤ n ∧ i = .int .i64 k ∧ Below w.heap.size w wr)
    (fun i _ => n - (intOf i).toNat)
  case atStart => exact ⟨0, Nat.zero_le _, rfl, Below.refl _ _⟩
  case round =>
    obtain ⟨k, hk, rfl, hbw⟩ := hrel
    by_cases hlt : k < n
    · have hltI : (k : Int) < (n : Int) := by omega
      have x0 := (hbw.cell (p := ⟨b, off + k * 2, none⟩) hb).trans (HC.out k hlt).1
      have x1 := (hbw.cell (p := ⟨b, off + k * 2 + 1, none⟩) hb).trans (HC.out k hlt).2
      have hD := HF.out k hlt _ hbw
      generalize L.getD k (0, 0) = c at *
      go_wp2_with fail
      with_reducible refine hD.mono ?_
      rintro e wq ⟨⟨r, rfl⟩, hq⟩
      cases r
      · go_wp2_with fail
        go_roundw
        case rel => exact ⟨k + 1, by omega, by go_num, btS hbw hq⟩
        case measure => simp [intOf]; omega
      · go_wp2_with fail
        go_ret
        exact ⟨⟨_, rfl⟩, btS hbw hq⟩
    · obtain rfl : k = n := by omega
      have hltI : ¬ (k : Int) < (k : Int) := by omega
      go_wp2_with fail
      go_ret
      exact ⟨⟨_, rfl⟩, hbw⟩
def AptPost (L : List (Nat × Nat)) (e : Ending) : Prop :=
  (Ap L ∧ e = .returned (.tuple #[.int .i64 0, .int .i64 0, .bool true])) ∨ (¬ Ap L ∧ ∃ (i : Nat) (j : Int), e = .returned (.tuple #[.int .i64 i, .int .i64 j, .bool false]) ∧ 1 ≤ i ∧ i < L.length ∧ Ap (L.take i) ∧ ¬ Ap (L.take (i + 1)))
set_option maxHeartbeats 1000000 in
theorem aptG_any (ao : Option Addr) (cap : Nat) (L : List (Nat × Nat)) (w : World) (hn : L.length ≤ 1048576) (hcap : L.length ≤ cap) (hw : Wfs L) (hr : SRd w ao L w.heap.size) :
    Calls Tryd.prog 39 #[.slice ao L.length cap] w fun e w' => AptPost L e ∧ Below w.heap.size w w' := by
  classical
  have HW := hidS hw
  have HR := hidS hr
  clear hw hr
  have eg : ∀ args w, (callFunc 52 args).run Tryd.prog w = .ok (.enter 52 args) w := enters_of Tryd.func52 (by kernel_rfl) rfl
  have eg2 : ∀ args w, (callFunc 55 args).run Tryd.prog w = .ok (.enter 55 args) w := enters_of Tryd.func55 (by kernel_rfl) rfl
  go_enter Tryd.func39, Tryd.ntmps39
  go_wp2_with fail
  have hb1 : Below w.heap.size w (w.alloc (.cells #[.slice ao L.length cap] 43)) := belS (Below.refl _ _)
  have hc1 : (w.alloc (.cells #[.slice ao L.length cap] 43)).cell? ⟨w.heap.size, 0, none⟩ = some (.slice ao L.length cap) := by
    have := heap_alloc_last w (.cells #[.slice ao L.length cap] 43)
    unfold World.cell?; simp only [this]; rfl
  have hlt1 : w.heap.size < (w.alloc (.cells #[.slice ao L.length cap] 43)).heap.size := by simp
  generalize w.alloc (.cells #[.slice ao L.length cap] 43) = W1 at *
  obtain ⟨pr, hpr⟩ : ∃ pr : Nat → Bool, ∀ h, pr h = false ↔ Ap (L.take (h + 1)) := ⟨fun h => !decide (Ap (L.take (h + 1))), fun h => by simp⟩
  have hS := search_any L.length 52 #[.pointer (some ⟨w.heap.size, 0, none⟩)] pr W1 hn eg (fun h hh W hW => by
    obtain ⟨b, off, e, hbl, _⟩ := HR.out (by omega)
    have hr : SRd W ao L W.heap.size := ((HR.out.below hb1).mono hb1.size |>.below hW).mono hW.size
    subst e
    refine (clo1_any w.heap.size _ cap L h W hh hn hcap HW.out hr ((hW.cell (p := ⟨w.heap.size, 0, none⟩) hlt1).trans hc1)).mono ?_
    rintro e w' ⟨⟨r, rfl, hrr⟩, hq⟩
    have : r = pr h := by
      cases hp : pr h
      · exact hrr.2 ((hpr h).1 hp)
      · cases r
        · rw [(hpr h).2 (hrr.1 rfl)] at hp; cases hp
        · rfl
    exact ⟨by rw [this], hq⟩)
  with_reducible refine hS.mono ?_
  rintro e W2 ⟨⟨i, rfl, hi, hor, hor2⟩, hq⟩
  have hc2 := (hq.cell (p := ⟨w.heap.size, 0, none⟩) hlt1).trans hc1
  have hlt2 : w.heap.size < W2.heap.size := by have := hq.size; omega
  have B2 := btS hb1 hq
  have HP := hidS hpr
  have H1 := hidS hor
  have H2 := hidS hor2
  clear hS hc1 hor hor2 hpr eg
  by_cases hin : i = L.length
  · subst hin
    have HA : Hid (Ap L) := by
      rcases H2.out with h | h
      · have : L = [] := List.eq_nil_of_length_eq_zero h
        rw [this]; exact List.Pairwise.nil
      · have := (HP.out _).1 h
        by_cases h0 : L.length = 0
        · have : L = [] := List.eq_nil_of_length_eq_zero h0
          rw [this]; exact List.Pairwise.nil
        · rwa [show L.length - 1 + 1 = L.length by omega, List.take_length] at this
    clear HR HW H1 H2 HP hq eg2
    go_wp2_with fail
    exact bodyPost_ret (results_tmp3 rfl _ _ _) rfl ⟨.inl ⟨HA.out, rfl⟩, belS B2⟩
  · have hlt : i < L.length := by omega
    have hinI : ((i : Int) == (L.length : Int)) = false := by rw [beq_eq_false_iff_ne]; omega
    have hprt : pr i = true := by rcases H1.out with h | h; exact absurd h hin; exact h
    have hna : ¬ Ap (L.take (i + 1)) := fun h => by rw [(HP.out i).2 h] at hprt; cases hprt
    have hi1 : 1 ≤ i := by
      apply Classical.byContradiction
      intro h0
      obtain rfl : i = 0 := by omega
      exact hna (ap_one L)
    have hai : Ap (L.take i) := by
      rcases H2.out with h | h
      · omega
      · have := (HP.out _).1 h
        rwa [show i - 1 + 1 = i by omega] at this
    have HX : Hid (¬ Ap L ∧ Ap (L.take i) ∧ ¬ Ap (L.take (i + 1))) := ⟨fun h => hna (h.take _), hai, hna⟩
    obtain ⟨b, off, rfl, hbl, hcc⟩ := HR.out (by omega)
    clear H1 H2 HP hprt hna hai
    go_wp2_with fail
    have hlast := heap_alloc_last W2 (.cells #[.int .i64 (i : Int)] 3)
    have d2 : (W2.alloc (.cells #[.int .i64 (i : Int)] 3)).cell? ⟨W2.heap.size, 0, none⟩ = some (.int .i64 i) := by unfold World.cell?; simp only [hlast]; rfl
    have b3 : Below W2.heap.size W2 (W2.alloc (.cells #[.int .i64 (i : Int)] 3)) := belS (Below.refl _ _)
    have d1 := (b3.cell (p := ⟨w.heap.size, 0, none⟩) hlt2).trans hc2
    have hsz : (W2.alloc (.cells #[.int .i64 (i : Int)] 3)).heap.size = W2.heap.size + 1 := by simp
    have B3 := btS B2 b3
    have HB3 := hidS B3
    generalize W2.alloc (.cells #[.int .i64 (i : Int)] 3) = W3 at *
    have hrd : SRd W3 (some ⟨b, off, none⟩) L W3.heap.size := (HR.out.below B3).mono B3.size
    have hI := idxw_any b off cap 55 i #[.pointer (some ⟨w.heap.size, 0, none⟩), .pointer (some ⟨W2.heap.size, 0, none⟩)] (L.take i) W3 (by rw [List.length_take]; omega) (by omega) (by have := B3.size; omega) eg2
      (fun j hj => by
        have e : (L.take i).getD j (0, 0) = L.getD j (0, 0) := by simp [List.getD_eq_getElem?_getD, hj]
        rw [e]
        obtain ⟨h1, h2⟩ := hcc j (by omega)
        exact ⟨(B3.cell (p := ⟨b, off + j * 2, none⟩) hbl).trans h1, (B3.cell (p := ⟨b, off + j * 2 + 1, none⟩) hbl).trans h2⟩)
      (fun j hj W hW => by
        have hwf := (HW.out.take i) _ (getD_memS (L := L.take i) (k := j) (by rw [List.length_take]; omega))
        have hs := hW.size
        exact clo2_any w.heap.size W2.heap.size _ cap L i _ W hlt hn hwf HW.out ((hrd.below hW).mono hW.size) ((hW.cell (p := ⟨w.heap.size, 0, none⟩) (by show w.heap.size < _; omega)).trans d1) ((hW.cell (p := ⟨W2.heap.size, 0, none⟩) (by show W2.heap.size < _; omega)).trans d2) (by omega) (by omega))
    with_reducible refine hI.mono ?_
    rintro e W4 ⟨⟨jj, rfl⟩, b4⟩
    have d1' := (b4.cell (p := ⟨w.heap.size, 0, none⟩) (by show w.heap.size < _; omega)).trans d1
    have d2' := (b4.cell (p := ⟨W2.heap.size, 0, none⟩) (by show W2.heap.size < _; omega)).trans d2
    have B4 := btS B3 b4
    clear hI hrd HR HW hcc d1 d2 hlast eg2 hq b3 hc2
    go_wp2_with fail
    exact bodyPost_ret (results_tmp3 rfl _ _ _) rfl ⟨.inr ⟨HX.out.1, i, jj, rfl, hi1, hlt, HX.out.2.1, HX.out.2.2⟩, B4⟩
end Go.Proofs.YtnplimdcfbgpeaaDoor
