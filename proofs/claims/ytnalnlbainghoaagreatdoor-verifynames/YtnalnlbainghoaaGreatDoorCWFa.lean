import Derived.Test.YtnalnlbainghoaaGreatDoorCVAm
import Derived.Test.YtnalnlbainghoaaGreatDoorCVMd
import Derived.Test.YtnalnlbainghoaaGreatDoorCPWt
import Derived.Test.YtnalnlbainghoaaGreatDoorCRNo
namespace Go.Proofs.YtnalnlbainghoaaGreatDoor
open Go.RowKit Go.WideShapes Go.Shelf
set_option maxRecDepth 100000
theorem ys_D0 {D : List Int} (h : Sol ysL [] 0 D) : D.getD 0 (-1) = 0 ∧ D.getD 1 (-1) = 0 ∧ D.getD 2 (-1) = 1 ∧ D.getD 3 (-1) = 1 := by
  have e0 : D.getD 0 (-1) = 0 := by have := h.at0; rwa [ys_at.1] at this
  have s : ∀ i, i < 4 → 0 ≤ D.getD i (-1) → ∀ j ∈ nxt ysL [] i, D.getD j (-1) = restI (opL ysL i) (D.getD i (-1)) := fun i hi hp => (h.ok i (by rw [ys_at.1]; omega) (by rw [ys_at.2.1]; exact hi) hp).2
  have e1 : D.getD 1 (-1) = 0 := by rw [s 0 (by omega) (by rw [e0]; decide) 1 (nx_of (by kernel_rfl)), e0]; kernel_rfl
  have e2 : D.getD 2 (-1) = 1 := by rw [s 1 (by omega) (by rw [e1]; decide) 2 (nx_of (by kernel_rfl)), e1]; kernel_rfl
  exact ⟨e0, e1, e2, ys_dep h⟩
theorem ys_D1 {D : List Int} (h : Sol ysL [] 1 D) : D.getD 4 (-1) = 0 ∧ D.getD 5 (-1) = 0 ∧ D.getD 6 (-1) = 1 := by
  have e0 : D.getD 4 (-1) = 0 := by have := h.at0; rwa [ys_at.2.1] at this
  have s : ∀ i, 4 ≤ i → i < 7 → 0 ≤ D.getD i (-1) → ∀ j ∈ nxt ysL [] i, D.getD j (-1) = restI (opL ysL i) (D.getD i (-1)) := fun i h4 hi hp => (h.ok i (by rw [ys_at.2.1]; exact h4) (by rw [ys_at.2.2]; exact hi) hp).2
  have e1 : D.getD 5 (-1) = 0 := by rw [s 4 (by omega) (by omega) (by rw [e0]; decide) 5 (nx_of (by kernel_rfl)), e0]; kernel_rfl
  have e2 : D.getD 6 (-1) = 1 := by rw [s 5 (by omega) (by omega) (by rw [e1]; decide) 6 (nx_of (by kernel_rfl)), e1]; kernel_rfl
  exact ⟨e0, e1, e2⟩
theorem rs_in : restI (opL ysL 0) 0 = 0 ∧ restI (opL ysL 1) 0 = 1 ∧ restI (opL ysL 2) 1 = 1 ∧ restI (opL ysL 3) 1 = 0 ∧ restI (opL ysL 4) 0 = 0 ∧ restI (opL ysL 5) 0 = 1 ∧ restI (opL ysL 6) 1 = 0 := ⟨by kernel_rfl, by kernel_rfl, by kernel_rfl, by kernel_rfl, by kernel_rfl, by kernel_rfl, by kernel_rfl⟩
/-- the needs of the sample's procedures -/
theorem ys_need {D N : List Int} (h : DpK ysL [] D N (bgs ysL).length) : N.getD 0 0 = 1 ∧ N.getD 1 0 = 1 ∧ D.getD 2 (-1) = 1 := by
  have f0 := h.fin 0 (by rw [ys_bgs]; decide)
  have f1 := h.fin 1 (by rw [ys_bgs]; decide)
  obtain ⟨a0, a1, a2, a3⟩ := ys_D0 f0.sol
  obtain ⟨b0, b1, b2⟩ := ys_D1 f1.sol
  obtain ⟨r0, r1, r2, r3, r4, r5, r6⟩ := rs_in
  have l0 := (f0.le 2 (by rw [ys_at.1]; omega) (by rw [ys_at.2.1]; omega) (by rw [a2]; decide)).1
  have l1 := (f1.le 6 (by rw [ys_at.2.1]; omega) (by rw [ys_at.2.2]; omega) (by rw [b2]; decide)).1
  have u0 := f0.ub 1 (by decide) (fun i h1 h2 _ => by
    rw [ys_at.2.1] at h2
    have hi : i = 0 ∨ i = 1 ∨ i = 2 ∨ i = 3 := by omega
    rcases hi with rfl | rfl | rfl | rfl
    · rw [a0, r0]; decide
    · rw [a1, r1]; decide
    · rw [a2, r2]; decide
    · rw [a3, r3]; decide)
  have u1 := f1.ub 1 (by decide) (fun i h1 h2 _ => by
    rw [ys_at.2.1] at h1
    rw [ys_at.2.2] at h2
    have hi : i = 4 ∨ i = 5 ∨ i = 6 := by omega
    rcases hi with rfl | rfl | rfl
    · rw [b0, r4]; decide
    · rw [b1, r5]; decide
    · rw [b2, r6]; decide)
  rw [a2] at l0
  rw [b2] at l1
  exact ⟨by omega, by omega, a2⟩
/-- the sample with another frame at its leave -/
def ysF : List (Nat × Nat) := [(3, 8), (8, 4), (5, 0), (4, 4), (3, 4), (8, 7), (4, 4)]
abbrev ysCF : Array Value := #[.int .u8 3, .int .u32 8, .int .u8 8, .int .u32 4, .int .u8 5, .int .u32 0, .int .u8 4, .int .u32 4, .int .u8 3, .int .u32 4, .int .u8 8, .int .u32 7, .int .u8 4, .int .u32 4]
theorem wfc_ysF : Wfc ysF := by intro p hp; simp [ysF] at hp; rcases hp with rfl | rfl | rfl | rfl | rfl | rfl | rfl <;> decide
theorem ysF_ck : ckV ysF 0 0 0 64 ysM = 0 := by kernel_rfl
theorem ysF_prL : prL ysF = [(0, 4, 8), (4, 7, 4)] := by kernel_rfl
theorem ysF_er : errP ysF (0, 4, 8) 0 = 0 ∧ errP ysF (0, 4, 8) 1 = 0 ∧ errP ysF (0, 4, 8) 2 = 0 ∧ errP ysF (0, 4, 8) 3 = 131 := ⟨by kernel_rfl, by kernel_rfl, by kernel_rfl, by kernel_rfl⟩
theorem ysF_B : FdB ysF [] ysM 3 131 := by
  refine .inr (.inr (.inl ⟨by kernel_rfl, by kernel_rfl, .inr ⟨by decide, 0, by rw [ysF_prL]; decide, ?_, ?_, ?_, ?_, fun q hq => absurd hq (Nat.not_lt_zero _)⟩⟩))
  · rw [ysF_prL]; decide
  · rw [ysF_prL]; decide
  · rw [ysF_prL]; exact ysF_er.2.2.2
  · rw [ysF_prL]
    intro j _ hj
    show errP ysF (0, 4, 8) j = 0
    have h3 : j = 0 ∨ j = 1 ∨ j = 2 := by omega
    rcases h3 with rfl | rfl | rfl
    · exact ysF_er.1
    · exact ysF_er.2.1
    · exact ysF_er.2.2.1
/-- the sample with another place of its name -/
def ysX : List (ByteArray × Nat) := [(⟨#[109, 97, 105, 110]⟩, 1)]
abbrev ysEX : Array Value := #[.string ⟨#[109, 97, 105, 110]⟩, .int .u32 1]
theorem ysX_ck : ckV ysL 0 0 0 64 ysX = 0 := by kernel_rfl
theorem ysX_B : FdB ysL [] ysX 0 135 :=
  .inr (.inr (.inr (.inr ⟨ys_fd.enc, ys_fd.fst, .inl ⟨rfl, rfl, ys_fd.ck⟩, .inl ⟨rfl, rfl, fun j hj => absurd hj (by simp)⟩, .inr ⟨rfl, by decide, by kernel_rfl, fun j hj => absurd hj (Nat.not_lt_zero _)⟩⟩)))
theorem refused_of {W : World} {L : List (Nat × Nat)} {M : List (ByteArray × Nat)} {i x : Nat} {e : Ending} {w' : World} (hc : ckV L 0 0 0 64 M = 0) (hB : FdB L [] M i x) (hx : x ≠ 0) (h : TkP W L [] [] 0 64 M e w') : e = .returned (.tuple #[.pointer none, .int .i64 i, .int .i64 x]) ∧ Below W.heap.size W w' := by
  obtain ⟨hb, hq⟩ := h
  have hno : ¬ FdG L [] M := fun hG => hx (hG.noB hB)
  rcases hq with ⟨i', x', he, hx', hq⟩ | ⟨pm, D, N, he, hM⟩
  · rcases hq with ⟨_, hq⟩ | ⟨_, hq⟩ | ⟨_, hG, _⟩
    · exact absurd (hq.trans hc) hx'
    · obtain ⟨rfl, rfl⟩ := fdB_det hB hx hq hx'
      exact ⟨he, hb⟩
    · exact absurd hG hno
  · exact absurd hM.2.1.fd hno
theorem mbits_any {w : World} {B pm : Nat} {L : List (Nat × Nat)} {J : List Nat} {ds : List Int} {z st : Nat} {M : List (ByteArray × Nat)} {D N : List Int} (h : Mod w B pm L J ds z st M D N) :
    Calls Tryz.prog 7 #[.pointer (some ⟨pm, 0, none⟩)] w fun e w' => e = .returned (.int .i64 (lstK (ds.length + z + st))) ∧ w' = w := by
  have hM := mmade_any pm w (mcells h)
  obtain ⟨_, _, a1, c1, a2, c2, a3, c3, a4, c4, Bp, pp, p1, g1, p2, g2, lv, lw, A, C, gd, cp, _, _, h4⟩ := h
  have q1 : w.cell? ⟨pm, 7, none⟩ = some (.int .i64 (lstK (ds.length + z + st))) := (obj_cell h4.obj 7).trans rfl
  clear h4
  generalize lstK (ds.length + z + st) = kk at *
  go_enter Tryz.func7, Tryz.ntmps7
  go_wp2_with (go_at_call 21; refine hM.mono ?_; rintro e w2 ⟨rfl, hw2⟩; have hw2 := hw2.symm; subst hw2)
  go_ret
  exact ⟨rfl, rfl⟩
/-- Entry of the sample's module -/
theorem mentry_ys {w : World} {B pm : Nat} {L : List (Nat × Nat)} {J : List Nat} {ds : List Int} {z st : Nat} {D N : List Int} (h : Mod w B pm L J ds z st ysM D N) (t : ByteArray) (y : Int) (hy : Lib.compareBytes [109, 97, 105, 110] t.data.toList = y) (h01 : y = 0 ∨ y = 1) :
    Calls Tryz.prog 9 #[.pointer (some ⟨pm, 0, none⟩), .string t] w fun e w' => e = .returned (.tuple #[.int .u32 0, .bool (y == 0)]) ∧ Below w.heap.size w w' := by
  have hM := mmade_any pm w (mcells h)
  obtain ⟨_, _, a1, c1, a2, c2, a3, c3, a4, c4, Bp, pp, p1, g1, p2, g2, lv, lw, A, C, gd, cp, _, _, h4⟩ := h
  have hrow := h4.im.names (by decide)
  obtain ⟨g, hg4, hlt⟩ : ∃ g, a4 = some ⟨g, 0, none⟩ ∧ g < w.heap.size := by
    rcases hrow.2 with ⟨_, hz⟩ | ⟨g, cap, cur, e1, _, hh, _⟩
    · exact absurd hz (by decide)
    · simp only [Value.slice.injEq] at e1
      exact ⟨g, e1.1, (Array.getElem?_eq_some_iff.1 hh).1⟩
  subst hg4
  have q6 : w.cell? ⟨pm, 6, none⟩ = some (.slice (some ⟨g, 0, none⟩) 1 c4) := (obj_cell h4.obj 6).trans rfl
  have n0 : w.cell? ⟨g, 0, none⟩ = some (.string ⟨#[109, 97, 105, 110]⟩) := (hrow.cellAt 0 (by decide)).trans rfl
  have n1 : w.cell? ⟨g, 1, none⟩ = some (.int .u32 0) := (hrow.cellAt 1 (by decide)).trans rfl
  have hB := bsf_one g c4 ⟨#[109, 97, 105, 110]⟩ t 0 y w hlt n0 n1 hy h01
  clear h4 hrow n0 hy
  rcases h01 with rfl | rfl
  · go_enter Tryz.func9, Tryz.ntmps9
    go_wp2_with (first
      | (go_at_call 21; refine hM.mono ?_; rintro e w2 ⟨rfl, hw2⟩; have hw2 := hw2.symm; subst hw2)
      | (go_at_call 23; with_reducible refine hB.mono ?_; rintro e w3 ⟨rfl, hb3⟩; have m1 := (hb3.cell (p := ⟨g, 1, none⟩) hlt).trans n1))
    go_ret2
    exact ⟨rfl, hb3⟩
  · go_enter Tryz.func9, Tryz.ntmps9
    go_wp2_with (first
      | (go_at_call 21; refine hM.mono ?_; rintro e w2 ⟨rfl, hw2⟩; have hw2 := hw2.symm; subst hw2)
      | (go_at_call 23; with_reducible refine hB.mono ?_; rintro e w3 ⟨rfl, hb3⟩))
    go_ret2
    exact ⟨rfl, hb3⟩
end Go.Proofs.YtnalnlbainghoaaGreatDoor
namespace Go.Proofs.YtnalnlbainghoaaGreatDoor
open Go.RowKit Go.WideShapes Go.Shelf
set_option maxRecDepth 100000
theorem Tryz.info5w : (Tryz.prog.info? 5).map (fun i => (i.zero, i.size, i.bytes)) = some (some (.int .u8 0), 1, 1) := by kernel_rfl
theorem make63 (w : World) : ∃ w', (Instr.makeSlice 28 (.int .i64 63) (.int .i64 63)).run Tryz.prog w = .ok (.slice (some ⟨w.heap.size, 0, none⟩) 63 63) w' ∧ Below w.heap.size w w' := by
  obtain ⟨i0, hi, hz0, hz1, hz2⟩ := info_parts Tryz.info5w
  obtain ⟨w', h1, h2, h3⟩ := run_make_full (P := Tryz.prog) w w.heap.size 28 5 i0 (.int .u8 0) 1 Tryz.underlying28 hi hz0 hz1 .i64 .i64 63 (by rw [hz2]; omega) (by unfold maxLen; omega) (Nat.le_refl _)
  exact ⟨w', h1, ⟨h3.os, h3.tape, h3.output, h3.size, fun k hk => h3.block k hk (by simp)⟩⟩
theorem ys_pn {N : List Int} (h0 : N.getD 0 0 = 1) (h1 : N.getD 1 0 = 1) : pnv (pnL (prL ysL) N (bgs ysL).length) = [.int .u32 0, .int .u32 4, .int .u32 8, .int .i64 1, .int .u32 4, .int .u32 7, .int .u32 4, .int .i64 1] := by
  rw [ys_bgs, ys_prL]
  show pnv [(0, 4, 8, N.getD 0 0), (4, 7, 4, N.getD 1 0)] = _
  rw [h0, h1]
  rfl
theorem nrd_objX {W : World} {b : Nat} {t : TypeId} (h : W.heap[b]? = some (.cells ysEX t (0, 0))) : NRd W (some ⟨b, 0, none⟩) ysX W.heap.size := fun _ =>
  ⟨b, 0, rfl, (Array.getElem?_eq_some_iff.1 h).1, fun j hj => by
    have : j = 0 := by simp [ysX] at hj; exact hj
    subst this
    exact ⟨(obj_cell h _).trans rfl, (obj_cell h _).trans rfl⟩⟩
theorem ysX_lt : ∀ j, j < ysX.length → (ysX.getD j (.empty, 0)).2 < 4294967296 := fun j hj => by
  have h0 : j = 0 := by simp [ysX] at hj; exact hj
  rw [h0]
  decide
theorem take_yx (n : Nat) (W : World) (hc : W.heap[n + 1]? = some (.cells ysC 46 (0, 0))) (hn : W.heap[n + 1 + 1]? = some (.cells ysEX 48 (0, 0))) (hT : TabW W) (hp : 2 < W.heap.size) :
    Calls Tryz.prog 4 #[saV n] W (TkP W ysL [] [] 0 64 ysX) :=
  take_any (some ⟨n + 1, 0, none⟩) none none (some ⟨n + 1 + 1, 0, none⟩) 7 0 0 0 64 1 ysL [] [] ysX W (by decide) (by simp) (by simp) (by simp [ysX]) wfc_ys (by simp) ysX_lt (by decide) (by decide) (by simp [ysX]) (crd_obj hc rfl) (fun q => absurd q (by simp)) (fun q => absurd q (by simp)) (nrd_objX hn) hT hp
set_option maxHeartbeats 16000000 in
theorem vnames_any (w : World) (hT : TabW w) (hp : 2 < w.heap.size) : Calls Tryz.prog 3 #[] w fun e w' => e = .returned (.bool true) ∧ Below w.heap.size w w' := by
  have HS : Hid (∀ W, Calls Tryz.prog 5 #[] W fun e w' => e = .returned (saV W.heap.size) ∧ SaP W w') := hidS sample_any
  have HT : Hid (∀ W, Below w.heap.size w W → TabW W ∧ 2 < W.heap.size) := hidS (fun W hW => ⟨hT.below hW hp, Nat.lt_of_lt_of_le hp hW.size⟩)
  clear hT hp
  go_enter Tryz.func3, Tryz.ntmps3
  go_wp2_with fail
  refine (HS.out _).mono ?_
  rintro e w1 ⟨rfl, h1⟩
  have HT1 := hidS (take_ys w.heap.size ysL ysC rfl wfc_ys rfl w1 h1.code h1.names (HT.out w1 h1.bl).1 (HT.out w1 h1.bl).2)
  have H1 := hidS h1.bl
  clear h1
  go_wp2_with fail
  refine HT1.out.mono ?_
  rintro e w2 hk
  obtain ⟨pm, D, N, rfl, hM, hd, hb2⟩ := ys_taken hk
  have hb02 := btP H1.out hb2
  have hnd := ys_need hM.2.1.dp
  have HA := awake_any w2 (HT.out w2 hb02).1 (HT.out w2 hb02).2
  have HM : Hid (∀ W, Below w2.heap.size w2 W → Mod W w1.heap.size pm ysL [] [] 0 64 ysM D N) := hidS (fun W hW => hM.below hW)
  clear hk HT1 hM
  go_wp2_with fail
  refine HA.mono ?_
  rintro e w3 ⟨rfl, hb3⟩
  have hBi : Calls Tryz.prog 7 #[.pointer (some ⟨pm, 0, none⟩)] w3 fun e w' => e = .returned (.int .i64 8) ∧ w' = w3 := mbits_any (HM.out w3 hb3)
  have HPr := hidS (mprocs_any (HM.out w3 hb3))
  clear HA
  go_wp2_with (go_at_call 7; with_reducible refine hBi.mono ?_; rintro e wq ⟨rfl, hq⟩; subst wq)
  refine HPr.out.mono ?_
  rintro e w4 ⟨g, c, rfl, hrow, hb4⟩
  rw [ys_pn hnd.1 hnd.2.1] at hrow
  have e2 : (bgs ysL).length = 2 := by rw [ys_bgs]; rfl
  rw [e2] at hrow ⊢
  have p0 : w4.cell? ⟨g, 0, none⟩ = some (.int .u32 0) := (hrow.cellAt 0 (by decide)).trans rfl
  have p1 : w4.cell? ⟨g, 1, none⟩ = some (.int .u32 4) := (hrow.cellAt 1 (by decide)).trans rfl
  have p2 : w4.cell? ⟨g, 2, none⟩ = some (.int .u32 8) := (hrow.cellAt 2 (by decide)).trans rfl
  have p3 : w4.cell? ⟨g, 3, none⟩ = some (.int .i64 1) := (hrow.cellAt 3 (by decide)).trans rfl
  have p4 : w4.cell? ⟨g, 4, none⟩ = some (.int .u32 4) := (hrow.cellAt 4 (by decide)).trans rfl
  have p5 : w4.cell? ⟨g, 5, none⟩ = some (.int .u32 7) := (hrow.cellAt 5 (by decide)).trans rfl
  have p6 : w4.cell? ⟨g, 6, none⟩ = some (.int .u32 4) := (hrow.cellAt 6 (by decide)).trans rfl
  have p7 : w4.cell? ⟨g, 7, none⟩ = some (.int .i64 1) := (hrow.cellAt 7 (by decide)).trans rfl
  have hb24 := btP hb3 hb4
  have hE1 := mentry_ys (HM.out w4 hb24) ⟨#[109, 97, 105, 110]⟩ 0 (by kernel_rfl) (.inl rfl)
  clear hrow HPr hBi e2
  go_wp2_with fail
  refine hE1.mono ?_
  rintro e w5 ⟨rfl, hb5⟩
  have hb25 := btP hb24 hb5
  have hE2 := mentry_ys (HM.out w5 hb25) ⟨#[102]⟩ 1 (by kernel_rfl) (.inr rfl)
  clear hE1 p0 p1 p2 p3 p4 p5 p6 p7
  go_wp2_with fail
  refine hE2.mono ?_
  rintro e w6 ⟨rfl, hb6⟩
  have hb26 := btP hb25 hb6
  have hM6 := HM.out w6 hb26
  have hD9 : D.getD 9 (-1) = -1 := by rw [List.getD_eq_getElem?_getD, List.getElem?_eq_none (by rw [hM6.2.1.dp.len]; decide)]; rfl
  have k2 : Calls Tryz.prog 10 #[.pointer (some ⟨pm, 0, none⟩), .int .u32 2] w6 fun e w' => e = .returned (.int .i64 1) ∧ w' = w6 := by have := mdepth_any 2 (by decide) hM6; rw [hnd.2.2] at this; exact this
  have k9 : Calls Tryz.prog 10 #[.pointer (some ⟨pm, 0, none⟩), .int .u32 9] w6 fun e w' => e = .returned (.int .i64 (-1)) ∧ w' = w6 := by have := mdepth_any 9 (by decide) hM6; rw [hD9] at this; exact this
  have hbk3 : bkV ysL D 3 = true := by
    unfold bkV
    rw [show (3 : Nat) - 1 = 2 from rfl, hnd.2.2]
    kernel_rfl
  have k3 : Calls Tryz.prog 11 #[.pointer (some ⟨pm, 0, none⟩), .int .u32 3] w6 fun e w' => e = .returned (.bool true) ∧ Below w6.heap.size w6 w' := by have := mback_any 3 (by decide) hM6; rw [hbk3] at this; exact this
  have hbk2 : bkV ysL D 2 = false := by
    unfold bkV
    rw [show decide ((ysL.getD (2 - 1) (0, 0)).1 = 5) = false by kernel_rfl]
    simp
  have HK : Hid (∀ W, Below w2.heap.size w2 W → Calls Tryz.prog 11 #[.pointer (some ⟨pm, 0, none⟩), .int .u32 2] W fun e w' => e = .returned (.bool false) ∧ Below W.heap.size W w') := hidS (fun W hW => by have := mback_any 2 (by decide) (HM.out W hW); rw [hbk2] at this; exact this)
  have HG4 : Hid (∀ W, Below w2.heap.size w2 W → Calls Tryz.prog 12 #[.pointer (some ⟨pm, 0, none⟩), .int .u32 4] W fun e w' => e = .returned (.bool true) ∧ w' = W) := hidS (fun W hW => mbegins_any 4 (by decide) (HM.out W hW))
  have HG3 : Hid (∀ W, Below w2.heap.size w2 W → Calls Tryz.prog 12 #[.pointer (some ⟨pm, 0, none⟩), .int .u32 3] W fun e w' => e = .returned (.bool false) ∧ w' = W) := hidS (fun W hW => mbegins_any 3 (by decide) (HM.out W hW))
  clear hE2 hM6 hD9 hbk3 hbk2 hnd hd
  go_wp2_with (go_at_call 10; first | (with_reducible refine k2.mono ?_; rintro e wq ⟨rfl, hq⟩; subst wq) | (with_reducible refine k9.mono ?_; rintro e wq ⟨rfl, hq⟩; subst wq))
  refine k3.mono ?_
  rintro e w7 ⟨rfl, hb7⟩
  have hb27 := btP hb26 hb7
  have k7 := HK.out w7 hb27
  clear k2 k9 k3 HK
  go_wp2_with fail
  refine k7.mono ?_
  rintro e w8 ⟨rfl, hb8⟩
  have hb28 := btP hb27 hb8
  have g4 := HG4.out w8 hb28
  have g3 := HG3.out w8 hb28
  have hb08 := btP hb02 hb28
  have HB8 := hidS hb08
  clear k7 HG4 HG3 hb27 hb26 hb25 hb24 hb8 hb7 hb6 hb5 hb4 hb3 hb2 hb02 HM H1 hb28 hb08
  go_wp2_with (go_at_call 12; first | (with_reducible refine g4.mono ?_; rintro e wq ⟨rfl, hq⟩; subst wq) | (with_reducible refine g3.mono ?_; rintro e wq ⟨rfl, hq⟩; subst wq))
  refine (HS.out _).mono ?_
  rintro e w9 ⟨rfl, h9⟩
  clear g4 g3
  obtain ⟨W10, hW10⟩ : ∃ W10, w9.alloc (.cells #[.slice (some ⟨w8.heap.size + 1, 0, none⟩) 7 7, .slice none 0 0, .slice none 0 0, .int .u32 0, .int .u32 64, .slice (some ⟨w8.heap.size + 1 + 1, 0, none⟩) 1 1] 32) = W10 := ⟨_, rfl⟩
  have l1 := (Array.getElem?_eq_some_iff.1 h9.code).1
  have l2 := (Array.getElem?_eq_some_iff.1 h9.names).1
  have hx10 : W10.heap[w9.heap.size]? = some (.cells #[.slice (some ⟨w8.heap.size + 1, 0, none⟩) 7 7, .slice none 0 0, .slice none 0 0, .int .u32 0, .int .u32 64, .slice (some ⟨w8.heap.size + 1 + 1, 0, none⟩) 1 1] 32 (0, 0)) := by rw [← hW10]; exact heap_alloc_new _ _
  have hc10 : W10.heap[w8.heap.size + 1]? = some (.cells ysC 46 (0, 0)) := by rw [← hW10]; exact (Below.heap_alloc _ _ _ (by omega)).trans h9.code
  have hn10 : W10.heap[w8.heap.size + 1 + 1]? = some (.cells ysE 48 (0, 0)) := by rw [← hW10]; exact (Below.heap_alloc _ _ _ (by omega)).trans h9.names
  have hb10 : Below w8.heap.size w8 W10 := by rw [← hW10]; exact belP h9.bl
  obtain ⟨W11, hW11⟩ : ∃ W11, W10.setCell ⟨w8.heap.size + 1, 7, none⟩ (.int .u32 4) = W11 := ⟨_, rfl⟩
  have hc11 : W11.heap[w8.heap.size + 1]? = some (.cells ysCF 46 (0, 0)) := by rw [← hW11]; exact heap_setCell_same W10 _ 7 _ _ _ hc10
  have hn11 : W11.heap[w8.heap.size + 1 + 1]? = some (.cells ysE 48 (0, 0)) := by rw [← hW11]; exact (Below.heap_setCell _ _ _ _ (by simp)).trans hn10
  have hx11 : W11.heap[w9.heap.size]? = some (.cells #[.slice (some ⟨w8.heap.size + 1, 0, none⟩) 7 7, .slice none 0 0, .slice none 0 0, .int .u32 0, .int .u32 64, .slice (some ⟨w8.heap.size + 1 + 1, 0, none⟩) 1 1] 32 (0, 0)) := by rw [← hW11]; exact (Below.heap_setCell _ _ _ _ (by show w9.heap.size ≠ w8.heap.size + 1; omega)).trans hx10
  have hb11 : Below w8.heap.size w8 W11 := by rw [← hW11]; exact hb10.setCell (by show w8.heap.size ≤ w8.heap.size + 1; omega) _
  have c7 : (w9.alloc (.cells #[.slice (some ⟨w8.heap.size + 1, 0, none⟩) 7 7, .slice none 0 0, .slice none 0 0, .int .u32 0, .int .u32 64, .slice (some ⟨w8.heap.size + 1 + 1, 0, none⟩) 1 1] 32)).cell? ⟨w8.heap.size + 1, 7, none⟩ = some (.int .u32 8) := by rw [hW10]; exact (obj_cell hc10 7).trans rfl
  have z7 : (w9.alloc (.cells #[.slice (some ⟨w8.heap.size + 1, 0, none⟩) 7 7, .slice none 0 0, .slice none 0 0, .int .u32 0, .int .u32 64, .slice (some ⟨w8.heap.size + 1 + 1, 0, none⟩) 1 1] 32)).frozen? ⟨w8.heap.size + 1, 7, none⟩ = false := by rw [hW10]; exact obj_frozen hc10 7
  have d0 : ((w9.alloc (.cells #[.slice (some ⟨w8.heap.size + 1, 0, none⟩) 7 7, .slice none 0 0, .slice none 0 0, .int .u32 0, .int .u32 64, .slice (some ⟨w8.heap.size + 1 + 1, 0, none⟩) 1 1] 32)).setCell ⟨w8.heap.size + 1, 7, none⟩ (.int .u32 4)).cell? ⟨w9.heap.size, 0, none⟩ = some (.slice (some ⟨w8.heap.size + 1, 0, none⟩) 7 7) := by rw [hW10, hW11]; exact (obj_cell hx11 0).trans rfl
  have d1 : ((w9.alloc (.cells #[.slice (some ⟨w8.heap.size + 1, 0, none⟩) 7 7, .slice none 0 0, .slice none 0 0, .int .u32 0, .int .u32 64, .slice (some ⟨w8.heap.size + 1 + 1, 0, none⟩) 1 1] 32)).setCell ⟨w8.heap.size + 1, 7, none⟩ (.int .u32 4)).cell? ⟨w9.heap.size, 1, none⟩ = some (.slice none 0 0) := by rw [hW10, hW11]; exact (obj_cell hx11 1).trans rfl
  have d2 : ((w9.alloc (.cells #[.slice (some ⟨w8.heap.size + 1, 0, none⟩) 7 7, .slice none 0 0, .slice none 0 0, .int .u32 0, .int .u32 64, .slice (some ⟨w8.heap.size + 1 + 1, 0, none⟩) 1 1] 32)).setCell ⟨w8.heap.size + 1, 7, none⟩ (.int .u32 4)).cell? ⟨w9.heap.size, 2, none⟩ = some (.slice none 0 0) := by rw [hW10, hW11]; exact (obj_cell hx11 2).trans rfl
  have d3 : ((w9.alloc (.cells #[.slice (some ⟨w8.heap.size + 1, 0, none⟩) 7 7, .slice none 0 0, .slice none 0 0, .int .u32 0, .int .u32 64, .slice (some ⟨w8.heap.size + 1 + 1, 0, none⟩) 1 1] 32)).setCell ⟨w8.heap.size + 1, 7, none⟩ (.int .u32 4)).cell? ⟨w9.heap.size, 3, none⟩ = some (.int .u32 0) := by rw [hW10, hW11]; exact (obj_cell hx11 3).trans rfl
  have d4 : ((w9.alloc (.cells #[.slice (some ⟨w8.heap.size + 1, 0, none⟩) 7 7, .slice none 0 0, .slice none 0 0, .int .u32 0, .int .u32 64, .slice (some ⟨w8.heap.size + 1 + 1, 0, none⟩) 1 1] 32)).setCell ⟨w8.heap.size + 1, 7, none⟩ (.int .u32 4)).cell? ⟨w9.heap.size, 4, none⟩ = some (.int .u32 64) := by rw [hW10, hW11]; exact (obj_cell hx11 4).trans rfl
  have d5 : ((w9.alloc (.cells #[.slice (some ⟨w8.heap.size + 1, 0, none⟩) 7 7, .slice none 0 0, .slice none 0 0, .int .u32 0, .int .u32 64, .slice (some ⟨w8.heap.size + 1 + 1, 0, none⟩) 1 1] 32)).setCell ⟨w8.heap.size + 1, 7, none⟩ (.int .u32 4)).cell? ⟨w9.heap.size, 5, none⟩ = some (.slice (some ⟨w8.heap.size + 1 + 1, 0, none⟩) 1 1) := by rw [hW10, hW11]; exact (obj_cell hx11 5).trans rfl
  have H11 := hidS (And.intro hW10 hW11)
  have HX11 := hidS (And.intro hc11 (And.intro hn11 (And.intro hx11 hb11)))
  have HBl : Hid (w.heap.size ≤ w9.heap.size) := hidS (Nat.le_trans HB8.out.size h9.bl.size)
  clear hW10 hW11 hc11 hn11 hx11 hb11 hx10 hc10 hn10 hb10 h9 l1 l2
  go_wp2_with fail
  rw [H11.out.1, H11.out.2]
  have hbw11 := btP HB8.out HX11.out.2.2.2
  refine (take_ys w8.heap.size ysF ysCF rfl wfc_ysF rfl W11 HX11.out.1 HX11.out.2.1 (HT.out W11 hbw11).1 (HT.out W11 hbw11).2).mono ?_
  rintro e w12 hk
  obtain ⟨rfl, hb12⟩ := refused_of ysF_ck ysF_B (by decide) hk
  have HB12 := hidS (btP hbw11 hb12)
  have hx12 := (hb12.block _ (Array.getElem?_eq_some_iff.1 HX11.out.2.2.1).1).trans HX11.out.2.2.1
  clear hk c7 z7 d0 d1 d2 d3 d4 d5 H11 HX11 hb12 hbw11 HB8
  simp only [show ((3 : Nat) : Int) = 3 from rfl, show ((131 : Nat) : Int) = 131 from rfl]
  go_wp2_with fail
  refine (HS.out _).mono ?_
  rintro e w13 ⟨rfl, h13⟩
  have l9 : w9.heap.size < w12.heap.size := (Array.getElem?_eq_some_iff.1 hx12).1
  have hx13 := (h13.bl.block _ l9).trans hx12
  obtain ⟨W14, hW14⟩ : ∃ W14, w13.setRow w9.heap.size #[.slice (some ⟨w12.heap.size + 1, 0, none⟩) 7 7, .slice none 0 0, .slice none 0 0, .int .u32 0, .int .u32 64, .slice (some ⟨w12.heap.size + 1 + 1, 0, none⟩) 1 1] = W14 := ⟨_, rfl⟩
  have hx14 : W14.heap[w9.heap.size]? = some (.cells #[.slice (some ⟨w12.heap.size + 1, 0, none⟩) 7 7, .slice none 0 0, .slice none 0 0, .int .u32 0, .int .u32 64, .slice (some ⟨w12.heap.size + 1 + 1, 0, none⟩) 1 1] 32 (0, 0)) := by rw [← hW14]; exact setRow_heap _ _ _ _ _ _ hx13
  have hc14 : W14.heap[w12.heap.size + 1]? = some (.cells ysC 46 (0, 0)) := by rw [← hW14]; exact (setRow_other _ _ _ _ (by omega)).trans h13.code
  have hn14 : W14.heap[w12.heap.size + 1 + 1]? = some (.cells ysE 48 (0, 0)) := by rw [← hW14]; exact (setRow_other _ _ _ _ (by omega)).trans h13.names
  have HB14 : Hid (∃ B, w.heap.size ≤ B ∧ Below w.heap.size w W14) := by
    have h0 := btP HB12.out h13.bl
    have hz : w.heap.size ≤ w9.heap.size := HBl.out
    exact hidS ⟨_, Nat.le_refl _, by rw [← hW14]; exact below_setRow h0 hz _⟩
  obtain ⟨W15, hW15⟩ : ∃ W15, W14.setCell ⟨w12.heap.size + 1 + 1, 1, none⟩ (.int .u32 1) = W15 := ⟨_, rfl⟩
  have hn15 : W15.heap[w12.heap.size + 1 + 1]? = some (.cells ysEX 48 (0, 0)) := by rw [← hW15]; exact heap_setCell_same W14 _ 1 _ _ _ hn14
  have hc15 : W15.heap[w12.heap.size + 1]? = some (.cells ysC 46 (0, 0)) := by rw [← hW15]; exact (Below.heap_setCell _ _ _ _ (by simp)).trans hc14
  have hx15 : W15.heap[w9.heap.size]? = some (.cells #[.slice (some ⟨w12.heap.size + 1, 0, none⟩) 7 7, .slice none 0 0, .slice none 0 0, .int .u32 0, .int .u32 64, .slice (some ⟨w12.heap.size + 1 + 1, 0, none⟩) 1 1] 32 (0, 0)) := by rw [← hW15]; exact (Below.heap_setCell _ _ _ _ (by show w9.heap.size ≠ w12.heap.size + 1 + 1; omega)).trans hx14
  have hb15 : Below w.heap.size w W15 := by
    obtain ⟨_, _, hq⟩ := HB14.out
    rw [← hW15]
    exact hq.setCell (by have := HB12.out.size; show w.heap.size ≤ w12.heap.size + 1 + 1; omega) _
  have f5 : W14.cell? ⟨w9.heap.size, 5, none⟩ = some (.slice (some ⟨w12.heap.size + 1 + 1, 0, none⟩) 1 1) := (obj_cell hx14 5).trans rfl
  have c1 : W14.cell? ⟨w12.heap.size + 1 + 1, 1, none⟩ = some (.int .u32 0) := (obj_cell hn14 1).trans rfl
  have z1 : W14.frozen? ⟨w12.heap.size + 1 + 1, 1, none⟩ = false := obj_frozen hn14 1
  have d0 : (W14.setCell ⟨w12.heap.size + 1 + 1, 1, none⟩ (.int .u32 1)).cell? ⟨w9.heap.size, 0, none⟩ = some (.slice (some ⟨w12.heap.size + 1, 0, none⟩) 7 7) := by rw [hW15]; exact (obj_cell hx15 0).trans rfl
  have d1 : (W14.setCell ⟨w12.heap.size + 1 + 1, 1, none⟩ (.int .u32 1)).cell? ⟨w9.heap.size, 1, none⟩ = some (.slice none 0 0) := by rw [hW15]; exact (obj_cell hx15 1).trans rfl
  have d2 : (W14.setCell ⟨w12.heap.size + 1 + 1, 1, none⟩ (.int .u32 1)).cell? ⟨w9.heap.size, 2, none⟩ = some (.slice none 0 0) := by rw [hW15]; exact (obj_cell hx15 2).trans rfl
  have d3 : (W14.setCell ⟨w12.heap.size + 1 + 1, 1, none⟩ (.int .u32 1)).cell? ⟨w9.heap.size, 3, none⟩ = some (.int .u32 0) := by rw [hW15]; exact (obj_cell hx15 3).trans rfl
  have d4 : (W14.setCell ⟨w12.heap.size + 1 + 1, 1, none⟩ (.int .u32 1)).cell? ⟨w9.heap.size, 4, none⟩ = some (.int .u32 64) := by rw [hW15]; exact (obj_cell hx15 4).trans rfl
  have d5 : (W14.setCell ⟨w12.heap.size + 1 + 1, 1, none⟩ (.int .u32 1)).cell? ⟨w9.heap.size, 5, none⟩ = some (.slice (some ⟨w12.heap.size + 1 + 1, 0, none⟩) 1 1) := by rw [hW15]; exact (obj_cell hx15 5).trans rfl
  have HX13 := hidS hx13
  have HSZ : Hid ((Tryz.prog.info? 32).map (·.size) = some (Array.size (α := Value) #[.slice (some ⟨w12.heap.size + 1, 0, none⟩) 7 7, .slice none 0 0, .slice none 0 0, .int .u32 0, .int .u32 64, .slice (some ⟨w12.heap.size + 1 + 1, 0, none⟩) 1 1])) := hidS (sizeVIm.trans rfl)
  have HON : Hid (Array.all (α := Value) #[.slice (some ⟨w12.heap.size + 1, 0, none⟩) 7 7, .slice none 0 0, .slice none 0 0, .int .u32 0, .int .u32 64, .slice (some ⟨w12.heap.size + 1 + 1, 0, none⟩) 1 1] (·.oneCell') = true) := hidS (by simp [Value.oneCell'])
  have H14 := hidS (And.intro hW14 hW15)
  have HX15 := hidS (And.intro hc15 (And.intro hn15 hb15))
  clear hx12 hx13 hW14 hW15 hx14 hc14 hn14 HB14 hn15 hc15 hx15 hb15 h13 l9
  go_wp2_with (with_reducible refine at_store 32 rfl ?_; (refine wpList_store_rowV rfl _ _ _ rfl w9.heap.size _ #[.slice (some ⟨w12.heap.size + 1, 0, none⟩) 7 7, .slice none 0 0, .slice none 0 0, .int .u32 0, .int .u32 64, .slice (some ⟨w12.heap.size + 1 + 1, 0, none⟩) 1 1] ?a1 ?a2 HX13.out HSZ.out rfl HON.out ?_; (case a1 => first | rfl | (simp only [Act.eval]; simp)); (case a2 => first | rfl | (simp only [Act.eval]; simp)); rw [H14.out.1]))
  rw [H14.out.2]
  refine (take_yx w12.heap.size W15 HX15.out.1 HX15.out.2.1 (HT.out W15 HX15.out.2.2).1 (HT.out W15 HX15.out.2.2).2).mono ?_
  rintro e w16 hk
  obtain ⟨rfl, hb16⟩ := refused_of ysX_ck ysX_B (by decide) hk
  have HB16 := hidS (btP HX15.out.2.2 hb16)
  clear hk c1 z1 f5 d0 d1 d2 d3 d4 d5 H14 HX15 HX13 hb16 HB12
  simp only [show ((0 : Nat) : Int) = 0 from rfl, show ((135 : Nat) : Int) = 135 from rfl]
  obtain ⟨w17, hmk, hb17⟩ := make63 w16
  have HL := load_short (some ⟨w16.heap.size, 0, none⟩) 63 w17
  go_wp2_with fail
  refine HL.mono ?_
  rintro e w18 ⟨rfl, hb18⟩
  have hb018 := btP HB16.out (btP hb17 hb18)
  have HN1 := nothing_any (.pointer none) w18 (.inl rfl)
  clear HL hmk
  go_wp2_with fail
  refine HN1.mono ?_
  rintro e w19 ⟨rfl, hb19⟩
  have hb019 := btP hb018 hb19
  clear HN1
  go_wp2_with fail
  refine (nothing_any (.pointer (some ⟨w19.heap.size, 0, none⟩)) _ ?hno).mono ?_
  case hno => exact .inr ⟨w19.heap.size, by simp, rfl, (obj_cell (heap_alloc_last w19 _) 0).trans rfl⟩
  rintro e w20 ⟨rfl, hb20⟩
  have hb020 := btP (belP hb019) hb20
  go_wp2_with fail
  go_ret
  exact ⟨rfl, hb020⟩
end Go.Proofs.YtnalnlbainghoaaGreatDoor
