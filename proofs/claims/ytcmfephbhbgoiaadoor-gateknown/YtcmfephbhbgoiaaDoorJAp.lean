import Derived.Test.YtcmfephbhbgoiaaDoorECp
import Derived.Test.YtcmfephbhbgoiaaDoorJGn
import Derived.Test.YtcmfephbhbgoiaaDoorJFi
namespace Go.Proofs.YtcmfephbhbgoiaaDoor
open Go.RowKit Go.WideShapes
set_option maxRecDepth 100000
theorem bits8_m (a g cap : Nat) (bs : List Int) (lg : Bool) (tv : Value) (ts : List (Int × Bool)) (w : World) (h : MemS w a g cap bs lg tv ts) (hl : bs.length = 256) (hT : Tab w) :
    Calls Tryd.prog 40 #[.pointer (some ⟨a, 0, none⟩)] w fun e w' => e = .returned (.int .i64 8) ∧ w' = w := by
  have hM := made_yes a w ((obj_cell h.obj 0).trans rfl)
  have hc : w.cell? ⟨a, 1, none⟩ = some (.slice (some ⟨g, 0, none⟩) 256 cap) := by rw [← hl]; exact (obj_cell h.obj 1).trans rfl
  have hz := tz_any w hT
  clear h
  go_enter Tryd.func40, Tryd.ntmps40
  go_wp2_with (first
    | (go_at_call 37; with_reducible refine hM.mono ?_; rintro e wq ⟨rfl, hq⟩; subst wq)
    | (go_at_call 48; with_reducible refine hz.mono ?_; rintro e wq ⟨rfl, hq⟩; subst wq)
    | fail)
  go_ret
  exact ⟨rfl, rfl⟩
theorem ismem_any (a g cap : Nat) (bs : List Int) (lg : Bool) (tv : Value) (ts : List (Int × Bool)) (w : World) (h : MemS w a g cap bs lg tv ts) (hl : bs.length = 256) (hT : Tab w) :
    Calls Tryd.prog 25 #[.pointer (some ⟨a, 0, none⟩)] w fun e w' => e = .returned (.bool true) ∧ w' = w := by
  have hB := bits8_m a g cap bs lg tv ts w h hl hT
  go_enter Tryd.func25, Tryd.ntmps25
  go_wp2_with (go_at_call 40; with_reducible refine hB.mono ?_; rintro e wq ⟨rfl, hq⟩; subst wq)
  go_ret
  exact ⟨rfl, rfl⟩
/-- writes whose cells and bytes lie where nothing is written (N) -/
def WsN (N : Nat → Prop) (w : World) (ao : Option Addr) (cs : List WCell) (WS : List (Nat × List Int)) : Prop :=
  cs.length = WS.length ∧ (∀ k, k < WS.length → (cs.getD k wc0).1 = (WS.getD k (0, [])).1 ∧ (cs.getD k wc0).2.2.1 = (WS.getD k (0, [])).2.length ∧ (cs.getD k wc0).2.2.1 ≤ (cs.getD k wc0).2.2.2 ∧ (∀ z ∈ (WS.getD k (0, [])).2, 0 ≤ z ∧ z ≤ 255) ∧ (cs.getD k wc0).1 < 4294967296
      ∧ ∃ sb so, Src w (cs.getD k wc0).2.1 sb so (WS.getD k (0, [])).2 ∧ sb < w.heap.size ∧ N sb)
    ∧ (0 < cs.length → ∃ b off, ao = some ⟨b, off, none⟩ ∧ b < w.heap.size ∧ N b ∧ ∀ j, j < cs.length → w.cell? ⟨b, off + j * 2, none⟩ = some (.int .u32 ((cs.getD j wc0).1 : Nat)) ∧ w.cell? ⟨b, off + j * 2 + 1, none⟩ = some (.slice (cs.getD j wc0).2.1 (cs.getD j wc0).2.2.1 (cs.getD j wc0).2.2.2))
theorem WsN.cells {N : Nat → Prop} {w : World} {ao : Option Addr} {cs : List WCell} {WS : List (Nat × List Int)} (h : WsN N w ao cs WS) : WcC w ao cs w.heap.size := by
  intro hl
  obtain ⟨b, off, e, hb, _, hc⟩ := h.2.2 hl
  exact ⟨b, off, e, hb, hc⟩
theorem Src.kp {S : Nat → Prop} {w w' : World} {bo : Option Addr} {sb so : Nat} {zs : List Int} (h : Src w bo sb so zs) (hk : Kp S w w') (hn : ¬ S sb) : Src w' bo sb so zs := by
  intro hl
  obtain ⟨e, hb, hc⟩ := h hl
  have := hk.size
  exact ⟨e, by omega, fun i hi => (hk.cell (p := ⟨sb, so + i, none⟩) hb hn).trans (hc i hi)⟩
theorem WsN.kp {N S : Nat → Prop} {w w' : World} {ao : Option Addr} {cs : List WCell} {WS : List (Nat × List Int)} (h : WsN N w ao cs WS) (hk : Kp S w w') (hn : ∀ k, k < w.heap.size → N k → ¬ S k) : WsN N w' ao cs WS := by
  have hs := hk.size
  refine ⟨h.1, fun k hkl => ?_, fun hl => ?_⟩
  · obtain ⟨a1, a2, a3, a4, a5, sb, so, a6, a7, a8⟩ := h.2.1 k hkl
    exact ⟨a1, a2, a3, a4, a5, sb, so, a6.kp hk (hn sb a7 a8), by omega, a8⟩
  · obtain ⟨b, off, e, hb, hN, hc⟩ := h.2.2 hl
    exact ⟨b, off, e, by omega, hN, fun j hj => ⟨(hk.cell (p := ⟨b, off + j * 2, none⟩) hb (hn b hb hN)).trans (hc j hj).1, (hk.cell (p := ⟨b, off + j * 2 + 1, none⟩) hb (hn b hb hN)).trans (hc j hj).2⟩⟩
def applyL (bs : List Int) (WS : List (Nat × List Int)) : List Int := WS.foldl (fun bs p => wrL bs p.1 p.2) bs
theorem applyL_snoc (bs : List Int) (WS : List (Nat × List Int)) (p : Nat × List Int) : applyL bs (WS ++ [p]) = wrL (applyL bs WS) p.1 p.2 := by simp [applyL, List.foldl_append]
theorem take_snocW (J : List (Nat × List Int)) (k : Nat) (h : k < J.length) : J.take (k + 1) = J.take k ++ [J.getD k (0, [])] := by
  rw [List.take_add_one, List.getElem?_eq_getElem h]
  simp [List.getD_eq_getElem?_getD, List.getElem?_eq_getElem h]
theorem fitC_len {cs : List WCell} (h : fitC cs = true) {k : Nat} (hk : k < cs.length) : (cs.getD k wc0).2.2.1 ≤ 256 := by
  unfold fitC at h
  rw [Bool.and_eq_true, List.all_eq_true] at h
  have := h.2 (cs.getD k wc0) (by simp [List.getD, List.getElem?_eq_getElem hk])
  simpa using this
theorem fitC_16 {cs : List WCell} (h : fitC cs = true) : cs.length ≤ 16 := by
  unfold fitC at h
  rw [Bool.and_eq_true, decide_eq_true_eq] at h
  exact h.1
/-- what a run of writes leaves of a segment -/
def ApS (w : World) (a g cap : Nat) (tv : Value) (ts : List (Int × Bool)) (bs' : List Int) (wr : World) : Prop :=
  ∃ tv', MemS wr a g cap bs' false tv' ts ∧ (∀ j, tv'.ownBlock = some j → tv.ownBlock = some j ∨ w.heap.size ≤ j) ∧ Kp (Foot a g tv) w wr
theorem ApS.below {w : World} {a g cap : Nat} {tv : Value} {ts : List (Int × Bool)} {bs' : List Int} {wr w' : World} (h : ApS w a g cap tv ts bs' wr) (hb : Below wr.heap.size wr w') : ApS w a g cap tv ts bs' w' := by
  obtain ⟨tv', h1, h2, h3⟩ := h
  exact ⟨tv', h1.kept (S := fun _ => False) (Kp.ofBelow hb) (fun _ _ h => h), h2, h3.trans (S' := fun _ => False) (Kp.ofBelow hb) (fun _ _ h => h.elim)⟩
set_option maxHeartbeats 4000000 in
theorem apply_ok (gg : Nat) (f : Int → Option Int) (a g cap : Nat) (bs : List Int) (tv : Value) (ts : List (Int × Bool)) (v : Int) (ao : Option Addr) (cp : Nat) (cs : List WCell) (WS : List (Nat × List Int)) (w : World)
    (hG : GtS w gg f) (h : MemS w a g cap bs false tv ts) (hl : bs.length = 256) (hT : Tab w) (h1 : 1 < w.heap.size) (hw : WsN (fun k => ¬ Foot a g tv k) w ao cs WS) (hf : fitC cs = true) :
    Calls Tryd.prog 14 #[.pointer (some ⟨gg, 0, none⟩), .pointer (some ⟨a, 0, none⟩), .agg #[.int .u32 v, .slice ao cs.length cp]] w fun e w' => e = .returned (.int .i64 0) ∧ ApS w a g cap tv ts (applyL bs WS) w' := by
  have hb0 : ∀ o, Below w.heap.size w (w.alloc o) := fun o => (Below.refl _ _).alloc (Nat.le_refl _) o
  have hM := fun o => gmade_any gg f (w.alloc o) (hG.kept (hb0 o) rfl)
  have hI := fun o => ismem_any a g cap bs false tv ts (w.alloc o) (h.kept (S := fun _ => False) (Kp.ofBelow (hb0 o)) (fun _ _ h => h)) hl (hT.below (hb0 o) h1)
  have hF := fun o => fits_any v ao cp cs (w.alloc o) ((hw.cells.below (hb0 o)).mono (hb0 o).size)
  rw [hf] at hF
  have h16 := fitC_16 hf
  have hst : ApS w a g cap tv ts bs w := ⟨tv, h, fun j e => .inl e, Kp.refl _ _⟩
  go_enter Tryd.func14, Tryd.ntmps14
  go_wp2_with (first
    | (go_at_call 24; with_reducible refine (hM _).mono ?_; rintro e wq ⟨rfl, hq⟩; subst wq)
    | (go_at_call 25; with_reducible refine (hI _).mono ?_; rintro e wq ⟨rfl, hq⟩; subst wq)
    | (go_at_call 27; with_reducible refine (hF _).mono ?_; rintro e w1 ⟨rfl, hq1⟩; have d1 := (hq1.cell (p := ⟨w.heap.size, 1, none⟩) (by simp)).trans (new_cell w _ _ 1)))
  have hb1 : Below w.heap.size w w1 := (hb0 _).trans (hq1.mono (by simp))
  replace hst := hst.below hb1
  clear hM hI hF hq1
  go_loopw [23] (fun i wr => ∃ k : Nat, i = .int .i64 k ∧ k ≤ cs.length ∧ ApS w a g cap tv ts (applyL bs (WS.take k)) wr) (fun i _ => cs.length - (intOf i).toNat)
  case atStart => exact ⟨0, rfl, Nat.zero_le _, hst⟩
  case round =>
    obtain ⟨k, rfl, hk, hA⟩ := hrel
    clear hst
    by_cases hlt : k < cs.length
    · have hd : decide ((k : Int) < cs.length) = true := by simp; omega
      obtain ⟨tv', hMs, hown, hkp⟩ := hA
      obtain ⟨a1, a2, a3, a4, a5, sb, so, hsrc0, hsb, hns⟩ := hw.2.1 k (by have := hw.1; omega)
      have hsrc := hsrc0.kp hkp hns
      obtain ⟨bo, off, rfl, hbl, hnb, hc⟩ := hw.2.2 (by omega)
      have c1 := (hkp.cell (p := ⟨bo, off + k * 2, none⟩) hbl hnb).trans (hc k hlt).1
      have c2 := (hkp.cell (p := ⟨bo, off + k * 2 + 1, none⟩) hbl hnb).trans (hc k hlt).2
      have hle := fitC_len hf hlt
      have HT := fjhid (take_snocW WS k (by have := hw.1; omega))
      have hft : ∀ i, i < w.heap.size → Foot a g tv' i → Foot a g tv i := by
        rintro i hi (h | h | h)
        · exact .inl h
        · exact .inr (.inl h)
        · rcases hown i h with e | e
          · exact .inr (.inr e)
          · omega
      have hns' : ¬ Foot a g tv' sb := fun h => hns (hft sb hsb h)
      have hsz := hkp.size
      have hWr := fun o => write_m false (note_ok_off _ _) a g cap (cs.getD k wc0).1 (cs.getD k wc0).2.2.2 sb so (cs.getD k wc0).2.1 (applyL bs (WS.take k)) (WS.getD k (0, [])).2 tv' ts (wr.alloc o)
        (hMs.kept (S := fun _ => False) (Kp.alloc _ _) (fun _ _ h => h)) a5 (by rw [← a2]; omega) (by rw [← a2]; exact a3) a4 (hsrc.kp (S := fun _ => False) (Kp.alloc _ _) (fun h => h)) hns'
      rw [← a2] at hWr
      have HW := fjhid hWr
      have HA1 := fjhid a1
      clear hWr hc hsrc hsrc0 hns hns' a2 a3 a4 a5 hle a1
      generalize cs.getD k wc0 = c at *
      obtain ⟨x0, x1, x2, x3⟩ := c
      simp only at c1 c2
      go_wp2_with (go_at_call 34; with_reducible refine (HW.out _).mono ?_; rintro e w2 ⟨rfl, hq⟩; have HQ := fjhid hq; clear hq)
      obtain ⟨⟨tv2, hM2, hown2⟩, hk2⟩ := HQ.out
      go_roundw
      case rel =>
        refine ⟨k + 1, by go_num, hlt, tv2, ?_, ?_, ?_⟩
        · rw [HT.out, applyL_snoc, ← HA1.out]; exact hM2
        · intro j e
          rcases hown2 j e with e | e
          · exact hown j e
          · right; simp at e; omega
        · exact (hkp.trans (S' := fun _ => False) (Kp.alloc _ _) (fun _ _ h => h.elim)).trans hk2 hft
      case measure => simp [intOf]; omega
    · have hd : decide ((k : Int) < cs.length) = false := by simp; omega
      have he : WS.take k = WS := List.take_of_length_le (by have := hw.1; omega)
      rw [he] at hA
      go_wp2
      go_ret
      exact ⟨rfl, hA⟩
theorem apply_bad (gg : Nat) (f : Int → Option Int) (a g cap : Nat) (bs : List Int) (tv : Value) (ts : List (Int × Bool)) (v : Int) (ao : Option Addr) (cp : Nat) (cs : List WCell) (w : World)
    (hG : GtS w gg f) (h : MemS w a g cap bs false tv ts) (hl : bs.length = 256) (hT : Tab w) (h1 : 1 < w.heap.size) (hw : WcC w ao cs w.heap.size) (hf : fitC cs = false) :
    Calls Tryd.prog 14 #[.pointer (some ⟨gg, 0, none⟩), .pointer (some ⟨a, 0, none⟩), .agg #[.int .u32 v, .slice ao cs.length cp]] w fun e w' => e = .returned (.int .i64 5) ∧ Below w.heap.size w w' := by
  have hb0 : ∀ o, Below w.heap.size w (w.alloc o) := fun o => (Below.refl _ _).alloc (Nat.le_refl _) o
  have hM := fun o => gmade_any gg f (w.alloc o) (hG.kept (hb0 o) rfl)
  have hI := fun o => ismem_any a g cap bs false tv ts (w.alloc o) (h.kept (S := fun _ => False) (Kp.ofBelow (hb0 o)) (fun _ _ h => h)) hl (hT.below (hb0 o) h1)
  have hF := fun o => fits_any v ao cp cs (w.alloc o) ((hw.below (hb0 o)).mono (hb0 o).size)
  rw [hf] at hF
  go_enter Tryd.func14, Tryd.ntmps14
  go_wp2_with (first
    | (go_at_call 24; with_reducible refine (hM _).mono ?_; rintro e wq ⟨rfl, hq⟩; subst wq)
    | (go_at_call 25; with_reducible refine (hI _).mono ?_; rintro e wq ⟨rfl, hq⟩; subst wq)
    | (go_at_call 27; with_reducible refine (hF _).mono ?_; rintro e w1 ⟨rfl, hq1⟩))
  go_ret
  exact ⟨rfl, (hb0 _).trans (hq1.mono (by simp))⟩
end Go.Proofs.YtcmfephbhbgoiaaDoor
