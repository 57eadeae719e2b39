import Derived.Test.YtfjnpmbkmoodnaaRLn
import Derived.Test.YtfjnpmbkmoodnaaRSm
namespace Go.Proofs.Ytfjnpmbkmoodnaa
open Go.RowKit Go.WideShapes
set_option maxRecDepth 100000
theorem wrV_get : ∀ (E : List LE) (k : Nat) (h : k < E.length), (wrV E)[k * 2]? = some (.int .u32 ((E[k]).1 : Nat)) ∧ (wrV E)[k * 2 + 1]? = some (.slice (some ⟨(E[k]).2.2.1, 0, none⟩) (E[k]).2.1.length (E[k]).2.2.2)
  | [], k, h => by simp at h
  | e :: E, 0, _ => ⟨rfl, rfl⟩
  | e :: E, k + 1, h => by
    have := wrV_get E k (by simpa using h)
    rw [show (k + 1) * 2 + 1 = (k * 2 + 1) + 2 by omega, show (k + 1) * 2 = k * 2 + 2 by omega]
    simpa [wrV] using this
theorem mkW_get : ∀ (n k : Nat), k < n → (mkW n)[k * 2]? = some (.int .u32 ((90 + k : Nat) : Int)) ∧ (mkW n)[k * 2 + 1]? = some (.slice none 0 0)
  | n + 1, k, h => by
    by_cases hk : k < n
    · obtain ⟨h1, h2⟩ := mkW_get n k hk
      have hl := mkW_len n
      constructor
      · simp only [mkW]; rw [List.getElem?_append_left (by omega)]; exact h1
      · simp only [mkW]; rw [List.getElem?_append_left (by omega)]; exact h2
    · have : k = n := by omega
      subst this
      have hl := mkW_len k
      constructor
      · simp only [mkW]; rw [List.getElem?_append_right (by omega), hl]; simp
      · simp only [mkW]; rw [List.getElem?_append_right (by omega), hl]; simp
theorem LnP.len {w w' : World} {R : List Rn} {E : List LE} {gw cw : Nat} {vf : Value} (h : LnP w R E gw cw vf w') : E.length = R.length := by
  have := congrArg List.length h.same
  simpa using this
theorem LnP.get {w w' : World} {R : List Rn} {E : List LE} {gw cw : Nat} {vf : Value} (h : LnP w R E gw cw vf w') {k : Nat} (hk : k < R.length) (hk2 : k < E.length) : R.getD k (0, []) = ((E[k]).1, (E[k]).2.1) := by
  have e := congrArg (fun l => l.getD k (0, [])) h.same
  simp [List.getD_eq_getElem?_getD, hk, hk2] at e
  simp [List.getD_eq_getElem?_getD, hk, ← e]
theorem LnP.below {w w1 w2 : World} {R : List Rn} {E : List LE} {gw cw : Nat} {vf : Value} (h : LnP w R E gw cw vf w1) (hb : Below w1.heap.size w1 w2) : LnP w R E gw cw vf w2 :=
  ⟨h.room, h.same, h.rows.below hb, own_below h.full hb, own_below h.wri hb, h.bel.trans (hb.mono h.bel.size)⟩
/-- the runs that were lent are read -/
theorem LnP.runs {w w' : World} {R : List Rn} {E : List LE} {gw cw : Nat} {vf : Value} (h : LnP w R E gw cw vf w') : RunsR w' (some ⟨gw, 0, none⟩) R w'.heap.size := fun hp => by
  refine ⟨gw, 0, rfl, (h.wri.lt gw rfl).2, fun k hk => ?_⟩
  have hk2 : k < E.length := by rw [h.len]; exact hk
  obtain ⟨e0, e1⟩ := wrV_get E k hk2
  have hl := wrV_len E
  have x0 := h.wri.cells (g := gw) rfl (k * 2) _ (by rw [List.getElem?_append_left (by omega)]; exact e0)
  have x1 := h.wri.cells (g := gw) rfl (k * 2 + 1) _ (by rw [List.getElem?_append_left (by omega)]; exact e1)
  rw [add_plain] at x0 x1
  rw [h.get hk hk2]
  have hrow := h.rows (E[k]) (List.getElem_mem hk2)
  refine ⟨x0, _, _, by rw [Nat.add_assoc]; exact x1, ?_, (fun e => by cases e), reads_own hrow (by simp)⟩
  obtain ⟨g, c, e, hc⟩ := own_form hrow (by omega)
  simp only [Value.slice.injEq] at e
  simp only
  omega
theorem LnP.whole {w w' : World} {R : List Rn} {E : List LE} {gw cw : Nat} {af : Option Addr} {cf : Nat} (h : LnP w R E gw cw (.slice af R.length cf) w') {k : Nat} (hk : k < R.length) :
    ∃ gf g c, af = some ⟨gf, 0, none⟩ ∧ gf < w'.heap.size ∧ w'.cell? ⟨gf, k, none⟩ = some (.slice (some ⟨g, 0, none⟩) ((R.getD k (0, [])).2.length + 64) c) ∧ ∀ i, i < (R.getD k (0, [])).2.length + 64 → w'.cell? ⟨g, i, none⟩ = some (.int .u8 (((R.getD k (0, [])).2 ++ marks 0 64).getD i 0)) := by
  have hk2 : k < E.length := by rw [h.len]; exact hk
  obtain ⟨gf, c1, e, _⟩ := own_form h.full (by omega)
  simp only [Value.slice.injEq] at e
  obtain ⟨rfl, _, _⟩ := e
  have x := h.full.cells (g := gf) rfl k _ (by rw [fullV, List.getElem?_map, List.getElem?_eq_getElem hk2]; rfl)
  rw [add_plain, Nat.zero_add] at x
  rw [h.get hk hk2]
  refine ⟨gf, _, _, rfl, (h.full.lt gf rfl).2, x, fun i hi => ?_⟩
  exact own_get (h.rows (E[k]) (List.getElem_mem hk2)) (by simpa [marks_len] using hi)
theorem LnP.mark {w w' : World} {R : List Rn} {E : List LE} {gw cw : Nat} {vf : Value} (h : LnP w R E gw cw vf w') {k : Nat} (hk : k < 64) :
    w'.cell? ⟨gw, (R.length + k) * 2, none⟩ = some (.int .u32 (90 + (k : Int))) ∧ w'.cell? ⟨gw, (R.length + k) * 2 + 1, none⟩ = some (.slice none 0 0) := by
  obtain ⟨e0, e1⟩ := mkW_get 64 k hk
  have hl := wrV_len E
  have hl2 := h.len
  have x0 := h.wri.cells (g := gw) rfl ((R.length + k) * 2) _ (by rw [List.getElem?_append_right (by omega), show (R.length + k) * 2 - (wrV E).length = k * 2 by omega]; exact e0)
  have x1 := h.wri.cells (g := gw) rfl ((R.length + k) * 2 + 1) _ (by rw [List.getElem?_append_right (by omega), show (R.length + k) * 2 + 1 - (wrV E).length = k * 2 + 1 by omega]; exact e1)
  rw [add_plain, Nat.zero_add] at x0 x1
  rw [show ((90 + k : Nat) : Int) = 90 + (k : Int) by omega] at x0
  exact ⟨x0, x1⟩
set_option maxHeartbeats 4000000 in
theorem keptR_any {w0 : World} (ao af : Option Addr) (ca cf gw cw : Nat) (R : List Rn) (E : List LE) (w : World) (hn : R.length ≤ 1048576) (hl : ∀ k, k < R.length → (R.getD k (0, [])).2.length ≤ 1048576) (hr : RunsR w ao R w.heap.size) (hP : LnP w0 R E gw cw (.slice af R.length cf) w) :
    Calls Try.prog 9 #[.slice (some ⟨gw, 0, none⟩) (R.length + 64) cw, .slice af R.length cf, .slice ao R.length ca] w fun e w' => e = .returned (.bool true) ∧ ∃ m, w' = w.drewN m := by
  have HR := rhid hr
  have HP := rhid hP
  have HLn := rhid hl
  have hcw := hP.room
  have HS := rhid (sameR_any (some ⟨gw, 0, none⟩) ao cw ca R w (by omega) (fun k hk => Nat.le_trans (hl k hk) (by decide)) hP.runs hr)
  have hcI : (R.length : Int) ≤ (cw : Int) := by omega
  clear hr hP hl hcw
  go_enter Try.func9, Try.ntmps9
  go_wp2_with (go_at_call 14; with_reducible refine HS.out.mono ?_; rintro e w1 ⟨rfl, m1, hw1⟩; subst w1)
  go_loopw [7] (fun i wr => ∃ k m : Nat, k ≤ R.length ∧ i = .int .i64 k ∧ wr = w.drewN m) (fun i _ => R.length - (intOf i).toNat)
  case atStart => exact ⟨0, m1, Nat.zero_le _, rfl, rfl⟩
  case round =>
    obtain ⟨k, m, hk, rfl, hw2⟩ := hrel
    have HW2 : Hid (wr = w.drewN m) := hw2
    by_cases hlt : k < R.length
    · obtain ⟨b, off, rfl, hbl, hc⟩ := HR.out (by omega)
      obtain ⟨c0, sa, sc, c1, _, _, hr1⟩ := hc k hlt
      obtain ⟨gf, g, c, rfl, hgf, d1, dc⟩ := HP.out.whole hlt
      have hlk := HLn.out k hlt
      have hkI : (k : Int) < (R.length : Int) := by omega
      generalize R.getD k (0, []) = r at *
      have HK : Hid (∀ q, Calls Try.prog 12 #[.slice (some ⟨g, 0, none⟩) (r.2.length + 64) c, .slice sa r.2.length sc] (wr.drewN q) fun e w' => e = .returned (.bool true) ∧ ∃ m, w' = (wr.drewN q).drewN m) := fun q =>
        kept_any sa sc r.2 g c (wr.drewN q) (by omega) (by rw [hw2]; exact hr1) (fun i hi => by rw [hw2]; exact dc i hi)
      have x1 : wr.cell? ⟨b, off + k * 2 + 1, none⟩ = some (.slice sa r.2.length sc) := by rw [hw2]; exact c1
      have y1 : wr.cell? ⟨gf, k, none⟩ = some (.slice (some ⟨g, 0, none⟩) (r.2.length + 64) c) := by rw [hw2]; exact d1
      clear hc c0 c1 d1 dc hr1 hw2
      go_wp2_with fail
      go_quiet ((go_at_call 12; exact Calls.quiet_of (HK.out _)))
      go_wp2_with fail
      go_roundw
      case rel => exact ⟨k + 1, _, by omega, by go_num, by rw [HW2.out, World.drewN_drewN]⟩
      case measure => simp [intOf]; omega
    · have hkI : ¬ (k : Int) < (R.length : Int) := by omega
      go_wp2_with fail
      go_loopw [8] (fun i wi => ∃ q m : Nat, q ≤ 64 ∧ i = .int .i64 q ∧ wi = w.drewN m) (fun i _ => 64 - (intOf i).toNat)
      case atStart => exact ⟨0, m, Nat.zero_le _, rfl, by first | rfl | exact hw2⟩
      case round =>
        clear hw2 HW2
        obtain ⟨q, m2, hq, rfl, hw2⟩ := hrel
        have HW2 : Hid (wr = w.drewN m2) := hw2
        by_cases hlt2 : q < 64
        · obtain ⟨e0, e1⟩ := HP.out.mark hlt2
          have hqI : (q : Int) < 64 := by omega
          obtain ⟨s, hs⟩ : ∃ s, s = R.length + q := ⟨_, rfl⟩
          rw [← hs] at e0 e1
          have x0 : wr.cell? ⟨gw, s * 2, none⟩ = some (.int .u32 (90 + (q : Int))) := by rw [hw2]; exact e0
          have x1 : wr.cell? ⟨gw, s * 2 + 1, none⟩ = some (.slice none 0 0) := by rw [hw2]; exact e1
          have hwr : IntKind.i64.wrap ((R.length : Int) + (q : Int)) = (s : Int) := by rw [IntKind.wrap_i64]; omega
          have hs0 : (0 : Int) ≤ (s : Int) := by omega
          have hs1 : (s : Int) < (R.length : Int) + 64 := by omega
          have hsum : (R.length : Int) + (q : Int) = (s : Int) := by omega
          have hwq : IntKind.u32.wrap (90 + (q : Int)) = 90 + (q : Int) := by rw [IntKind.wrap_u32]; omega
          clear hs e0 e1 hw2
          go_wp2_with fail
          go_roundw
          case rel => exact ⟨q + 1, m2, by omega, by go_num, HW2.out⟩
          case measure => simp [intOf]; omega
        · have hqI : ¬ (q : Int) < 64 := by omega
          clear hw2
          go_wp2_with fail
          go_ret
          exact ⟨rfl, _, HW2.out⟩
end Go.Proofs.Ytfjnpmbkmoodnaa
