import Derived.Test.YtnalnlbainghoaaGreatDoorCPFa
namespace Go.Proofs.YtnalnlbainghoaaGreatDoor
open Go.RowKit Go.WideShapes Go.Shelf
set_option maxRecDepth 100000

/-- words that are read -/
def JRd (w : World) (ao : Option Addr) (J : List Nat) (B : Nat) : Prop :=
  0 < J.length → ∃ b off, ao = some ⟨b, off, none⟩ ∧ b < B ∧ ∀ j, j < J.length → w.cell? ⟨b, off + j, none⟩ = some (.int .u32 (J.getD j 0 : Nat))
theorem JRd.below {w w' : World} {ao : Option Addr} {J : List Nat} {B : Nat} (h : JRd w ao J B) (hb : Below B w w') : JRd w' ao J B := by
  intro hl
  obtain ⟨b, off, e, hlt, hc⟩ := h hl
  exact ⟨b, off, e, hlt, fun j hj => (hb.cell (p := ⟨b, off + j, none⟩) hlt).trans (hc j hj)⟩
theorem PrS.putC {w w' : World} {B pp p1 g1 p2 g2 n : Nat} {lv : Value} {Ps : List (Nat × Nat × Nat)} {A C C' : List Nat} (h : PrS w B pp p1 g1 p2 g2 n lv Ps A C) (hs : SetS w' p2 g2 n C') (hk : Kp (fun k => k = p2 ∨ k = g2) w w') : PrS w' B pp p1 g1 p2 g2 n lv Ps A C' := by
  have hn := h.nd
  simp only [List.nodup_cons, List.mem_cons, List.not_mem_nil, or_false, not_or] at hn
  obtain ⟨⟨a1, a2, a3, a4⟩, ⟨b1, b2, b3⟩, ⟨c1, c2⟩, _⟩ := hn
  have hl := h.lt
  simp only [List.mem_cons, List.not_mem_nil, or_false, forall_eq_or_imp, forall_eq] at hl
  refine ⟨(hk.block pp (Array.getElem?_eq_some_iff.1 h.obj).1 (by omega)).trans h.obj, hk.own h.row (fun k e => ?_), h.s1.kept hk (by omega) (by omega), hs, h.nd, h.lt⟩
  have := (h.row.lt k e).1
  omega
/-- may a jump target stand there? -/
def okJ (L : List (Nat × Nat)) (J : List Nat) (i : Nat) : Bool := !(decide (0 < i) && decide (J.getD i 0 ≤ J.getD (i - 1) 0)) && (decide (J.getD i 0 < L.length) && !isEn L (J.getD i 0))
/-- what takeJumps answers -/
def JmR (L : List (Nat × Nat)) (J : List Nat) (i x : Nat) : Prop :=
  (i = 0 ∧ x = 0 ∧ ∀ j, j < J.length → okJ L J j = true) ∨ (x = 134 ∧ i < J.length ∧ okJ L J i = false ∧ ∀ j, j < i → okJ L J j = true)
theorem takeN (J : List Nat) (k : Nat) (h : k < J.length) : J.take (k + 1) = J.take k ++ [J.getD k 0] := by
  rw [List.take_add_one, List.getElem?_eq_getElem h]
  simp [List.getD_eq_getElem?_getD, List.getElem?_eq_getElem h]
set_option maxHeartbeats 2000000 in
theorem takej_any {B pp p1 g1 p2 g2 : Nat} {lv : Value} {L : List (Nat × Nat)} {A : List Nat} (B1 : Nat) (aj : Option Addr) (capj : Nat) (J : List Nat) (w : World) (hL : L.length ≤ 16384) (hE : isEn L 0 = true) (hA : ∀ x, hasW A x = isEn L x) (hn : J.length ≤ 9223372036854775807) (hJ : ∀ z ∈ J, z < 4294967296) (hr : JRd w aj J B1) (hB1 : B1 ≤ w.heap.size) (hlo : ∀ k ∈ [pp, p1, g1, p2, g2], B1 ≤ k)
    (h : PrS w B pp p1 g1 p2 g2 L.length lv (prs L (bgs L)) A (List.replicate ((L.length + 63) / 64) 0)) :
    Calls Tryz.prog 40 #[.pointer (some ⟨pp, 0, none⟩), .slice aj J.length capj] w fun e w' => ∃ i x : Nat, e = .returned (.tuple #[.int .i64 i, .int .i64 x]) ∧ JmR L J i x ∧ Below B1 w w' ∧ ∃ C, PrS w' B pp p1 g1 p2 g2 L.length lv (prs L (bgs L)) A C ∧ (x = 0 → ∀ y, hasW C y = decide (y ∈ J)) := by
  have HLO : Hid (B1 ≤ p2 ∧ B1 ≤ g2) := hidS ⟨hlo p2 (by simp), hlo g2 (by simp)⟩
  have HH := hidS h
  clear h hlo
  go_enter Tryz.func40, Tryz.ntmps40
  go_wp2
  go_loopw [10] (fun u wr => ∃ k : Nat, u = .int .i64 k ∧ k ≤ J.length ∧ (∀ j, j < k → okJ L J j = true) ∧ Below B1 w wr ∧ ∃ C, PrS wr B pp p1 g1 p2 g2 L.length lv (prs L (bgs L)) A C ∧ ∀ y, hasW C y = decide (y ∈ J.take k))
    (fun u _ => J.length - (intOf u).toNat)
  case atStart => exact ⟨0, rfl, Nat.zero_le _, fun j hj => absurd hj (by omega), Below.refl _ _, _, HH.out, fun y => by rw [hasW_zeros]; simp⟩
  case round =>
    clear HH
    obtain ⟨k, rfl, hk, hok, hbw, C, hP, hC⟩ := hrel
    have HOk := hidS hok
    have HC := hidS hC
    have HP := hidS hP
    have HBW := hidS hbw
    clear hok hC
    by_cases hlt : k < J.length
    · have hltI : (k : Int) < (J.length : Int) := by omega
      obtain ⟨b, off, rfl, hb, hc⟩ := hr (by omega)
      have v0 := (hbw.cell (p := ⟨b, off + k, none⟩) hb).trans (hc k hlt)
      have hz : J.getD k 0 < 4294967296 := hJ _ (getD_memP hlt)
      have HOF := pof_any (J.getD k 0) wr hL hE hP
      have HBG : Hid (∀ W, Below wr.heap.size wr W → Calls Tryz.prog 52 #[.pointer (some ⟨pp, 0, none⟩), .int .u32 (J.getD k 0 : Nat)] W fun e w' => e = .returned (.bool (isEn L (J.getD k 0))) ∧ w' = W) := hidS (fun W hW => by rw [← hA]; exact pbegins_any _ W hz (hP.below hW))
      have HAD : Hid (∀ W, Below wr.heap.size wr W → Calls Tryz.prog 67 #[.pointer (some ⟨p2, 0, none⟩), .int .u32 (J.getD k 0 : Nat)] W fun e w' => (∃ v, e = .returned v) ∧ PrS w' B pp p1 g1 p2 g2 L.length lv (prs L (bgs L)) A (putW L.length C (J.getD k 0)) ∧ Kp (fun i => i = p2 ∨ i = g2) W w') := hidS (fun W hW => by
        refine (add_any p2 g2 L.length (J.getD k 0) C W hz (hP.below hW).s2).mono ?_
        rintro e w' ⟨rfl, h2, h3, _⟩
        exact ⟨⟨_, rfl⟩, (hP.below hW).putC h2 h3, h3⟩)
      have HC3 : Hid (∀ W, Below wr.heap.size wr W → W.cell? ⟨pp, 3, none⟩ = some (.pointer (some ⟨p2, 0, none⟩))) := hidS (fun W hW => (hP.below hW).c3)
      have HON : Hid (ofL L (J.getD k 0) < 0 ↔ ¬ J.getD k 0 < L.length) := hidS (ofL_neg hE _)
      have HPC : Hid (J.getD k 0 < L.length → ∀ y, hasW (putW L.length C (J.getD k 0)) y = decide (y ∈ J.take (k + 1))) := hidS (fun hx y => by
        rw [has_putP hP.s2.len hx, HC.out, takeN J k hlt]
        by_cases h1 : y ∈ J.take k
        · simp [h1]
        · simp [h1])
      have hsp := hP.c0
      clear hP
      have HBP : Hid (∀ W V, Below wr.heap.size wr W → Kp (fun i => i = p2 ∨ i = g2) W V → Below B1 w V) := hidS (fun W V h1 h2 => by
        have h3 := HBW.out.trans (h1.mono (Nat.le_trans hB1 HBW.out.size))
        exact h3.trans (h2.below (Nat.le_trans hB1 h3.size) (fun i hi => by have := HLO.out; omega)))
      have HOKK : Hid (okJ L J k = (!(decide (0 < k) && decide (J.getD k 0 ≤ J.getD (k - 1) 0)) && (decide (J.getD k 0 < L.length) && !isEn L (J.getD k 0)))) := hidS rfl
      generalize J.getD k 0 = z at v0 hz HOF HBG HAD HON HPC HOKK
      generalize ofL L z = ofz at HOF HON
      by_cases hk0 : k = 0
      · subst hk0
        clear hc
        rw [show ((0 : Nat) : Int) = 0 from rfl] at hltI
        simp only [Nat.add_zero] at v0
        rw [show (Value.int .i64 ((0 : Nat) : Int)) = Value.int .i64 0 from rfl]
        by_cases hx : z < L.length
        · have hof : ¬ ofz < 0 := fun q => HON.out.1 q hx
          cases hen : isEn L z with
          | true =>
            rw [hen] at HBG
            go_wp2_with (first
              | (go_at_call 70; refine HOF.mono ?_; rintro e w2 ⟨rfl, hb2⟩; have HC4 := HC3.out w2 hb2)
              | (go_at_call 52; refine (HBG.out _ hb2).mono ?_; rintro e w3 ⟨rfl, hw3⟩; subst hw3)
              | (go_at_call 67; refine (HAD.out _ hb2).mono ?_; rintro e w4 ⟨⟨v, rfl⟩, hP4, hk4⟩))
            refine bodyPost_ret (results_tmp2 rfl _ _ _) rfl ?_
            exact ⟨0, 134, rfl, .inr ⟨rfl, hlt, by rw [HOKK.out, hen]; simp, HOk.out⟩, HBW.out.trans (hb2.mono (Nat.le_trans hB1 HBW.out.size)), C, HP.out.below hb2, fun q => absurd q (by decide)⟩
          | false =>
            rw [hen] at HBG
            go_wp2_with (first
              | (go_at_call 70; refine HOF.mono ?_; rintro e w2 ⟨rfl, hb2⟩; have HC4 := HC3.out w2 hb2)
              | (go_at_call 52; refine (HBG.out _ hb2).mono ?_; rintro e w3 ⟨rfl, hw3⟩; subst hw3)
              | (go_at_call 67; refine (HAD.out _ hb2).mono ?_; rintro e w4 ⟨⟨v, rfl⟩, hP4, hk4⟩))
            go_roundw
            case rel => exact ⟨0 + 1, by go_num, by omega, fun j hj => by
              by_cases hj2 : j < 0
              · exact HOk.out j hj2
              · rw [show j = 0 by omega, HOKK.out, hen]; simp [hx], HBP.out _ _ hb2 hk4, _, hP4, HPC.out hx⟩
            case measure => simp [intOf]; omega
        · have hof : ofz < 0 := HON.out.2 hx
          go_wp2_with (first
            | (go_at_call 70; refine HOF.mono ?_; rintro e w2 ⟨rfl, hb2⟩; have HC4 := HC3.out w2 hb2)
            | (go_at_call 52; refine (HBG.out _ hb2).mono ?_; rintro e w3 ⟨rfl, hw3⟩; subst hw3)
            | (go_at_call 67; refine (HAD.out _ hb2).mono ?_; rintro e w4 ⟨⟨v, rfl⟩, hP4, hk4⟩))
          refine bodyPost_ret (results_tmp2 rfl _ _ _) rfl ?_
          exact ⟨0, 134, rfl, .inr ⟨rfl, hlt, by rw [HOKK.out]; simp [hx], HOk.out⟩, HBW.out.trans (hb2.mono (Nat.le_trans hB1 HBW.out.size)), C, HP.out.below hb2, fun q => absurd q (by decide)⟩
      · obtain ⟨m, rfl⟩ : ∃ m, k = m + 1 := ⟨k - 1, by omega⟩
        have v1 := (hbw.cell (p := ⟨b, off + m, none⟩) hb).trans (hc m (by omega))
        have hsub : ((m + 1 : Nat) : Int) - 1 = (m : Int) := by omega
        have hmJ : (m : Int) < (J.length : Int) := by omega
        have hgt : (0 : Int) < ((m + 1 : Nat) : Int) := by omega
        rw [show m + 1 - 1 = m by omega] at HOKK
        generalize J.getD m 0 = y at v1 HOKK
        clear hc hk0
        by_cases hle : z ≤ y
        · have hleI : (z : Int) ≤ (y : Int) := by omega
          go_wp2_with (first
            | (go_at_call 70; refine HOF.mono ?_; rintro e w2 ⟨rfl, hb2⟩; have HC4 := HC3.out w2 hb2)
            | (go_at_call 52; refine (HBG.out _ hb2).mono ?_; rintro e w3 ⟨rfl, hw3⟩; subst hw3)
            | (go_at_call 67; refine (HAD.out _ hb2).mono ?_; rintro e w4 ⟨⟨v, rfl⟩, hP4, hk4⟩))
          refine bodyPost_ret (results_tmp2 rfl _ _ _) rfl ?_
          exact ⟨m + 1, 134, rfl, .inr ⟨rfl, hlt, by rw [HOKK.out]; simp [hle], HOk.out⟩, HBW.out, C, HP.out, fun q => absurd q (by decide)⟩
        · have hleI : ¬ (z : Int) ≤ (y : Int) := by omega
          by_cases hx : z < L.length
          · have hof : ¬ ofz < 0 := fun q => HON.out.1 q hx
            cases hen : isEn L z with
            | true =>
              rw [hen] at HBG
              go_wp2_with (first
                | (go_at_call 70; refine HOF.mono ?_; rintro e w2 ⟨rfl, hb2⟩; have HC4 := HC3.out w2 hb2)
                | (go_at_call 52; refine (HBG.out _ hb2).mono ?_; rintro e w3 ⟨rfl, hw3⟩; subst hw3)
                | (go_at_call 67; refine (HAD.out _ hb2).mono ?_; rintro e w4 ⟨⟨v, rfl⟩, hP4, hk4⟩))
              refine bodyPost_ret (results_tmp2 rfl _ _ _) rfl ?_
              exact ⟨m + 1, 134, rfl, .inr ⟨rfl, hlt, by rw [HOKK.out, hen]; simp, HOk.out⟩, HBW.out.trans (hb2.mono (Nat.le_trans hB1 HBW.out.size)), C, HP.out.below hb2, fun q => absurd q (by decide)⟩
            | false =>
              rw [hen] at HBG
              go_wp2_with (first
                | (go_at_call 70; refine HOF.mono ?_; rintro e w2 ⟨rfl, hb2⟩; have HC4 := HC3.out w2 hb2)
                | (go_at_call 52; refine (HBG.out _ hb2).mono ?_; rintro e w3 ⟨rfl, hw3⟩; subst hw3)
                | (go_at_call 67; refine (HAD.out _ hb2).mono ?_; rintro e w4 ⟨⟨v, rfl⟩, hP4, hk4⟩))
              go_roundw
              case rel => exact ⟨(m + 1) + 1, by go_num, by omega, fun j hj => by
                by_cases hj2 : j < (m + 1)
                · exact HOk.out j hj2
                · rw [show j = (m + 1) by omega, HOKK.out, hen]; simp [hx, hle], HBP.out _ _ hb2 hk4, _, hP4, HPC.out hx⟩
              case measure => simp [intOf]; omega
          · have hof : ofz < 0 := HON.out.2 hx
            go_wp2_with (first
              | (go_at_call 70; refine HOF.mono ?_; rintro e w2 ⟨rfl, hb2⟩; have HC4 := HC3.out w2 hb2)
              | (go_at_call 52; refine (HBG.out _ hb2).mono ?_; rintro e w3 ⟨rfl, hw3⟩; subst hw3)
              | (go_at_call 67; refine (HAD.out _ hb2).mono ?_; rintro e w4 ⟨⟨v, rfl⟩, hP4, hk4⟩))
            refine bodyPost_ret (results_tmp2 rfl _ _ _) rfl ?_
            exact ⟨m + 1, 134, rfl, .inr ⟨rfl, hlt, by rw [HOKK.out]; simp [hx], HOk.out⟩, HBW.out.trans (hb2.mono (Nat.le_trans hB1 HBW.out.size)), C, HP.out.below hb2, fun q => absurd q (by decide)⟩
    · have hke : k = J.length := by omega
      subst hke
      have hltI : ¬ (J.length : Int) < (J.length : Int) := by omega
      go_wp2
      refine bodyPost_ret (results_tmp2 rfl _ _ _) rfl ?_
      exact ⟨0, 0, rfl, .inl ⟨rfl, rfl, HOk.out⟩, hbw, C, HP.out, fun _ y => by rw [HC.out, List.take_length]⟩
end Go.Proofs.YtnalnlbainghoaaGreatDoor
namespace Go.Proofs.YtnalnlbainghoaaGreatDoor
open Go.RowKit Go.WideShapes Go.Shelf
set_option maxRecDepth 100000

/-- names that are read -/
def NRd (w : World) (ao : Option Addr) (M : List (ByteArray × Nat)) (B : Nat) : Prop :=
  0 < M.length → ∃ b off, ao = some ⟨b, off, none⟩ ∧ b < B ∧ ∀ j, j < M.length → w.cell? ⟨b, off + j * 2, none⟩ = some (.string (M.getD j (.empty, 0)).1) ∧ w.cell? ⟨b, off + j * 2 + 1, none⟩ = some (.int .u32 ((M.getD j (.empty, 0)).2 : Nat))
theorem NRd.below {w w' : World} {ao : Option Addr} {M : List (ByteArray × Nat)} {B : Nat} (h : NRd w ao M B) (hb : Below B w w') : NRd w' ao M B := by
  intro hl
  obtain ⟨b, off, e, hlt, hc⟩ := h hl
  exact ⟨b, off, e, hlt, fun j hj => ⟨(hb.cell (p := ⟨b, off + j * 2, none⟩) hlt).trans (hc j hj).1, (hb.cell (p := ⟨b, off + j * 2 + 1, none⟩) hlt).trans (hc j hj).2⟩⟩
/-- does a name stand for a procedure? -/
def okN (L : List (Nat × Nat)) (M : List (ByteArray × Nat)) (i : Nat) : Bool := isEn L (M.getD i (.empty, 0)).2
/-- what checkNames answers -/
def NmR (L : List (Nat × Nat)) (M : List (ByteArray × Nat)) (i x : Nat) : Prop :=
  (i = 0 ∧ x = 0 ∧ ∀ j, j < M.length → okN L M j = true) ∨ (x = 135 ∧ i < M.length ∧ okN L M i = false ∧ ∀ j, j < i → okN L M j = true)
set_option maxHeartbeats 2000000 in
theorem checkn_any {B pp p1 g1 p2 g2 n : Nat} {lv : Value} {Ps : List (Nat × Nat × Nat)} {L : List (Nat × Nat)} {A C : List Nat} (an : Option Addr) (capn : Nat) (M : List (ByteArray × Nat)) (w : World) (hA : ∀ x, hasW A x = isEn L x) (hn : M.length ≤ 9223372036854775807) (hM : ∀ j, j < M.length → (M.getD j (.empty, 0)).2 < 4294967296) (hr : NRd w an M w.heap.size)
    (h : PrS w B pp p1 g1 p2 g2 n lv Ps A C) :
    Calls Tryz.prog 41 #[.pointer (some ⟨pp, 0, none⟩), .slice an M.length capn] w fun e w' => ∃ i x : Nat, e = .returned (.tuple #[.int .i64 i, .int .i64 x]) ∧ NmR L M i x ∧ Below w.heap.size w w' := by
  have HB : Hid (∀ (z : Nat) W, z < 4294967296 → Below w.heap.size w W → Calls Tryz.prog 52 #[.pointer (some ⟨pp, 0, none⟩), .int .u32 z] W fun e w' => e = .returned (.bool (isEn L z)) ∧ w' = W) := hidS (fun z W hz hW => by rw [← hA]; exact pbegins_any _ W hz (h.below hW))
  clear h
  go_enter Tryz.func41, Tryz.ntmps41
  go_wp2
  go_loopw [10] (fun u wr => ∃ k : Nat, u = .int .i64 k ∧ k ≤ M.length ∧ (∀ j, j < k → okN L M j = true) ∧ Below w.heap.size w wr)
    (fun u _ => M.length - (intOf u).toNat)
  case atStart => exact ⟨0, rfl, Nat.zero_le _, fun j hj => absurd hj (by omega), Below.refl _ _⟩
  case round =>
    obtain ⟨k, rfl, hk, hok, hbw⟩ := hrel
    have HOk := hidS hok
    have HBW := hidS hbw
    clear hok
    by_cases hlt : k < M.length
    · have hltI : (k : Int) < (M.length : Int) := by omega
      obtain ⟨b, off, rfl, hb, hc⟩ := hr (by omega)
      have v0 := (hbw.cell (p := ⟨b, off + k * 2, none⟩) hb).trans (hc k hlt).1
      have v1 := (hbw.cell (p := ⟨b, off + k * 2 + 1, none⟩) hb).trans (hc k hlt).2
      have hz := hM k hlt
      have HOKK : Hid (okN L M k = isEn L (M.getD k (.empty, 0)).2) := hidS rfl
      generalize (M.getD k (.empty, 0)).2 = z at v1 hz HOKK
      generalize (M.getD k (.empty, 0)).1 = s at v0
      have hBg := HB.out z (wr.alloc (Obj.cells #[.string s, .int .u32 (z : Int)] 48)) hz (belP hbw)
      clear hc
      cases hen : isEn L z with
      | true =>
        rw [hen] at hBg
        go_wp2_with (go_at_call 52; refine hBg.mono ?_; rintro e w3 ⟨rfl, hw3⟩; have hw3 := hw3.symm; subst hw3)
        go_roundw
        case rel => exact ⟨k + 1, by go_num, by omega, fun j hj => by
          by_cases hj2 : j < k
          · exact HOk.out j hj2
          · rw [show j = k by omega, HOKK.out, hen], belP HBW.out⟩
        case measure => simp [intOf]; omega
      | false =>
        rw [hen] at hBg
        go_wp2_with (go_at_call 52; refine hBg.mono ?_; rintro e w3 ⟨rfl, hw3⟩; have hw3 := hw3.symm; subst hw3)
        refine bodyPost_ret (results_tmp2 rfl _ _ _) rfl ?_
        exact ⟨k, 135, rfl, .inr ⟨rfl, hlt, by rw [HOKK.out, hen], HOk.out⟩, belP HBW.out⟩
    · have hke : k = M.length := by omega
      subst hke
      have hltI : ¬ (M.length : Int) < (M.length : Int) := by omega
      go_wp2
      refine bodyPost_ret (results_tmp2 rfl _ _ _) rfl ?_
      exact ⟨0, 0, rfl, .inl ⟨rfl, rfl, HOk.out⟩, hbw⟩
end Go.Proofs.YtnalnlbainghoaaGreatDoor
