import Derived.Test.YtgbpfejodpplbaaGreatDoorCPFa
namespace Go.Proofs.YtgbpfejodpplbaaGreatDoor
open Go.RowKit Go.WideShapes Go.Shelf
set_option maxRecDepth 100000

theorem of1_any (Bi Bl x h cap : Nat) (ao : Option Addr) (Ps : List (Nat × Nat × Nat)) (w : World) (hi : w.cell? ⟨Bi, 0, none⟩ = some (.int .u32 x)) (hl : w.cell? ⟨Bl, 0, none⟩ = some (.slice ao Ps.length cap)) (hr : PRd w ao Ps w.heap.size) (hh : h < Ps.length) :
    Calls Tryz.prog 77 #[.int .i64 h, .pointer (some ⟨Bi, 0, none⟩), .pointer (some ⟨Bl, 0, none⟩)] w fun e w' => e = .returned (.bool (decide (x < (Ps.getD h (0, 0, 0)).2.1))) ∧ Below w.heap.size w w' := by
  obtain ⟨b, off, rfl, hb, hc⟩ := hr (by omega)
  have c1 := (hc h hh).2.1
  generalize (Ps.getD h (0, 0, 0)).2.1 = q at c1 ⊢
  have hI : (h : Int) < (Ps.length : Int) := by omega
  clear hc hr
  go_enter Tryz.func77, Tryz.ntmps77
  go_wp2
  go_quiet (fail)
  go_wp2
  go_ret
  exact ⟨by simp, below_drewN (Below.refl _ _) nq⟩
set_option maxHeartbeats 1000000 in
theorem pof_any {B pp p1 g1 p2 g2 n : Nat} {lv : Value} {L : List (Nat × Nat)} {A C : List Nat} (x : Nat) (w : World) (hL : L.length ≤ 16384) (hE : isEn L 0 = true) (h : PrS w B pp p1 g1 p2 g2 n lv (prs L (bgs L)) A C) :
    Calls Tryz.prog 50 #[.pointer (some ⟨pp, 0, none⟩), .int .u32 x] w fun e w' => e = .returned (.int .i64 (ofL L x)) ∧ Below w.heap.size w w' := by
  obtain ⟨ao, cap, rfl, hr⟩ := h.reads
  have hm : (prs L (bgs L)).length = (bgs L).length := prs_len _ _
  have hml : (bgs L).length ≤ 16384 := Nat.le_trans (els_le _ _) hL
  have HM := hidS (fun W hb => pheld_any pp _ W (h.below hb).c0 (h.below hb).c1)
  have HR : Hid (∀ W, Below w.heap.size w W → PRd W ao (prs L (bgs L)) w.heap.size) := hidS (fun W hb => hr.below hb)
  have HOf : Hid (∀ i : Nat, i ≤ (bgs L).length → (i = (bgs L).length ∨ decide (x < ((prs L (bgs L)).getD i (0, 0, 0)).2.1) = true) → (i = 0 ∨ decide (x < ((prs L (bgs L)).getD (i - 1) (0, 0, 0)).2.1) = false) → (if i = (bgs L).length then (-1 : Int) else (i : Int)) = ofL L x) := hidS (fun i hi h1 h2 => by
    refine of_eq hE hi ?_ ?_
    · rcases h1 with h1 | h1
      · exact .inl h1
      · by_cases he : i = (bgs L).length
        · exact .inl he
        · rw [prs_get L _ i (by omega)] at h1
          exact .inr (of_decide_eq_true h1)
    · rcases h2 with h2 | h2
      · exact .inl h2
      · by_cases he : i = 0
        · exact .inl he
        · rw [prs_get L _ (i - 1) (by omega)] at h2
          exact .inr (Nat.le_of_not_lt (of_decide_eq_false h2)))
  have HS : Hid (∀ (W : World) (Bi Bl : Nat), Below w.heap.size w W → Boxed W Bi 25 (.int .u32 x) → Boxed W Bl 55 (.slice ao (bgs L).length cap) → Calls Tryz.prog 76 #[.int .i64 ((bgs L).length : Nat), .func (.func 77) #[] #[.pointer (some ⟨Bi, 0, none⟩), .pointer (some ⟨Bl, 0, none⟩)]] W fun e w' => (∃ i : Nat, e = .returned (.int .i64 i) ∧ i ≤ (bgs L).length ∧ (i = (bgs L).length ∨ decide (x < ((prs L (bgs L)).getD i (0, 0, 0)).2.1) = true) ∧ (i = 0 ∨ decide (x < ((prs L (bgs L)).getD (i - 1) (0, 0, 0)).2.1) = false)) ∧ Below W.heap.size W w') := hidS (fun W Bi Bl hb b1 b2 =>
    search_any (bgs L).length 77 #[.pointer (some ⟨Bi, 0, none⟩), .pointer (some ⟨Bl, 0, none⟩)] (fun i => decide (x < ((prs L (bgs L)).getD i (0, 0, 0)).2.1)) W (by omega) (enters_of Tryz.func77 (by kernel_rfl) rfl) (fun hh hlt V hV => by
      have := of1_any Bi Bl x hh cap ao (prs L (bgs L)) V (box_thru hV b1).cell (by rw [hm]; exact (box_thru hV b2).cell) ((HR.out V (btP hb hV)).mono (btP hb hV).size) (by omega)
      exact this))
  rw [hm] at HM
  generalize hlen : (bgs L).length = m at HM HS HOf hml
  clear hr h hlen hm HR
  go_enter Tryz.func50, Tryz.ntmps50
  go_wp2_with (first | (go_at_call 56; refine (HM.out _ (belP (Below.refl _ _))).mono ?_; rintro e w2 ⟨rfl, hw2⟩; subst hw2) | (go_at_call 76; refine (HS.out _ _ _ (belP (belP (Below.refl _ _))) ((Boxed.new _ _ _).alloc _) (by have := Boxed.new (w.alloc (.cells #[.int .u32 (x : Int)] 25)) 55 (.slice ao m cap); rw [World.size_alloc] at this; exact this)).mono ?_; rintro e w2 ⟨⟨i, rfl, hi, h1, h2⟩, hw2⟩; have HI := hidS (HOf.out i hi h1 h2); clear h1 h2; have cL := (box_thru hw2 (by have := Boxed.new (w.alloc (.cells #[.int .u32 (x : Int)] 25)) 55 (.slice ao m cap); rw [World.size_alloc] at this; exact this)).cell))
  all_goals go_ret
  all_goals refine ⟨?_, btP (belP (belP (Below.refl _ _))) hw2⟩
  all_goals rw [← HI.out]
  · rename_i hq
    have : i = m := by have := eq_of_beq hq; omega
    rw [if_pos this]
    rfl
  · rename_i hq
    have : ¬ i = m := by have := ne_of_beq_false hq; omega
    rw [if_neg this]
    rfl
end Go.Proofs.YtgbpfejodpplbaaGreatDoor
namespace Go.Proofs.YtgbpfejodpplbaaGreatDoor
open Go.RowKit Go.WideShapes Go.Shelf
set_option maxRecDepth 100000

/-- words that are read -/
def JRd (w : World) (ao : Option Addr) (J : List Nat) (B : Nat) : Prop :=
  0 < J.length → ∃ b off, ao = some ⟨b, off, none⟩ ∧ b < B ∧ ∀ j, j < J.length → w.cell? ⟨b, off + j, none⟩ = some (.int .u32 (J.getD j 0 : Nat))
theorem JRd.below {w w' : World} {ao : Option Addr} {J : List Nat} {B : Nat} (h : JRd w ao J B) (hb : Below B w w') : JRd w' ao J B := by
  intro hl
  obtain ⟨b, off, e, hlt, hc⟩ := h hl
  exact ⟨b, off, e, hlt, fun j hj => (hb.cell (p := ⟨b, off + j, none⟩) hlt).trans (hc j hj)⟩
theorem PrS.putC {w w' : World} {B pp p1 g1 p2 g2 n : Nat} {lv : Value} {Ps : List (Nat × Nat × Nat)} {A C C' : List Nat} (h : PrS w B pp p1 g1 p2 g2 n lv Ps A C) (hs : SetS w' p2 g2 n C') (hk : Kp (fun k => k = p2 ∨ k = g2) w w') : PrS w' B pp p1 g1 p2 g2 n lv Ps A C' := by
  have hn := h.nd
  simp only [List.nodup_cons, List.mem_cons, List.not_mem_nil, or_false, not_or] at hn
  obtain ⟨⟨a1, a2, a3, a4⟩, ⟨b1, b2, b3⟩, ⟨c1, c2⟩, _⟩ := hn
  have hl := h.lt
  simp only [List.mem_cons, List.not_mem_nil, or_false, forall_eq_or_imp, forall_eq] at hl
  refine ⟨(hk.block pp (Array.getElem?_eq_some_iff.1 h.obj).1 (by omega)).trans h.obj, hk.own h.row (fun k e => ?_), h.s1.kept hk (by omega) (by omega), hs, h.nd, h.lt⟩
  have := (h.row.lt k e).1
  omega
/-- may a jump target stand there? -/
def okJ (L : List (Nat × Nat)) (J : List Nat) (i : Nat) : Bool := !(decide (0 < i) && decide (J.getD i 0 ≤ J.getD (i - 1) 0)) && (decide (J.getD i 0 < L.length) && !isEn L (J.getD i 0))
/-- what takeJumps answers -/
def JmR (L : List (Nat × Nat)) (J : List Nat) (i x : Nat) : Prop :=
  (i = 0 ∧ x = 0 ∧ ∀ j, j < J.length → okJ L J j = true) ∨ (x = 134 ∧ i < J.length ∧ okJ L J i = false ∧ ∀ j, j < i → okJ L J j = true)
theorem takeN (J : List Nat) (k : Nat) (h : k < J.length) : J.take (k + 1) = J.take k ++ [J.getD k 0] := by
  rw [List.take_add_one, List.getElem?_eq_getElem h]
  simp [List.getD_eq_getElem?_getD, List.getElem?_eq_getElem h]
set_option maxHeartbeats 2000000 in
theorem takej_any {B pp p1 g1 p2 g2 : Nat} {lv : Value} {L : List (Nat × Nat)} {A : List Nat} (B1 : Nat) (aj : Option Addr) (capj : Nat) (J : List Nat) (w : World) (hL : L.length ≤ 16384) (hE : isEn L 0 = true) (hA : ∀ x, hasW A x = isEn L x) (hn : J.length ≤ 9223372036854775807) (hJ : ∀ z ∈ J, z < 4294967296) (hr : JRd w aj J B1) (hB1 : B1 ≤ w.heap.size) (hlo : ∀ k ∈ [pp, p1, g1, p2, g2], B1 ≤ k)
    (h : PrS w B pp p1 g1 p2 g2 L.length lv (prs L (bgs L)) A (List.replicate ((L.length + 63) / 64) 0)) :
    Calls Tryz.prog 26 #[.pointer (some ⟨pp, 0, none⟩), .slice aj J.length capj] w fun e w' => ∃ i x : Nat, e = .returned (.tuple #[.int .i64 i, .int .i64 x]) ∧ JmR L J i x ∧ Below B1 w w' ∧ ∃ C, PrS w' B pp p1 g1 p2 g2 L.length lv (prs L (bgs L)) A C ∧ (x = 0 → ∀ y, hasW C y = decide (y ∈ J)) := by
  have HLO : Hid (B1 ≤ p2 ∧ B1 ≤ g2) := hidS ⟨hlo p2 (by simp), hlo g2 (by simp)⟩
  have HH := hidS h
  clear h hlo
  go_enter Tryz.func26, Tryz.ntmps26
  go_wp2
  go_loopw [10] (fun u wr => ∃ k : Nat, u = .int .i64 k ∧ k ≤ J.length ∧ (∀ j, j < k → okJ L J j = true) ∧ Below B1 w wr ∧ ∃ C, PrS wr B pp p1 g1 p2 g2 L.length lv (prs L (bgs L)) A C ∧ ∀ y, hasW C y = decide (y ∈ J.take k))
    (fun u _ => J.length - (intOf u).toNat)
  case atStart => exact ⟨0, rfl, Nat.zero_le _, fun j hj => absurd hj (by omega), Below.refl _ _, _, HH.out, fun y => by rw [hasW_zeros]; simp⟩
  case round =>
    clear HH
    obtain ⟨k, rfl, hk, hok, hbw, C, hP, hC⟩ := hrel
    have HOk := hidS hok
    have HC := hidS hC
    have HP := hidS hP
    have HBW := hidS hbw
    clear hok hC
    by_cases hlt : k < J.length
    · have hltI : (k : Int) < (J.length : Int) := by omega
      obtain ⟨b, off, rfl, hb, hc⟩ := hr (by omega)
      have v0 := (hbw.cell (p := ⟨b, off + k, none⟩) hb).trans (hc k hlt)
      have hz : J.getD k 0 < 4294967296 := hJ _ (getD_memP hlt)
      have HOF := pof_any (J.getD k 0) wr hL hE hP
      have HBG : Hid (∀ W, Below wr.heap.size wr W → Calls Tryz.prog 51 #[.pointer (some ⟨pp, 0, none⟩), .int .u32 (J.getD k 0 : Nat)] W fun e w' => e = .returned (.bool (isEn L (J.getD k 0))) ∧ w' = W) := hidS (fun W hW => by rw [← hA]; exact pbegins_any _ W hz (hP.below hW))
      have HAD : Hid (∀ W, Below wr.heap.size wr W → Calls Tryz.prog 47 #[.pointer (some ⟨p2, 0, none⟩), .int .u32 (J.getD k 0 : Nat)] W fun e w' => (∃ v, e = .returned v) ∧ PrS w' B pp p1 g1 p2 g2 L.length lv (prs L (bgs L)) A (putW L.length C (J.getD k 0)) ∧ Kp (fun i => i = p2 ∨ i = g2) W w') := hidS (fun W hW => by
        refine (add_any p2 g2 L.length (J.getD k 0) C W hz (hP.below hW).s2).mono ?_
        rintro e w' ⟨rfl, h2, h3, _⟩
        exact ⟨⟨_, rfl⟩, (hP.below hW).putC h2 h3, h3⟩)
      have HC3 : Hid (∀ W, Below wr.heap.size wr W → W.cell? ⟨pp, 3, none⟩ = some (.pointer (some ⟨p2, 0, none⟩))) := hidS (fun W hW => (hP.below hW).c3)
      have HON : Hid (ofL L (J.getD k 0) < 0 ↔ ¬ J.getD k 0 < L.length) := hidS (ofL_neg hE _)
      have HPC : Hid (J.getD k 0 < L.length → ∀ y, hasW (putW L.length C (J.getD k 0)) y = decide (y ∈ J.take (k + 1))) := hidS (fun hx y => by
        rw [has_putP hP.s2.len hx, HC.out, takeN J k hlt]
        by_cases h1 : y ∈ J.take k
        · simp [h1]
        · simp [h1])
      have hsp := hP.c0
      clear hP
      have HBP : Hid (∀ W V, Below wr.heap.size wr W → Kp (fun i => i = p2 ∨ i = g2) W V → Below B1 w V) := hidS (fun W V h1 h2 => by
        have h3 := HBW.out.trans (h1.mono (Nat.le_trans hB1 HBW.out.size))
        exact h3.trans (h2.below (Nat.le_trans hB1 h3.size) (fun i hi => by have := HLO.out; omega)))
      have HOKK : Hid (okJ L J k = (!(decide (0 < k) && decide (J.getD k 0 ≤ J.getD (k - 1) 0)) && (decide (J.getD k 0 < L.length) && !isEn L (J.getD k 0)))) := hidS rfl
      generalize J.getD k 0 = z at v0 hz HOF HBG HAD HON HPC HOKK
      generalize ofL L z = ofz at HOF HON
      by_cases hk0 : k = 0
      · subst hk0
        clear hc
        rw [show ((0 : Nat) : Int) = 0 from rfl] at hltI
        simp only [Nat.add_zero] at v0
        rw [show (Value.int .i64 ((0 : Nat) : Int)) = Value.int .i64 0 from rfl]
        by_cases hx : z < L.length
        · have hof : ¬ ofz < 0 := fun q => HON.out.1 q hx
          cases hen : isEn L z with
          | true =>
            rw [hen] at HBG
            go_wp2_with (first
              | (go_at_call 50; refine HOF.mono ?_; rintro e w2 ⟨rfl, hb2⟩; have HC4 := HC3.out w2 hb2)
              | (go_at_call 51; refine (HBG.out _ hb2).mono ?_; rintro e w3 ⟨rfl, hw3⟩; subst hw3)
              | (go_at_call 47; refine (HAD.out _ hb2).mono ?_; rintro e w4 ⟨⟨v, rfl⟩, hP4, hk4⟩))
            refine bodyPost_ret (results_tmp2 rfl _ _ _) rfl ?_
            exact ⟨0, 134, rfl, .inr ⟨rfl, hlt, by rw [HOKK.out, hen]; simp, HOk.out⟩, HBW.out.trans (hb2.mono (Nat.le_trans hB1 HBW.out.size)), C, HP.out.below hb2, fun q => absurd q (by decide)⟩
          | false =>
            rw [hen] at HBG
            go_wp2_with (first
              | (go_at_call 50; refine HOF.mono ?_; rintro e w2 ⟨rfl, hb2⟩; have HC4 := HC3.out w2 hb2)
              | (go_at_call 51; refine (HBG.out _ hb2).mono ?_; rintro e w3 ⟨rfl, hw3⟩; subst hw3)
              | (go_at_call 47; refine (HAD.out _ hb2).mono ?_; rintro e w4 ⟨⟨v, rfl⟩, hP4, hk4⟩))
            go_roundw
            case rel => exact ⟨0 + 1, by go_num, by omega, fun j hj => by
              by_cases hj2 : j < 0
              · exact HOk.out j hj2
              · rw [show j = 0 by omega, HOKK.out, hen]; simp [hx], HBP.out _ _ hb2 hk4, _, hP4, HPC.out hx⟩
            case measure => simp [intOf]; omega
        · have hof : ofz < 0 := HON.out.2 hx
          go_wp2_with (first
            | (go_at_call 50; refine HOF.mono ?_; rintro e w2 ⟨rfl, hb2⟩; have HC4 := HC3.out w2 hb2)
            | (go_at_call 51; refine (HBG.out _ hb2).mono ?_; rintro e w3 ⟨rfl, hw3⟩; subst hw3)
            | (go_at_call 47; refine (HAD.out _ hb2).mono ?_; rintro e w4 ⟨⟨v, rfl⟩, hP4, hk4⟩))
          refine bodyPost_ret (results_tmp2 rfl _ _ _) rfl ?_
          exact ⟨0, 134, rfl, .inr ⟨rfl, hlt, by rw [HOKK.out]; simp [hx], HOk.out⟩, HBW.out.trans (hb2.mono (Nat.le_trans hB1 HBW.out.size)), C, HP.out.below hb2, fun q => absurd q (by decide)⟩
      · obtain ⟨m, rfl⟩ : ∃ m, k = m + 1 := ⟨k - 1, by omega⟩
        have v1 := (hbw.cell (p := ⟨b, off + m, none⟩) hb).trans (hc m (by omega))
        have hsub : ((m + 1 : Nat) : Int) - 1 = (m : Int) := by omega
        have hmJ : (m : Int) < (J.length : Int) := by omega
        have hgt : (0 : Int) < ((m + 1 : Nat) : Int) := by omega
        rw [show m + 1 - 1 = m by omega] at HOKK
        generalize J.getD m 0 = y at v1 HOKK
        clear hc hk0
        by_cases hle : z ≤ y
        · have hleI : (z : Int) ≤ (y : Int) := by omega
          go_wp2_with (first
            | (go_at_call 50; refine HOF.mono ?_; rintro e w2 ⟨rfl, hb2⟩; have HC4 := HC3.out w2 hb2)
            | (go_at_call 51; refine (HBG.out _ hb2).mono ?_; rintro e w3 ⟨rfl, hw3⟩; subst hw3)
            | (go_at_call 47; refine (HAD.out _ hb2).mono ?_; rintro e w4 ⟨⟨v, rfl⟩, hP4, hk4⟩))
          refine bodyPost_ret (results_tmp2 rfl _ _ _) rfl ?_
          exact ⟨m + 1, 134, rfl, .inr ⟨rfl, hlt, by rw [HOKK.out]; simp [hle], HOk.out⟩, HBW.out, C, HP.out, fun q => absurd q (by decide)⟩
        · have hleI : ¬ (z : Int) ≤ (y : Int) := by omega
          by_cases hx : z < L.length
          · have hof : ¬ ofz < 0 := fun q => HON.out.1 q hx
            cases hen : isEn L z with
            | true =>
              rw [hen] at HBG
              go_wp2_with (first
                | (go_at_call 50; refine HOF.mono ?_; rintro e w2 ⟨rfl, hb2⟩; have HC4 := HC3.out w2 hb2)
                | (go_at_call 51; refine (HBG.out _ hb2).mono ?_; rintro e w3 ⟨rfl, hw3⟩; subst hw3)
                | (go_at_call 47; refine (HAD.out _ hb2).mono ?_; rintro e w4 ⟨⟨v, rfl⟩, hP4, hk4⟩))
              refine bodyPost_ret (results_tmp2 rfl _ _ _) rfl ?_
              exact ⟨m + 1, 134, rfl, .inr ⟨rfl, hlt, by rw [HOKK.out, hen]; simp, HOk.out⟩, HBW.out.trans (hb2.mono (Nat.le_trans hB1 HBW.out.size)), C, HP.out.below hb2, fun q => absurd q (by decide)⟩
            | false =>
              rw [hen] at HBG
              go_wp2_with (first
                | (go_at_call 50; refine HOF.mono ?_; rintro e w2 ⟨rfl, hb2⟩; have HC4 := HC3.out w2 hb2)
                | (go_at_call 51; refine (HBG.out _ hb2).mono ?_; rintro e w3 ⟨rfl, hw3⟩; subst hw3)
                | (go_at_call 47; refine (HAD.out _ hb2).mono ?_; rintro e w4 ⟨⟨v, rfl⟩, hP4, hk4⟩))
              go_roundw
              case rel => exact ⟨(m + 1) + 1, by go_num, by omega, fun j hj => by
                by_cases hj2 : j < (m + 1)
                · exact HOk.out j hj2
                · rw [show j = (m + 1) by omega, HOKK.out, hen]; simp [hx, hle], HBP.out _ _ hb2 hk4, _, hP4, HPC.out hx⟩
              case measure => simp [intOf]; omega
          · have hof : ofz < 0 := HON.out.2 hx
            go_wp2_with (first
              | (go_at_call 50; refine HOF.mono ?_; rintro e w2 ⟨rfl, hb2⟩; have HC4 := HC3.out w2 hb2)
              | (go_at_call 51; refine (HBG.out _ hb2).mono ?_; rintro e w3 ⟨rfl, hw3⟩; subst hw3)
              | (go_at_call 47; refine (HAD.out _ hb2).mono ?_; rintro e w4 ⟨⟨v, rfl⟩, hP4, hk4⟩))
            refine bodyPost_ret (results_tmp2 rfl _ _ _) rfl ?_
            exact ⟨m + 1, 134, rfl, .inr ⟨rfl, hlt, by rw [HOKK.out]; simp [hx], HOk.out⟩, HBW.out.trans (hb2.mono (Nat.le_trans hB1 HBW.out.size)), C, HP.out.below hb2, fun q => absurd q (by decide)⟩
    · have hke : k = J.length := by omega
      subst hke
      have hltI : ¬ (J.length : Int) < (J.length : Int) := by omega
      go_wp2
      refine bodyPost_ret (results_tmp2 rfl _ _ _) rfl ?_
      exact ⟨0, 0, rfl, .inl ⟨rfl, rfl, HOk.out⟩, hbw, C, HP.out, fun _ y => by rw [HC.out, List.take_length]⟩
end Go.Proofs.YtgbpfejodpplbaaGreatDoor
