import Derived.Test.YtgbpfejodpplbaaGreatDoorCPPr
import Derived.Deep.RegionHeld3
import Derived.Test.YtgbpfejodpplbaaGreatDoorCPOf
namespace Go.Proofs.YtgbpfejodpplbaaGreatDoor
open Go.RowKit Go.WideShapes Go.Shelf
set_option maxRecDepth 100000

theorem field5 (a b c d e : Value) (f : Int) (w : World) : (Instr.field 101 (.agg #[a, b, c, d, e, .int .u8 f]) 5).run Tryz.prog w = .ok (.int .u8 f) w := by kernel_rfl
attribute [local go_sem] field5
/-- words that are read, and where they lie -/
def JRy (w0 w : World) (a : Option Addr) (l : List Nat) (w' : World) : Prop := 0 < l.length → ∃ b off, a = some ⟨b, off, none⟩ ∧ b < w'.heap.size ∧ (b < w0.heap.size ∨ w.heap.size ≤ b) ∧ ∀ j, j < l.length → w'.cell? ⟨b, off + j, none⟩ = some (.int .u32 (l.getD j 0 : Nat))
theorem JRy.jrd {w0 w : World} {a : Option Addr} {l : List Nat} {w' : World} (h : JRy w0 w a l w') : JRd w' a l w'.heap.size := fun q => by
  obtain ⟨b, off, h1, h2, _, h3⟩ := h q
  exact ⟨b, off, h1, h2, h3⟩
/-- words that a call gave -/
def RtW (w0 w : World) (l : List Nat) (e : Ending) (w' : World) : Prop := ∃ a c, e = .returned (.slice a l.length c) ∧ JRy w0 w a l w' ∧ Below w.heap.size w w'
theorem jry_block {w0 w w' : World} {b : Nat} {cs : Array Value} {t : TypeId} {fr : Nat × Nat} (h : w'.heap[b]? = some (.cells cs t fr)) (hb : w.heap.size ≤ b) (J : List Nat) (hc : cs.toList = J.map fun z : Nat => Value.int .u32 (z : Int)) : JRy w0 w (some ⟨b, 0, none⟩) J w' := fun q => by
  obtain ⟨b', off, h1, h2, h3⟩ := jrd_block h J hc q
  cases h1
  exact ⟨b, 0, rfl, h2, .inr hb, h3⟩
theorem rtW_one (w0 w : World) (x : Nat) : RtW w0 w [x] (.returned (.slice (some ⟨w.heap.size, 0, none⟩) 1 1)) (w.alloc (.cells #[.int .u32 (x : Int)] 25)) :=
  ⟨_, 1, rfl, jry_block (heap_alloc_new w _) (Nat.le_refl _) [x] rfl, belP (Below.refl _ _)⟩
theorem rtW_two (w0 w : World) (x y : Nat) : RtW w0 w [x, y] (.returned (.slice (some ⟨w.heap.size, 0, none⟩) 2 2)) (w.alloc (.cells #[.int .u32 (x : Int), .int .u32 (y : Int)] 25)) :=
  ⟨_, 2, rfl, jry_block (heap_alloc_new w _) (Nat.le_refl _) [x, y] rfl, belP (Below.refl _ _)⟩
theorem both_any (w0 : World) (x y : Nat) (w : World) : Calls Tryz.prog 110 #[.int .u32 x, .int .u32 y] w (RtW w0 w (if x = y then [x] else [min x y, max x y])) := by
  by_cases h : x = y
  · subst h
    rw [if_pos rfl]
    go_enter Tryz.func110, Tryz.ntmps110
    go_wp2
    go_ret
    exact rtW_one w0 w x
  · rw [if_neg h]
    have hB : ((x : Int) == (y : Int)) = false := beq_eq_false_iff_ne.2 (by omega)
    by_cases hl : x < y
    · rw [Nat.min_eq_left (by omega), Nat.max_eq_right (by omega)]
      have h1 : (x : Int) < (y : Int) := by omega
      have h2 : ¬ (y : Int) < (x : Int) := by omega
      clear h
      go_enter Tryz.func110, Tryz.ntmps110
      go_wp2
      go_ret
      exact rtW_two w0 w x y
    · rw [Nat.min_eq_right (by omega), Nat.max_eq_left (by omega)]
      have h1 : ¬ (x : Int) < (y : Int) := by omega
      have h2 : (y : Int) < (x : Int) := by omega
      clear h
      go_enter Tryz.func110, Tryz.ntmps110
      go_wp2
      go_ret
      exact rtW_two w0 w y x
theorem RtW.from {w0 v w : World} {l : List Nat} {e : Ending} {w' : World} (hb : Below v.heap.size v w) (h : RtW w0 w l e w') : RtW w0 v l e w' := by
  obtain ⟨a, c, h1, h2, h3⟩ := h
  refine ⟨a, c, h1, fun q => ?_, btP hb h3⟩
  obtain ⟨b, off, e1, e2, e3, e4⟩ := h2 q
  refine ⟨b, off, e1, e2, ?_, e4⟩
  rcases e3 with q | q
  · exact .inl q
  · exact .inr (Nat.le_trans hb.size q)
set_option maxHeartbeats 2000000 in
theorem next_any' {w0 w : World} {kc pp : Nat} {ta : Option Addr} {tc : Nat} {ao : Option Addr} {cap : Nat} {L : List (Nat × Nat)} {J : List Nat} (h0 : ChS w0 kc pp ta tc ao cap L J) (hb0 : Below w0.heap.size w0 w) (hl : L.length ≤ 16384) (hE : isEn L 0 = true) (i : Nat) (hi : i < L.length) (hop : opL L i < 256) :
    Calls Tryz.prog 103 #[.pointer (some ⟨kc, 0, none⟩), .int .u32 i] w (RtW w0 w (nxt L J i)) := by
  have h := h0.below hb0
  have HI := cinfo_any h i hi hop
  have HCb : Hid (∀ W, Below w.heap.size w W → ChS W kc pp ta tc ao cap L J) := hidS (fun W hW => h.below hW)
  obtain ⟨b, off, rfl, hb, hc⟩ := h.code (by omega)
  have HV : Hid (∀ W, Below w.heap.size w W → W.cell? ⟨kc, 0, none⟩ = some (.slice (some ⟨b, off, none⟩) L.length cap) ∧ W.cell? ⟨b, off + i * 2 + 1, none⟩ = some (.int .u32 (argL L i : Nat))) := hidS (fun W hW => ⟨(h.below hW).c0, (hW.cell (p := ⟨b, off + i * 2 + 1, none⟩) hb).trans (hc i hi).2⟩)
  have hiI : (i : Int) < (L.length : Int) := by omega
  have hw1 : IntKind.u32.wrap ((i : Int) + 1) = (i : Int) + 1 := by rw [IntKind.wrap_u32]; omega
  have HBo : Hid (∀ W, Calls Tryz.prog 110 #[.int .u32 ((i : Int) + 1), .int .u32 (argL L i : Nat)] W fun e w' => ∃ a c, e = .returned (.slice a (if i + 1 = argL L i then [i + 1] else [min (i + 1) (argL L i), max (i + 1) (argL L i)]).length c) ∧ JRy w0 W a (if i + 1 = argL L i then [i + 1] else [min (i + 1) (argL L i), max (i + 1) (argL L i)]) w' ∧ Below W.heap.size W w') := hidS (fun W => both_any w0 (i + 1) (argL L i) W)
  have hNX : nxt L J i = nxt L J i := rfl
  conv at hNX => rhs; unfold nxt
  unfold infoV at HI
  generalize hkq : opKi (opL L i) = kd at HI hNX
  generalize opL L i = op at HI hop
  generalize argL L i = ar at HV hNX HBo
  clear hc
  by_cases k1 : kd = 1 ∨ kd = 6 ∨ kd = 5
  · rw [if_pos k1] at hNX
    rw [hNX]
    clear hNX HBo HCb h
    rcases k1 with rfl | rfl | rfl
    all_goals
      go_enter Tryz.func103, Tryz.ntmps103
      go_wp2_with (go_at_call 83; with_reducible refine HI.mono ?_; rintro e w1 ⟨rfl, hb1⟩)
      go_ret
      exact (rtW_one w0 w1 (i + 1)).from hb1
  · rw [if_neg k1] at hNX
    by_cases k2 : kd = 2
    · rw [if_pos k2] at hNX
      rw [hNX]
      generalize (if i + 1 = ar then [i + 1] else [min (i + 1) ar, max (i + 1) ar]) = bl at HBo ⊢
      clear hNX HCb h k1 hkq
      subst k2
      go_enter Tryz.func103, Tryz.ntmps103
      go_wp2_with (first
        | (go_at_call 83; with_reducible refine HI.mono ?_; rintro e w1 ⟨rfl, hb1⟩; obtain ⟨c0, c1⟩ := HV.out w1 hb1)
        | (go_at_call 110; with_reducible refine (HBo.out _).mono ?_; rintro e w2 ⟨a2, cc2, rfl, hJ2, hb2⟩))
      go_ret
      exact RtW.from hb1 ⟨a2, cc2, rfl, hJ2, hb2⟩
    · rw [if_neg k2] at hNX
      by_cases k3 : kd = 3
      · rw [if_pos k3] at hNX
        rw [hNX]
        clear hNX HCb h k1 hkq k2
        subst k3
        go_enter Tryz.func103, Tryz.ntmps103
        go_wp2_with (go_at_call 83; with_reducible refine HI.mono ?_; rintro e w1 ⟨rfl, hb1⟩; obtain ⟨c0, c1⟩ := HV.out w1 hb1)
        go_ret
        exact (rtW_one w0 w1 ar).from hb1
      · rw [if_neg k3] at hNX
        by_cases k4 : kd = 4
        · rw [if_pos k4] at hNX
          rw [hNX]
          obtain ⟨k, hk, e1, e2⟩ := lies_in hE hi
          rw [ofL_in hk e1 e2, Int.toNat_natCast]
          obtain ⟨bt, ot, rfl, hbt0, hx⟩ := h0.tgt
          have hbt := Nat.lt_of_lt_of_le hbt0 hb0.size
          obtain ⟨ra, rc, hr1, hr2⟩ := hx k hk
          have HOf : Hid (∀ W, Below w.heap.size w W → Calls Tryz.prog 50 #[.pointer (some ⟨pp, 0, none⟩), .int .u32 i] W fun e w' => e = .returned (.int .i64 (k : Int)) ∧ Below W.heap.size W w') := hidS (fun W hW => by
            obtain ⟨B, p1, g1, p2, g2, lv, A, C, hp⟩ := (HCb.out W hW).prs
            have := pof_any i W hl hE hp
            rw [ofL_in hk e1 e2] at this
            exact this)
          have HS : Hid (∀ W, Below w.heap.size w W → W.cell? ⟨kc, 1, none⟩ = some (.pointer (some ⟨pp, 0, none⟩)) ∧ W.cell? ⟨kc, 2, none⟩ = some (.slice (some ⟨bt, ot, none⟩) (bgs L).length tc) ∧ W.cell? ⟨bt, ot + k, none⟩ = some (.slice ra (tgs L J k).length rc)) := hidS (fun W hW => ⟨(HCb.out W hW).c1, (HCb.out W hW).c2, (hW.cell (p := ⟨bt, ot + k, none⟩) hbt).trans ((hb0.cell (p := ⟨bt, ot + k, none⟩) hbt0).trans hr1)⟩)
          have HJ : Hid (∀ W, Below w.heap.size w W → JRy w0 w ra (tgs L J k) W) := hidS (fun W hW q => by
            obtain ⟨b', o', q1, q2, q3⟩ := hr2 q
            have hbW := btP hb0 hW
            exact ⟨b', o', q1, Nat.lt_of_lt_of_le q2 hbW.size, .inl q2, fun j hj => (hbW.cell (p := ⟨b', o' + j, none⟩) q2).trans (q3 j hj)⟩)
          have hkI : (k : Int) < ((bgs L).length : Int) := by omega
          clear hNX HCb h h0 hb0 k1 hkq k2 k3 hx hr1 hr2 e1 e2 HBo HV
          subst k4
          generalize tgs L J k = tg at *
          generalize (bgs L).length = m at *
          go_enter Tryz.func103, Tryz.ntmps103
          go_wp2_with (go_at_call 83; with_reducible refine HI.mono ?_; rintro e w1 ⟨rfl, hb1⟩)
          have HB1 := hidS hb1
          have HB1d : Hid (Below w.heap.size w w1.drew) := hidS (below_drewN hb1 1)
          clear hb1
          go_region_held3 (fun V => V.cell? ⟨kc, 1, none⟩ = some (.pointer (some ⟨pp, 0, none⟩)) ∧ V.cell? ⟨kc, 2, none⟩ = some (.slice (some ⟨bt, ot, none⟩) m tc) ∧ V.cell? ⟨bt, ot + k, none⟩ = some (.slice ra tg.length rc)) (first | exact HS.out _ HB1d.out | exact HS.out _ HB1.out | exact HS.out _ (btP HB1d.out hb2)) (first
            | (go_at_call 50; with_reducible refine (HOf.out _ HB1d.out).mono ?_; rintro e w2 ⟨rfl, hb2⟩))
          go_wp2_with fail
          go_ret
          exact ⟨ra, rc, rfl, HJ.out _ (btP HB1d.out hb2), btP HB1d.out hb2⟩
        · rw [if_neg k4] at hNX
          rw [hNX]
          have q1 : ((kd : Int) == 1) = false := beq_eq_false_iff_ne.2 (by omega)
          have q2 : ((kd : Int) == 6) = false := beq_eq_false_iff_ne.2 (by omega)
          have q3 : ((kd : Int) == 5) = false := beq_eq_false_iff_ne.2 (by omega)
          have q4 : ((kd : Int) == 2) = false := beq_eq_false_iff_ne.2 (by omega)
          have q5 : ((kd : Int) == 3) = false := beq_eq_false_iff_ne.2 (by omega)
          have q6 : ((kd : Int) == 4) = false := beq_eq_false_iff_ne.2 (by omega)
          clear hNX HCb h k1 hkq k2 k3 k4
          go_enter Tryz.func103, Tryz.ntmps103
          go_wp2_with (go_at_call 83; with_reducible refine HI.mono ?_; rintro e w1 ⟨rfl, hb1⟩)
          go_ret
          exact ⟨none, 0, rfl, fun q => absurd q (by simp), hb1⟩
end Go.Proofs.YtgbpfejodpplbaaGreatDoor
