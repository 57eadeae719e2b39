import Derived.Test.YtkoklkbjcfhmkaaCodeMath
import Derived.Test.YtkoklkbjcfhmkaaNilCmp
import Derived.Deep.QuietTactic
import Derived.BigQuiet
import Derived.WalkSmall
import Derived.Test.YtkoklkbjcfhmkaaRound
namespace Go.Proofs.Ytkoklkbjcfhmkaa
open Go.RowKit Go.Shelf
attribute [local go_sem] Oper.semAt_some

/-- the last thing does not stand there -/
def BadAt (s : ByteArray) (pre : List (Cut s)) : Prop := ∃ q x, pre = q ++ [x] ∧ ¬ Good s (ieFrom 0 q) x
theorem coded_L (L : List Int) (r : Int) (w : World) (hL : L = encZ r) (h0 : 0 ≤ r) (h1 : r ≤ 1114111) :
    Calls Try.prog 16 #[.int .i32 r] w fun e w' => e = .returned (.slice (some ⟨w.heap.size, 0, none⟩) L.length L.length) ∧ w' = w.alloc (.cells (L.map (Value.int .u8)).toArray 5) := by
  subst hL; exact coded_any r w h0 h1
theorem keeps_new (W : World) (o : Obj) (t : Nat) : KeepsOthers W ((W.alloc o).drewN t) := ⟨(KeepsOthers.alloc W o).size, (KeepsOthers.alloc W o).same⟩
theorem kp_new {Bs : Nat} {s : ByteArray} (W : World) (o : Obj) (t : Nat) : Kp Bs s W ((W.alloc o).drewN t) := ⟨fun x => x.alloc o, (keeps_new W o t).walks⟩
theorem below_new {B : Nat} {a W : World} (h : Below B a W) (hB : B ≤ W.heap.size) (o : Obj) (t : Nat) : Below B a ((W.alloc o).drewN t) := below_drewN (h.alloc hB o) t
theorem boxed_new {W : World} {b t' : Nat} {v : Value} (h : Boxed W b t' v) (o : Obj) (t : Nat) : Boxed ((W.alloc o).drewN t) b t' v := h.alloc o
theorem not_good {s : ByteArray} {i m : Nat} {x : Cut s} {r : Int} {L : List Int} (hr : r = x.1.2) (hL : L = encZ r) (g0 : 0 ≤ r) (hm : m < L.length) (h : ¬ (i + m < s.size ∧ (bt s (i + m) : Int) = L.getD m 0)) : ¬ Good s i x := by
  rintro ⟨_, g | g⟩
  · rw [← hr] at g; omega
  · rw [← hr, ← hL] at g
    exact h (g.2.2 m hm)
theorem new_cell (L : List Int) (w : World) (j : Nat) (hj : j < L.length) : (w.alloc (.cells (L.map (Value.int .u8)).toArray 5)).cell? ⟨w.heap.size, j, none⟩ = some (.int .u8 (L.getD j 0)) := by
  rw [cell_of_row _ w.heap.size j _ 5 (0, 0) (heap_alloc_new w _)]
  simp [List.getD, List.getElem?_eq_getElem hj]

set_option maxRecDepth 100000 in
set_option maxHeartbeats 4000000 in
theorem claw_any (s : ByteArray) (w : World) (hs : s.size ≤ 140737488355328) :
    Calls Try.prog 5 #[.string s] w fun e w' => e = .returned (.bool true) ∧ Below w.heap.size w w' := by
  have hnil := nilcmp (w.heap.size + 1 + 1 + 1)
  refine (callsIn_wide (n := 9)).1 ?_
  refine callsIn_of_wp_marks Try.func5 rfl trivial ?_ rfl
  simp only [Try.ntmps5, List.size_toArray, List.length_cons, List.length_nil, Nat.reduceAdd, Nat.reduceSub, Array.replicate_succ, Array.replicate_zero, List.push_toArray, List.append_toArray, List.nil_append, List.cons_append]
  gi_wp2_with (refine ⟨trivial, ?_⟩; gi_at_call 15; refine (runes_in _ _ _).mono ?_; rintro e w' ⟨rfl, rfl⟩)
  clear hnil
  obtain ⟨W0, hW0⟩ : ∃ W0, ((((w.alloc (Obj.cells #[Value.string s] 9)).alloc (Obj.cells #[Value.bool false] 4)).alloc (Obj.cells #[Value.int IntKind.i64 0] 3)).alloc (Obj.cells #[Value.string s] 9)) = W0 := ⟨_, rfl⟩
  have b0 : Boxed W0 w.heap.size 9 (.string s) := by rw [← hW0]; exact (((Boxed.new w 9 _).alloc _).alloc _).alloc _
  have b1 : Boxed W0 (w.heap.size + 1) 4 (.bool false) := by
    rw [← hW0]; have := ((Boxed.new (w.alloc (Obj.cells #[Value.string s] 9)) 4 (.bool false)).alloc (Obj.cells #[Value.int IntKind.i64 0] 3)).alloc (Obj.cells #[Value.string s] 9)
    rwa [World.size_alloc] at this
  have b2 : Boxed W0 (w.heap.size + 1 + 1) 3 (.int .i64 0) := by
    rw [← hW0]; have := (Boxed.new ((w.alloc (Obj.cells #[Value.string s] 9)).alloc (Obj.cells #[Value.bool false] 4)) 3 (.int .i64 0)).alloc (Obj.cells #[Value.string s] 9)
    rwa [World.size_alloc, World.size_alloc] at this
  have b3 : Boxed W0 (w.heap.size + 1 + 1 + 1) 9 (.string s) := by
    rw [← hW0]; have := Boxed.new (((w.alloc (Obj.cells #[Value.string s] 9)).alloc (Obj.cells #[Value.bool false] 4)).alloc (Obj.cells #[Value.int IntKind.i64 0] 3)) 9 (.string s)
    rwa [World.size_alloc, World.size_alloc, World.size_alloc] at this
  have hB0 : Below w.heap.size w W0 := by rw [← hW0]; exact ((((Below.refl _ w).alloc (Nat.le_refl _) _).alloc (by simp) _).alloc (by simp; omega) _).alloc (by simp; omega) _
  have hsz : W0.heap.size = w.heap.size + 4 := by rw [← hW0]; simp
  rw [hW0]
  clear hW0
  refine wpIn_rangeFunc_ownF (F := Fence.wide) rfl (by decide) (gf := 23) (lb := #[.pointer (some ⟨w.heap.size + 1 + 1 + 1, 0, none⟩)]) rfl trivial (enters_of Try.func23 (by kernel_rfl) rfl)
    (runes_stops (9 - 1) (by decide) (w.heap.size + 1 + 1 + 1) s W0 b3) Kp_t (Kp_b (w := W0)) (Below.refl _ _) (fun _ => rfl)
    (fun pre W => (Boxed W w.heap.size 9 (.string s) ∧ Boxed W (w.heap.size + 1) 4 (.bool false) ∧ Boxed W (w.heap.size + 1 + 1) 3 (.int .i64 (ieFrom 0 pre : Nat)) ∧ ieFrom 0 pre ≤ s.size) ∧ Below w.heap.size w W)
    (fun _ pre _ => BadAt s pre)
    (OwnFrom.and (Own.from (fun t A B row h hg hr => ⟨boxed_step h.1 hg hr, boxed_step h.2.1 hg hr, boxed_step h.2.2.1 hg hr, h.2.2.2⟩) _) (ownFrom_below (Nat.le_refl _) (by omega)))
    (fun c t A B row h hg hr => h)
    ⟨⟨b0, b1, b2, by simp [ieFrom]⟩, hB0⟩
    (fun x => { tmps := #[.string s, .pointer (some ⟨w.heap.size, 0, none⟩), .pointer (some ⟨w.heap.size + 1, 0, none⟩), .pointer (some ⟨w.heap.size + 1 + 1, 0, none⟩), .func (.func 23) #[] #[.pointer (some ⟨w.heap.size + 1 + 1 + 1, 0, none⟩)], .int .i64 (x.1.1 : Int), .int .i32 x.1.2, undef, undef, .string s, .func (.func 23) #[] #[.pointer (some ⟨w.heap.size + 1 + 1 + 1, 0, none⟩)], .func (.func 23) #[] #[.pointer (some ⟨w.heap.size + 1 + 1 + 1, 0, none⟩)], .bool false, .func (.func 23) #[] #[.pointer (some ⟨w.heap.size + 1 + 1 + 1, 0, none⟩)], .int .i64 (x.1.1 : Int), .int .i32 x.1.2, undef, undef, undef, undef, undef, undef, undef, undef, undef, undef, undef, undef, undef, undef, undef, undef, undef, undef, undef, undef, undef, undef, undef, undef, undef, undef, undef, undef, undef, undef, undef, undef, undef, undef, undef, undef, undef, undef, undef, undef, undef, undef, undef, undef, undef, undef, undef, undef, undef, undef, undef, undef, undef, undef, undef, undef, undef, undef, undef, undef, undef, undef, undef, undef, undef, undef, undef, undef, undef, undef, undef, undef, undef, undef, undef, undef, undef, undef], defers := [] }) ?assign ?body ?done ?stop
  case assign =>
    intro l x W K hK
    unfold encs
    gi_wp2
    exact hK
  case body =>
    rintro l pre x W ⟨⟨h0, h1, h2, hie⟩, hB⟩ hlen
    have c0 := h0.cell; have c1 := h1.cell; have f1 := h1.frozen; have c2 := h2.cell; have f2 := h2.frozen
    obtain ⟨hx1, hx2, hx3⟩ := x.2
    obtain ⟨i, hi⟩ : ∃ i, i = ieFrom 0 pre := ⟨_, rfl⟩
    have HI : Hid (i = ieFrom 0 pre) := hi
    rw [← hi] at c2 h2 hie
    clear hi
    have HS : Hid (ieFrom 0 (pre ++ [x]) = ieStep i x) := by rw [Hid, ie_snoc, HI.out]
    have HX : Hid (¬ Good s i x → BadAt s (pre ++ [x])) := by
      intro hg
      exact ⟨pre, x, rfl, by rw [← HI.out]; exact hg⟩
    by_cases hat : x.1.1 = i
    · have ht : ((x.1.1 : Int) != (i : Int)) = false := by rw [bne_eq_false_iff_eq]; omega
      have hil : i < s.size := by omega
      have hilI : (i : Int) < (s.size : Int) := by omega
      have hbe := bt_eq s i hil
      have hbl := bt_lt s i
      obtain ⟨b, hb⟩ : ∃ b, b = bt s i := ⟨_, rfl⟩
      have HBT : Hid (b = bt s i) := hb
      rw [← hb] at hbe hbl
      have hsi : (s[i]'hil).toNat = b := hbe.symm
      clear hbe hb
      have HAT : Hid (x.1.1 = i) := hat
      clear hat
      obtain ⟨r, hr⟩ : ∃ r, r = x.1.2 := ⟨_, rfl⟩
      have HR : Hid (r = x.1.2) := hr
      rw [← hr] at hx2 hx3 ⊢
      clear hr
      have hnwrap : 0 ≤ -1 - r ∨ 0 ≤ r := by omega
      by_cases g0 : r < 0
      · by_cases g1 : -129 < r
        · gi_wp2
          exact ⟨KeepsOthers.setCell _ _ _, HX.out (fun g => by have := g.2; rw [← HR.out] at this; omega)⟩
        · have g1' : r ≤ -129 := by omega
          by_cases g2 : (b : Int) = -1 - r
          · have g2' : ((b : Int) != -1 - r) = false := by rw [bne_eq_false_iff_eq]; exact g2
            have G2 : Hid ((b : Int) = -1 - r) := g2
            clear g2
            gi_wp2
            refine ⟨KeepsOthers.setCell _ _ _, kp_set _ _ _ (by omega), ⟨h0.other (by omega) _, h1.other (by omega) _, ?_, ?_⟩, hB.setCell (p := ⟨w.heap.size + 1 + 1, 0, none⟩) (by show w.heap.size ≤ w.heap.size + 1 + 1; omega) _⟩
            · have e : ieFrom 0 (pre ++ [x]) = i + 1 := by rw [HS.out, ieStep, if_pos (by rw [← HR.out]; exact g0)]
              rw [e]; exact h2.set _
            · have e : ieFrom 0 (pre ++ [x]) = i + 1 := by rw [HS.out, ieStep, if_pos (by rw [← HR.out]; exact g0)]
              rw [e]; omega
          · have g2' : ((b : Int) != -1 - r) = true := by rw [bne_iff_ne]; exact g2
            gi_wp2
            exact ⟨KeepsOthers.setCell _ _ _, HX.out (fun g => by have := g.2; rw [← HR.out, ← HBT.out] at this; omega)⟩
      · have g0' : 0 ≤ r := by omega
        by_cases g3 : 55296 ≤ r ∧ r ≤ 57343
        · obtain ⟨g3a, g3b⟩ := g3
          gi_wp2
          exact ⟨KeepsOthers.setCell _ _ _, HX.out (fun g => by have := g.2; rw [← HR.out] at this; omega)⟩
        · obtain ⟨L, hL⟩ : ∃ L, L = encZ r := ⟨_, rfl⟩
          have HL : Hid (L = encZ r) := hL
          have hLl : 1 ≤ L.length ∧ L.length ≤ 4 := by rw [hL]; exact encZ_len r
          obtain ⟨hL1, hL4⟩ := hLl
          clear hL
          by_cases g4 : r < 55296
          · have hside : r < 55296 := by omega
            clear g3 g0 hnwrap
            have d1 : decide (1114111 < r) = false := by simp; omega
            have d2 : decide (r < -256) = false := by simp; omega
            have d3 : decide (55296 ≤ r) = false := by simp; omega
            have d4 : decide (r ≤ 57343) = true := by simp; omega
            have d5 : decide (r < 0) = false := by simp; omega
            have d6 : decide (-129 < r) = true := by simp; omega
            have d7 : decide (s.size ≤ i) = false := by simp; omega
            have d8 : decide ((s.size : Int) ≤ (i : Int)) = false := by simp; omega
            gi_wp2_with (refine ⟨trivial, ?_⟩; gi_at_call 16; refine (CallsIn.inRound l (callsIn_wide.2 (coded_L L r _ HL.out g0' (by omega)))).mono ?_; rintro e w' ⟨rfl, rfl⟩)
            gi_loopw [8] (fun k wr => ∃ m t : Nat, m ≤ L.length ∧ k = .int .i64 m ∧ wr = (W.alloc (.cells (L.map (Value.int .u8)).toArray 5)).drewN t ∧ Hid (∀ j, j < m → i + j < s.size ∧ (bt s (i + j) : Int) = L.getD j 0)) (fun k _ => L.length - (intOf k).toNat)
            case atStart => exact ⟨0, 0, Nat.zero_le _, rfl, rfl, fun j hj => by omega⟩
            case round =>
              obtain ⟨m, t, hm, rfl, rfl, HM⟩ := hrel
              have k0 := (h0.alloc (.cells (L.map (Value.int .u8)).toArray 5)).cell
              have k1 := (h1.alloc (.cells (L.map (Value.int .u8)).toArray 5)).cell
              have k1f := (h1.alloc (.cells (L.map (Value.int .u8)).toArray 5)).frozen
              have k2 := (h2.alloc (.cells (L.map (Value.int .u8)).toArray 5)).cell
              have k2f := (h2.alloc (.cells (L.map (Value.int .u8)).toArray 5)).frozen
              by_cases hml : m < L.length
              · have hcm := new_cell L W m hml
                have hmlI : (m : Int) < (L.length : Int) := by omega
                obtain ⟨c, hc⟩ : ∃ c, c = L.getD m 0 := ⟨_, rfl⟩
                have HC : Hid (c = L.getD m 0) := hc
                rw [← hc] at hcm
                clear hc
                have hwr : IntKind.i64.wrap ((i : Int) + (m : Int)) = (i : Int) + (m : Int) := by rw [IntKind.wrap_i64]; omega
                have htn : ((i : Int) + (m : Int)).toNat = i + m := by omega
                have him0 : (0 : Int) ≤ (i : Int) + (m : Int) := by omega
                by_cases q1 : i + m < s.size
                · have q1I : (i : Int) + (m : Int) < (s.size : Int) := by omega
                  have hye := bt_eq s (i + m) q1
                  obtain ⟨y, hy⟩ : ∃ y, y = bt s (i + m) := ⟨_, rfl⟩
                  have HY : Hid (y = bt s (i + m)) := hy
                  rw [← hy] at hye
                  have hsy : (s[i + m]'q1).toNat = y := hye.symm
                  clear hye hy
                  have e1 : decide (s.size ≤ i + m) = false := by simp; omega
                  have e2 : decide ((s.size : Int) ≤ (i : Int) + (m : Int)) = false := by simp; omega
                  by_cases q2 : (y : Int) = c
                  · have q2' : ((y : Int) != c) = false := by rw [bne_eq_false_iff_eq]; exact q2
                    have Q2 : Hid ((y : Int) = c) := q2
                    clear q2
                    gi_wp2
                    refine region_quiet_round (F := Fence.wide) (l := l) rfl (by kernel_rfl) (by kernel_rfl) rfl ?_
                    repeat (gi_big_quiet_step (fail))
                    refine wpQuietIn_nil ?_
                    intro _ hw'
                    obtain ⟨nq, hw''⟩ := hw'
                    subst hw''
                    gi_wp2
                    go_roundw
                    case rel =>
                      refine ⟨m + 1, _, by omega, by go_num, rfl, fun j hj => ?_⟩
                      by_cases e : j = m
                      · subst e; exact ⟨q1, by rw [← HY.out, ← HC.out]; exact Q2.out⟩
                      · exact HM.out j (by omega)
                    case measure => simp [intOf]; omega
                  · have q2' : ((y : Int) != c) = true := by rw [bne_iff_ne]; exact q2
                    have Q2 : Hid (¬ (y : Int) = c) := q2
                    clear q2
                    gi_wp2
                    refine region_quiet_round (F := Fence.wide) (l := l) rfl (by kernel_rfl) (by kernel_rfl) rfl ?_
                    repeat (gi_big_quiet_step (fail))
                    refine wpQuietIn_nil ?_
                    intro _ hw'
                    obtain ⟨nq, hw''⟩ := hw'
                    subst hw''
                    gi_wp2
                    exact ⟨(keeps_new W _ _).trans (KeepsOthers.setCell _ _ _), HX.out (not_good HR.out HL.out g0' hml (fun h => Q2.out (by rw [HY.out, HC.out]; exact h.2)))⟩
                · have q1I : (s.size : Int) ≤ (i : Int) + (m : Int) := by omega
                  have e1 : decide (s.size ≤ i + m) = true := by simp; omega
                  have e2 : decide ((s.size : Int) ≤ (i : Int) + (m : Int)) = true := by simp; omega
                  gi_wp2
                  refine region_quiet_round (F := Fence.wide) (l := l) rfl (by kernel_rfl) (by kernel_rfl) rfl ?_
                  repeat (gi_big_quiet_step (fail))
                  refine wpQuietIn_nil ?_
                  intro _ hw'
                  obtain ⟨nq, hw''⟩ := hw'
                  subst hw''
                  gi_wp2
                  exact ⟨(keeps_new W _ _).trans (KeepsOthers.setCell _ _ _), HX.out (not_good HR.out HL.out g0' hml (fun h => q1 h.1))⟩
              · obtain rfl : m = L.length := by omega
                have hfin : i + L.length ≤ s.size := by
                  have := (HM.out (L.length - 1) (by omega)).1
                  omega
                gi_wp2
                refine ⟨(keeps_new W _ _).trans (KeepsOthers.setCell _ _ _), Kp_t (kp_new W _ _) (kp_set _ _ _ (by omega)), ⟨(boxed_new h0 _ _).other (by omega) _, (boxed_new h1 _ _).other (by omega) _, ?_, ?_⟩, (below_new hB hB.size _ _).setCell (p := ⟨w.heap.size + 1 + 1, 0, none⟩) (by show w.heap.size ≤ w.heap.size + 1 + 1; omega) _⟩
                · have e : ieFrom 0 (pre ++ [x]) = i + L.length := by rw [HS.out, ieStep, if_neg (by rw [← HR.out]; omega), ← HR.out, ← HL.out]
                  rw [e]; exact (boxed_new h2 _ _).set _
                · have e : ieFrom 0 (pre ++ [x]) = i + L.length := by rw [HS.out, ieStep, if_neg (by rw [← HR.out]; omega), ← HR.out, ← HL.out]
                  rw [e]; exact hfin
          · have hside : 57343 < r := by omega
            clear g3 g0 hnwrap
            have d1 : decide (1114111 < r) = false := by simp; omega
            have d2 : decide (r < -256) = false := by simp; omega
            have d3 : decide (55296 ≤ r) = true := by simp; omega
            have d4 : decide (r ≤ 57343) = false := by simp; omega
            have d5 : decide (r < 0) = false := by simp; omega
            have d6 : decide (-129 < r) = true := by simp; omega
            have d7 : decide (s.size ≤ i) = false := by simp; omega
            have d8 : decide ((s.size : Int) ≤ (i : Int)) = false := by simp; omega
            gi_wp2_with (refine ⟨trivial, ?_⟩; gi_at_call 16; refine (CallsIn.inRound l (callsIn_wide.2 (coded_L L r _ HL.out g0' (by omega)))).mono ?_; rintro e w' ⟨rfl, rfl⟩)
            gi_loopw [8] (fun k wr => ∃ m t : Nat, m ≤ L.length ∧ k = .int .i64 m ∧ wr = (W.alloc (.cells (L.map (Value.int .u8)).toArray 5)).drewN t ∧ Hid (∀ j, j < m → i + j < s.size ∧ (bt s (i + j) : Int) = L.getD j 0)) (fun k _ => L.length - (intOf k).toNat)
            case atStart => exact ⟨0, 0, Nat.zero_le _, rfl, rfl, fun j hj => by omega⟩
            case round =>
              obtain ⟨m, t, hm, rfl, rfl, HM⟩ := hrel
              have k0 := (h0.alloc (.cells (L.map (Value.int .u8)).toArray 5)).cell
              have k1 := (h1.alloc (.cells (L.map (Value.int .u8)).toArray 5)).cell
              have k1f := (h1.alloc (.cells (L.map (Value.int .u8)).toArray 5)).frozen
              have k2 := (h2.alloc (.cells (L.map (Value.int .u8)).toArray 5)).cell
              have k2f := (h2.alloc (.cells (L.map (Value.int .u8)).toArray 5)).frozen
              by_cases hml : m < L.length
              · have hcm := new_cell L W m hml
                have hmlI : (m : Int) < (L.length : Int) := by omega
                obtain ⟨c, hc⟩ : ∃ c, c = L.getD m 0 := ⟨_, rfl⟩
                have HC : Hid (c = L.getD m 0) := hc
                rw [← hc] at hcm
                clear hc
                have hwr : IntKind.i64.wrap ((i : Int) + (m : Int)) = (i : Int) + (m : Int) := by rw [IntKind.wrap_i64]; omega
                have htn : ((i : Int) + (m : Int)).toNat = i + m := by omega
                have him0 : (0 : Int) ≤ (i : Int) + (m : Int) := by omega
                by_cases q1 : i + m < s.size
                · have q1I : (i : Int) + (m : Int) < (s.size : Int) := by omega
                  have hye := bt_eq s (i + m) q1
                  obtain ⟨y, hy⟩ : ∃ y, y = bt s (i + m) := ⟨_, rfl⟩
                  have HY : Hid (y = bt s (i + m)) := hy
                  rw [← hy] at hye
                  have hsy : (s[i + m]'q1).toNat = y := hye.symm
                  clear hye hy
                  have e1 : decide (s.size ≤ i + m) = false := by simp; omega
                  have e2 : decide ((s.size : Int) ≤ (i : Int) + (m : Int)) = false := by simp; omega
                  by_cases q2 : (y : Int) = c
                  · have q2' : ((y : Int) != c) = false := by rw [bne_eq_false_iff_eq]; exact q2
                    have Q2 : Hid ((y : Int) = c) := q2
                    clear q2
                    gi_wp2
                    refine region_quiet_round (F := Fence.wide) (l := l) rfl (by kernel_rfl) (by kernel_rfl) rfl ?_
                    repeat (gi_big_quiet_step (fail))
                    refine wpQuietIn_nil ?_
                    intro _ hw'
                    obtain ⟨nq, hw''⟩ := hw'
                    subst hw''
                    gi_wp2
                    go_roundw
                    case rel =>
                      refine ⟨m + 1, _, by omega, by go_num, rfl, fun j hj => ?_⟩
                      by_cases e : j = m
                      · subst e; exact ⟨q1, by rw [← HY.out, ← HC.out]; exact Q2.out⟩
                      · exact HM.out j (by omega)
                    case measure => simp [intOf]; omega
                  · have q2' : ((y : Int) != c) = true := by rw [bne_iff_ne]; exact q2
                    have Q2 : Hid (¬ (y : Int) = c) := q2
                    clear q2
                    gi_wp2
                    refine region_quiet_round (F := Fence.wide) (l := l) rfl (by kernel_rfl) (by kernel_rfl) rfl ?_
                    repeat (gi_big_quiet_step (fail))
                    refine wpQuietIn_nil ?_
                    intro _ hw'
                    obtain ⟨nq, hw''⟩ := hw'
                    subst hw''
                    gi_wp2
                    exact ⟨(keeps_new W _ _).trans (KeepsOthers.setCell _ _ _), HX.out (not_good HR.out HL.out g0' hml (fun h => Q2.out (by rw [HY.out, HC.out]; exact h.2)))⟩
                · have q1I : (s.size : Int) ≤ (i : Int) + (m : Int) := by omega
                  have e1 : decide (s.size ≤ i + m) = true := by simp; omega
                  have e2 : decide ((s.size : Int) ≤ (i : Int) + (m : Int)) = true := by simp; omega
                  gi_wp2
                  refine region_quiet_round (F := Fence.wide) (l := l) rfl (by kernel_rfl) (by kernel_rfl) rfl ?_
                  repeat (gi_big_quiet_step (fail))
                  refine wpQuietIn_nil ?_
                  intro _ hw'
                  obtain ⟨nq, hw''⟩ := hw'
                  subst hw''
                  gi_wp2
                  exact ⟨(keeps_new W _ _).trans (KeepsOthers.setCell _ _ _), HX.out (not_good HR.out HL.out g0' hml (fun h => q1 h.1))⟩
              · obtain rfl : m = L.length := by omega
                have hfin : i + L.length ≤ s.size := by
                  have := (HM.out (L.length - 1) (by omega)).1
                  omega
                gi_wp2
                refine ⟨(keeps_new W _ _).trans (KeepsOthers.setCell _ _ _), Kp_t (kp_new W _ _) (kp_set _ _ _ (by omega)), ⟨(boxed_new h0 _ _).other (by omega) _, (boxed_new h1 _ _).other (by omega) _, ?_, ?_⟩, (below_new hB hB.size _ _).setCell (p := ⟨w.heap.size + 1 + 1, 0, none⟩) (by show w.heap.size ≤ w.heap.size + 1 + 1; omega) _⟩
                · have e : ieFrom 0 (pre ++ [x]) = i + L.length := by rw [HS.out, ieStep, if_neg (by rw [← HR.out]; omega), ← HR.out, ← HL.out]
                  rw [e]; exact (boxed_new h2 _ _).set _
                · have e : ieFrom 0 (pre ++ [x]) = i + L.length := by rw [HS.out, ieStep, if_neg (by rw [← HR.out]; omega), ← HR.out, ← HL.out]
                  rw [e]; exact hfin
    · have ht : ((x.1.1 : Int) != (i : Int)) = true := by rw [bne_iff_ne]; omega
      gi_wp2
      exact ⟨KeepsOthers.setCell _ _ _, HX.out (fun g => hat g.1)⟩
  case done =>
    rintro D ys W hD hys ⟨⟨h0, h1, h2, hie⟩, hB⟩ hK
    have c0 := h0.cell; have c1 := h1.cell; have f1 := h1.frozen; have c2 := h2.cell
    have hend : ieFrom 0 ys = s.size := by rw [hys]; exact ie_all s
    rw [hend] at c2
    clear hys hend hie
    gi_wp2
    have hK' := (KeepsOthers.setCell W ⟨w.heap.size + 1, 0, none⟩ (.bool true)).same D _ hK rfl
    refine ⟨by simp, .inl ⟨_, _, rfl, run_takeDeferred hK', ?_⟩⟩
    have hc5 := (boxed_step (h1.set (.bool true)) (grownBy_putObj' _ D (.deferred none)) (fun r e => by cases e; exact ⟨_, hK', rfl⟩)).cell
    refine ⟨.bool true, ?_, rfl, (hB.setCell (p := ⟨w.heap.size + 1, 0, none⟩) (by show w.heap.size ≤ w.heap.size + 1; omega) _).trans (belowK_b (w := w) (Nat.le_refl _) _ D _ _ (by omega) hK' rfl rfl)⟩
    simp [results, Try.f5, go_sem, hc5]
  case stop =>
    rintro D c pre W hD hpre ⟨q, y, rfl, hg⟩ hK
    exact absurd (good_pre hpre) hg
end Go.Proofs.Ytkoklkbjcfhmkaa
