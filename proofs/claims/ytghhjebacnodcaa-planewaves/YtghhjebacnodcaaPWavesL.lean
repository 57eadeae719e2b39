import Derived.Test.YtghhjebacnodcaaPWaveX
import Derived.Laws.AppendOwn
import Derived.Deep.AppendLies
import Derived.Deep.RegionHeld3
import Derived.Lib.SmallJoins
namespace Go.Proofs.Ytghhjebacnodcaa
open Go.RowKit Go.Joins
/-- what a slice of whole points that is read holds -/
def WReads (w : World) (ao : Option Addr) (vs : List (Int × Int)) (B : Nat) : Prop :=
  0 < vs.length → ∃ b off, ao = some ⟨b, off, none⟩ ∧ b < B ∧ ∀ j, j < vs.length → w.cell? ⟨b, off + j * 2, none⟩ = some (.int .i64 (vs.getD j (0, 0)).1) ∧ w.cell? ⟨b, off + j * 2 + 1, none⟩ = some (.int .i64 (vs.getD j (0, 0)).2)
theorem WReads.below {w w' : World} {ao : Option Addr} {vs : List (Int × Int)} {B : Nat} (h : WReads w ao vs B) (hb : Below B w w') : WReads w' ao vs B := by
  intro hl
  obtain ⟨b, off, e, hlt, hc⟩ := h hl
  exact ⟨b, off, e, hlt, fun j hj => ⟨(hb.cell (p := ⟨b, off + j * 2, none⟩) hlt).trans (hc j hj).1, (hb.cell (p := ⟨b, off + j * 2 + 1, none⟩) hlt).trans (hc j hj).2⟩⟩
/-- a whole number brought into bounds -/
abbrev bd (x : Int) : Int := x.tmod 1099511627776
abbrev fb (x : Int) : Nat := floatOfInt .f64 (bd x)
abbrev pv (p : Int × Int) : Value := .complex .f64 (fb p.1) (fb p.2)
theorem bounded_any (x : Int) (w : World) :
    Calls Try.prog 25 #[.int .i64 x] w fun e w' => e = .returned (.int .i64 (bd x)) ∧ w' = w := by
  go_enter Try.func25, Try.ntmps25
  go_wp2
  go_ret
  exact ⟨rfl, rfl⟩
theorem ptake_snoc (vs : List (Int × Int)) (k : Nat) (h : k < vs.length) : vs.take (k + 1) = vs.take k ++ [vs.getD k (0, 0)] := by
  rw [List.take_succ_eq_append_getElem h]
  simp [List.getD, List.getElem?_eq_getElem h]
theorem pown_snoc {w1 : World} {B e : Nat} {v' : Value} {L M : List (Int × Int)} {n : Nat} {x : Int × Int} (hM : M = L ++ [x])
    (h : w1.ownsRow B e 1 v' (n + 1) (L.map pv ++ [pv x])) : w1.ownsRow B e 1 v' (n + 1) (M.map pv) := by
  rw [hM, List.map_append]; exact h
theorem pgrown_below {B e sz : Nat} {a w w' : World} {xs : List Value} {v : Value} {n : Nat} {o : Obj} (h : Below B a w) (hB : B ≤ w.heap.size) (hown : w.ownsRow B e sz v n xs) (hg : (w.alloc o).grownBy w' v.ownBlock) : Below B a w' :=
  (h.alloc hB o).grown hg (by simp; omega) (fun k e => (hown.lt k e).1)
theorem row_at {w : World} {B g n cap : Nat} {e : TypeId} {xs : List Value} (h : w.ownsRow B e 1 (.slice (some ⟨g, 0, none⟩) n cap) n xs) {k : Nat} (hk : k < n) {u : Value} (hu : xs[k]? = some u) : w.cell? ⟨g, k, none⟩ = some u := by
  rw [h.cellAt k (by omega), hu]
theorem row_at0 {w : World} {B g n cap : Nat} {e : TypeId} {xs : List Value} (h : w.ownsRow B e 1 (.slice (some ⟨g, 0, none⟩) n cap) n xs) {k : Nat} (hk : k < n) {u : Value} (hu : xs[k]? = some u) : w.cell? ⟨g, 0 + k, none⟩ = some u := by
  rw [Nat.zero_add]; exact row_at h hk hu
theorem map_at {vs : List (Int × Int)} {n k : Nat} (hl : vs.length = n) (hk : k < n) : (vs.map pv)[k]? = some (pv (vs.getD k (0, 0))) := by
  have : k < vs.length := by omega
  simp [List.getD, this]
theorem bd_le (x : Int) : (bd x).natAbs ≤ 1099511627776 := by
  have h1 : bd x < 1099511627776 := Int.tmod_lt_of_pos _ (by decide)
  have h2 : -1099511627776 < bd x := Int.lt_tmod_of_pos _ (by decide)
  omega
theorem ne_of_wh {x y : Nat} {u : Int} (hx : Wh x u) (hy : Wh y u) : (FloatKind.f64.format.order x y != some .eq) = false := by
  rw [wh_eq hx hy]; rfl
set_option maxRecDepth 100000 in
set_option maxHeartbeats 1000000 in
theorem plane_waves (ao : Option Addr) (cap : Nat) (vs : List (Int × Int)) (n : Nat) (w : World) (hl : vs.length = n) (hn : n * 16 ≤ 140737488355328) (hr : WReads w ao vs w.heap.size) :
    Calls Try.prog 5 #[.slice ao n cap] w fun e w' => e = .returned (.bool true) ∧ Below w.heap.size w w' := by
  have HL : Hid (vs.length = n) := hl
  clear hl
  obtain ⟨i0, hi, hz0, hz1, hz2⟩ := info_parts Try.info_c
  go_enter Try.func5, Try.ntmps5
  go_wp2_with (go_at_call 7; refine (plives_any _).mono ?_; rintro e wq ⟨rfl, m0, hq⟩; subst wq)
  go_loopw [3, 4] (fun v i wr => ∃ k : Nat, k ≤ n ∧ i = .int .i64 k ∧ wr.ownsRow w.heap.size 38 1 v k ((vs.take k).map pv) ∧ Below w.heap.size w wr)
    (fun _ i _ => n - (intOf i).toNat)
  case atStart => exact ⟨0, Nat.zero_le _, rfl, World.ownsRow_nil _ _ _ _, below_drewN (Below.refl _ _) _⟩
  case round =>
    obtain ⟨k, hk, rfl, hown, hb⟩ := hrel
    by_cases hlt : k < n
    · obtain ⟨b, off, rfl, hbl, hc⟩ := hr (by rw [HL.out]; omega)
      obtain ⟨hw1, hw2⟩ := hc k (by rw [HL.out]; exact hlt)
      have hc1 := (hb.cell (p := ⟨b, off + k * 2, none⟩) hbl).trans hw1
      have hc2 := (hb.cell (p := ⟨b, off + k * 2 + 1, none⟩) hbl).trans hw2
      have hB := hb.size
      clear hc
      have hts := ptake_snoc vs k (by rw [HL.out]; exact hlt)
      generalize vs.getD k (0, 0) = p at hc1 hc2 hw1 hw2 hts
      obtain ⟨x, y⟩ := p
      have HS : Hid (vs.take (k + 1) = vs.take k ++ [(x, y)]) := hts
      clear hts
      go_wp2
      go_region_held3 (fun w' => w'.cell? ⟨b, off + k * 2, none⟩ = some (.int .i64 x) ∧ w'.cell? ⟨b, off + k * 2 + 1, none⟩ = some (.int .i64 y)) (first | go_keep | exact ⟨(R2.cell (p := ⟨b, off + k * 2, none⟩) hbl).trans hw1, (R2.cell (p := ⟨b, off + k * 2 + 1, none⟩) hbl).trans hw2⟩) (first
        | (go_at_call 25; refine (bounded_any _ _).mono ?_; rintro e wq ⟨rfl, hq⟩; subst wq)
        | ((refine step_append_lies _ (by rfl) _ _ 34 (by rfl) w.heap.size 38 i0 (.complex .f64 0 0) 1 16 Try.underlying34 hi hz0 hz1 hz2 rfl (by decide) _ k ((vs.take k).map pv) (by rfl) (by first | exact hown.alloc _ | exact hown.drew.alloc _ | exact (hown.alloc _).drew) ⟨_, 0, none⟩ 1 1 [pv (x, y)] (by rfl) rfl (by intro j u hj; cases j with | zero => (simp at hj; subst hj; simp [Addr.add]) | succ j => simp at hj) (by intro u hu; simp at hu; subst hu; rfl) (by decide) (by unfold maxLen; omega) (by omega) (by simp; omega) _ rfl ?_; intro g5 c5 w1 hown1 hgrow1 hat1 hlt1; have R2 : Below w.heap.size w w1 := pgrown_below hb.drew hB hown.drew hgrow1)))
      have R1 := pown_snoc HS.out hown1
      clear hown1 hgrow1 hown hc1 hc2 hw1 hw2 hat1 hlt1
      go_wp2
      go_roundw
      case rel => exact ⟨k + 1, by omega, by go_num, R1, R2⟩
      case measure => simp [intOf]; omega
    · obtain rfl : k = n := by omega
      have hov := hown
      rw [show (vs.take k).map pv = vs.map pv by rw [← HL.out, List.take_length]] at hov
      clear hown hr
      have hlow := hov.lt
      by_cases hno : k ≠ 1 ∧ k ≠ 2 ∧ k ≠ 4 ∧ k ≠ 8
      · obtain ⟨n1, n2, n4, n8⟩ := hno
        have b1 : ((k : Int) != 1) = true := by simp; omega
        have b2 : ((k : Int) != 2) = true := by simp; omega
        have b4 : ((k : Int) != 4) = true := by simp; omega
        have b8 : ((k : Int) != 8) = true := by simp; omega
        rcases ownsRow_forms hov with ⟨rfl, hk0⟩ | ⟨g, c, rfl⟩
        · subst hk0
          have hwv := wave_none none 0 0 false wr n1 n2 n4 n8
          go_wp2_with (go_at_call 14; with_reducible refine hwv.mono ?_; rintro e wq ⟨rfl, hq⟩; subst wq)
          go_ret
          exact ⟨rfl, hb⟩
        · have hwv := wave_none (some ⟨g, 0, none⟩) k c false wr n1 n2 n4 n8
          go_wp2_with (go_at_call 14; with_reducible refine hwv.mono ?_; rintro e wq ⟨rfl, hq⟩; subst wq)
          go_ret
          exact ⟨rfl, hb⟩
      · obtain ⟨g, c, rfl⟩ := ownsRow_form hov (by omega)
        have hgl := hlow g rfl
        have hcells : ∀ j, j < k → wr.cell? ⟨g, 0 + j, none⟩ = some (cp (fb (vs.getD j (0, 0)).1, fb (vs.getD j (0, 0)).2)) := fun j hj => row_at0 hov hj (map_at HL.out hj)
        clear hlow
        by_cases h8 : k = 8
        · subst h8
          have hwv := wave_8 g 0 c (fun j => (fb (vs.getD j (0, 0)).1, fb (vs.getD j (0, 0)).2)) 8 wr (by decide) hgl.2 hcells
          clear hcells hno
          go_wp2_with (go_at_call 14; with_reducible refine hwv.mono ?_; rintro e wq ⟨v2, xs2, f2, rfl, own2, hf2, hb2⟩; obtain ⟨g2, c2, rfl⟩ := ownsRow_form own2 (by decide))
          go_ret
          exact ⟨rfl, ptrans hb hb2⟩
        · have hn3 : k = 1 ∨ k = 2 ∨ k = 4 := by omega
          have hwh : ∀ j, j < k → Wh (fb (vs.getD j (0, 0)).1) (bd (vs.getD j (0, 0)).1) ∧ Wh (fb (vs.getD j (0, 0)).2) (bd (vs.getD j (0, 0)).2) ∧ (bd (vs.getD j (0, 0)).1).natAbs ≤ 1099511627776 ∧ (bd (vs.getD j (0, 0)).2).natAbs ≤ 1099511627776 := fun j _ =>
            ⟨wh_of _ (Nat.le_trans (bd_le _) (by decide)), wh_of _ (Nat.le_trans (bd_le _) (by decide)), bd_le _, bd_le _⟩
          have hwv := wave_f g 0 c (fun j => (fb (vs.getD j (0, 0)).1, fb (vs.getD j (0, 0)).2)) (fun j => (bd (vs.getD j (0, 0)).1, bd (vs.getD j (0, 0)).2)) 1099511627776 k wr hn3 hgl.2 hcells (by decide) hwh
          clear hcells hno
          have hfac : ∃ a d : Nat, a ≤ 2 ∧ k = 2 ^ a ∧ floatOfInt .f64 (k : Int) = d ∧ (FloatKind.f64.format.order d 0 == some .eq) = false ∧ Ieee.double.read d = .number false 4503599627370496 (-1074 + ((1022 + a : Nat) : Int)) := by
            rcases hn3 with rfl | rfl | rfl
            · exact ⟨0, 4607182418800017408, by decide, rfl, by decide +kernel, by decide +kernel, by rfl⟩
            · exact ⟨1, 4611686018427387904, by decide, rfl, by decide +kernel, by decide +kernel, by rfl⟩
            · exact ⟨2, 4616189618054758400, by decide, rfl, by decide +kernel, by decide +kernel, by rfl⟩
          have HF : Hid (∃ a d : Nat, a ≤ 2 ∧ k = 2 ^ a ∧ floatOfInt .f64 (k : Int) = d ∧ (FloatKind.f64.format.order d 0 == some .eq) = false ∧ Ieee.double.read d = .number false 4503599627370496 (-1074 + ((1022 + a : Nat) : Int))) := hfac
          clear hfac
          have HN : Hid (k = 1 ∨ k = 2 ∨ k = 4) := hn3
          have hsw : (((k : Int) != 1) = false) ∨ (((k : Int) != 1) = true ∧ ((k : Int) != 2) = false) ∨ (((k : Int) != 1) = true ∧ ((k : Int) != 2) = true ∧ ((k : Int) != 4) = false) := by
            rcases hn3 with rfl | rfl | rfl <;> decide
          have hk8 : ((k : Int) == 8) = false := by simp; omega
          have hsb := fun j hj => sum_back k j (fun j => (bd (vs.getD j (0, 0)).1, bd (vs.getD j (0, 0)).2)) hn3 hj
          have hk4 : k ≤ 4 := by omega
          have hk1 : 0 < k := by omega
          clear hn3 h8
          rcases hsw with s1 | ⟨s1, s2⟩ | ⟨s1, s2, s4⟩
          all_goals
            go_wp2_with (go_at_call 14; with_reducible refine hwv.mono ?_; rintro e wq ⟨v2, xs2, f2, rfl, own2, hf2, hb2⟩; obtain ⟨g2, c2, rfl⟩ := ownsRow_form own2 hk1)
            obtain ⟨a, d, ha, hka, hd1, hd2, hd3⟩ := HF.out
            have hwb := wave_b g2 0 c2 f2 (fun i => sumv k i false (fun j => (bd (vs.getD j (0, 0)).1, bd (vs.getD j (0, 0)).2)) k) (fun j => (bd (vs.getD j (0, 0)).1, bd (vs.getD j (0, 0)).2)) 8796093022208 k a d wq HN.out (own2.lt g2 rfl).2 (fun j hj => row_at0 own2 hj (hf2 j hj).1) (by decide)
              (fun j hj => ⟨(hf2 j hj).2.1, (hf2 j hj).2.2.1, Nat.le_trans (hf2 j hj).2.2.2.1 (by omega), Nat.le_trans (hf2 j hj).2.2.2.2 (by omega)⟩)
              (fun j hj => ⟨(hsb j hj).1, (hsb j hj).2, Nat.le_trans (bd_le _) (by decide), Nat.le_trans (bd_le _) (by decide)⟩) ha hka hd1 hd2 hd3
            clear hwv hsb hf2 hka hd1 hd2 hd3 HF HN
            go_wp2_with (go_at_call 14; with_reducible refine hwb.mono ?_; rintro e w3 ⟨v3, xs3, f3, rfl, own3, hf3, hb3⟩; obtain ⟨g3, c3, rfl⟩ := ownsRow_form own3 hk1)
            have hov3 := pown (pown hov hb2) hb3
            have hbb : Below w.heap.size w w3 := ptrans (ptrans hb hb2) hb3
            clear hwb own2 hov hb hb2 hb3
            go_loopw [10] (fun i wr => ∃ j m : Nat, j ≤ k ∧ i = .int .i64 j ∧ wr = w3.drewN m) (fun i _ => k - (intOf i).toNat)
            case atStart => exact ⟨0, 0, Nat.zero_le _, rfl, rfl⟩
            case round =>
              obtain ⟨j, m, hj, rfl, rfl⟩ := hrel
              by_cases hjk : j < k
              · have q1 : w3.cell? ⟨g3, j, none⟩ = some (.complex .f64 (f3 j).1 (f3 j).2) := row_at own3 hjk (hf3 j hjk).1
                have q2 : w3.cell? ⟨g, j, none⟩ = some (.complex .f64 (fb (vs.getD j (0, 0)).1) (fb (vs.getD j (0, 0)).2)) := row_at hov3 hjk (map_at HL.out hjk)
                obtain ⟨y1, y2⟩ := (hf3 j hjk).2 hjk
                have z1 := ne_of_wh y1 (hwh j hjk).1
                have z2 := ne_of_wh y2 (hwh j hjk).2.1
                clear hf3 hwh own3 hov3 y1 y2
                generalize fb (vs.getD j (0, 0)).1 = X1 at q2 z1
                generalize fb (vs.getD j (0, 0)).2 = X2 at q2 z2
                generalize (f3 j).1 = X3 at q1 z1
                generalize (f3 j).2 = X4 at q1 z2
                go_wp2
                go_quiet (fail)
                go_wp2
                go_roundw
                case rel => exact ⟨j + 1, _, by omega, by go_num, rfl⟩
                case measure => simp [intOf]; omega
              · go_wp2
                go_ret
                exact ⟨rfl, below_drewN hbb _⟩
end Go.Proofs.Ytghhjebacnodcaa
