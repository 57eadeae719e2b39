import Derived.Test.YtnlfgijmkgihcaaDoorPWj
import Derived.Test.YtnlfgijmkgihcaaDoorPSw
namespace Go.Proofs.YtnlfgijmkgihcaaDoor
open Go.RowKit Go.WideShapes Go.Shelf
set_option maxRecDepth 100000

theorem Tryd.infoWd : (Tryd.prog.info? 22).map (fun i => (i.zero, i.size, i.bytes)) = some (some (.int .u32 0), 1, 4) := by kernel_rfl
/-- a list of numbers as values -/
def kvWd (l : List Nat) : List Value := l.map fun (z : Nat) => Value.int .u32 (z : Int)
theorem kvWd_len (l : List Nat) : (kvWd l).length = l.length := by simp [kvWd]
theorem kvWd_append (l m : List Nat) : kvWd (l ++ m) = kvWd l ++ kvWd m := by simp [kvWd]
/-- a list that is read -/
def RdWd (w : World) (ao : Option Addr) (l : List Nat) (B : Nat) : Prop :=
  0 < l.length → ∃ b off, ao = some ⟨b, off, none⟩ ∧ b < B ∧ ∀ j, j < l.length → w.cell? ⟨b, off + j, none⟩ = some (.int .u32 ((l.getD j 0 : Nat) : Int))
theorem RdWd.below {w w' : World} {ao : Option Addr} {l : List Nat} {B : Nat} (h : RdWd w ao l B) (hb : Below B w w') : RdWd w' ao l B := by
  intro hl
  obtain ⟨b, off, e, hlt, hc⟩ := h hl
  exact ⟨b, off, e, hlt, fun j hj => (hb.cell (p := ⟨b, off + j, none⟩) hlt).trans (hc j hj)⟩
theorem ownWd_rd {w : World} {B : Nat} {v : Value} {l : List Nat} (h : w.ownsRow B 22 1 v l.length (kvWd l)) : ∃ ao cap, v = .slice ao l.length cap ∧ l.length ≤ cap ∧ (ao = none → l.length = 0 ∧ cap = 0) ∧ RdWd w ao l w.heap.size := by
  have h' := h
  have hlt := h.lt
  rcases h.2 with ⟨rfl, hz⟩ | ⟨g, cap, cur, rfl, _, _, hc, _⟩
  · exact ⟨none, 0, by rw [hz], by omega, fun _ => ⟨hz, rfl⟩, fun hp => by omega⟩
  · refine ⟨_, cap, rfl, hc, fun e => by (cases e), fun _ => ⟨g, 0, rfl, (hlt g rfl).2, fun j hj => ?_⟩⟩
    rw [Nat.zero_add, h'.cellAt j (by omega)]
    simp [kvWd, hj]
set_option maxHeartbeats 1000000 in
theorem inWd_core (ao : Option Addr) (cap n1 : Nat) (l : List Nat) (x : Nat) (w : World) (hn : l.length ≤ 1048576) (hn1 : n1 ≤ l.length) (h1 : ∀ i, i < n1 → ((l.getD i 0 : Nat) : Int) < x) (h2 : n1 < l.length → (x : Int) ≤ ((l.getD n1 0 : Nat) : Int)) (hr : RdWd w ao l w.heap.size) :
    Calls Tryd.prog 47 #[.slice ao l.length cap, .int .u32 x] w fun e w' => e = .returned (.tuple #[.int .i64 n1, .bool (decide (n1 < l.length ∧ ((l.getD n1 0 : Nat) : Int) = (x : Int)))]) ∧ ∃ m, w' = w.drewN m := by
  go_enter Tryd.func47, Tryd.ntmps47
  go_wp2
  go_loopw [6] (fun i wr => ∃ k : Nat, k ≤ n1 ∧ i = .int .i64 k ∧ wr = w)
    (fun i _ => n1 - (intOf i).toNat)
  case atStart => exact ⟨0, Nat.zero_le _, rfl, rfl⟩
  case round =>
    obtain ⟨k, hk, rfl, hw2⟩ := hrel
    subst hw2
    rename World => w
    by_cases hlt : k < n1
    · obtain ⟨b, off, rfl, hb, hc⟩ := hr (by omega)
      have hck := hc k (by omega)
      have hx := h1 k hlt
      have hkl : (k : Int) < (l.length : Int) := by omega
      generalize l.getD k 0 = y at hck hx
      clear hc h1 h2
      go_wp2
      go_roundw
      case rel => exact ⟨k + 1, by omega, by go_num, by first | rfl | trivial⟩
      case measure => simp [intOf]; omega
    · obtain rfl : k = n1 := by omega
      by_cases hl : k < l.length
      · obtain ⟨b, off, rfl, hb, hc⟩ := hr (by omega)
        have hck := hc k hl
        have hx := h2 hl
        have hkl : (k : Int) < (l.length : Int) := by omega
        obtain ⟨y, hy⟩ : ∃ y, l.getD k 0 = y := ⟨_, rfl⟩
        rw [hy] at hck hx
        have hd0 : decide ((y : Int) < (x : Int)) = false := decide_eq_false (by omega)
        have hnx : ¬ (y : Int) < (x : Int) := by omega
        have HD : Hid (decide (k < l.length ∧ ((l.getD k 0 : Nat) : Int) = (x : Int)) = ((y : Int) == (x : Int))) := hidS (by
          rw [hy, Bool.eq_iff_iff]
          simp [hl])
        clear hc h1 h2 hy
        go_wp2
        go_quiet (fail)
        go_wp2
        go_ret2
        exact ⟨by rw [HD.out]; rfl, _, rfl⟩
      · have hkl : ¬ (k : Int) < (l.length : Int) := by omega
        have hd0 : decide (k < l.length) = false := decide_eq_false hl
        have HD : Hid (decide (k < l.length ∧ ((l.getD k 0 : Nat) : Int) = (x : Int)) = false) := hidS (decide_eq_false (fun e => hl e.1))
        clear h1 h2
        go_wp2
        go_quiet (fail)
        go_wp2
        go_ret2
        exact ⟨by rw [HD.out]; rfl, _, rfl⟩
set_option maxHeartbeats 1000000 in
theorem sameWd_any (ao bo : Option Addr) (ca cb : Nat) (xs ys : List Nat) (w : World) (hn : xs.length ≤ 1048576) (h1 : RdWd w ao xs w.heap.size) (h2 : RdWd w bo ys w.heap.size) :
    Calls Tryd.prog 21 #[.slice ao xs.length ca, .slice bo ys.length cb] w fun e w' => e = .returned (.bool (decide (xs = ys))) ∧ ∃ m, w' = w.drewN m := by
  by_cases hl : xs.length = ys.length
  · rw [← hl]
    have HL := hidS hl
    clear hl
    go_enter Tryd.func21, Tryd.ntmps21
    go_wp2
    go_loopw [5] (fun i wr => ∃ k m : Nat, k ≤ xs.length ∧ i = .int .i64 k ∧ wr = w.drewN m ∧ xs.take k = ys.take k)
      (fun i _ => xs.length - (intOf i).toNat)
    case atStart => exact ⟨0, 0, Nat.zero_le _, rfl, rfl, rfl⟩
    case round =>
      obtain ⟨k, m, hk, rfl, hw2, hpre⟩ := hrel
      have HP := hidS hpre
      clear hpre
      by_cases hlt : k < xs.length
      · obtain ⟨b1, o1, rfl, hb1, hc1⟩ := h1 (by omega)
        obtain ⟨b2, o2, rfl, hb2, hc2⟩ := h2 (by have := HL.out; omega)
        have hck : wr.cell? ⟨b1, o1 + k, none⟩ = some (.int .u32 ((xs.getD k 0 : Nat) : Int)) := by rw [hw2]; exact hc1 k hlt
        have hck2 : wr.cell? ⟨b2, o2 + k, none⟩ = some (.int .u32 ((ys.getD k 0 : Nat) : Int)) := by rw [hw2]; exact hc2 k (by have := HL.out; omega)
        have HW2 := hidS hw2
        clear hw2 hc1 hc2
        have hlt' : (k : Int) < (xs.length : Int) := by omega
        have HT1 := hidS (take_snocN xs k hlt)
        have HT2 := hidS (take_snocN ys k (by have := HL.out; omega))
        by_cases hcc : xs.getD k 0 = ys.getD k 0
        · rw [hcc] at hck HT1
          generalize ys.getD k 0 = c at hck hck2 HT1 HT2
          clear hcc
          go_wp2
          go_quiet (fail)
          go_wp2
          go_roundw
          case rel => exact ⟨k + 1, _, by omega, by go_num, by rw [HW2.out, World.drewN_drewN], by rw [HT1.out, HT2.out, HP.out]⟩
          case measure => simp [intOf]; omega
        · have HN : Hid (decide (xs = ys) = false) := hidS (decide_eq_false (fun e => hcc (by rw [e])))
          generalize ys.getD k 0 = c at hck2 hcc
          generalize xs.getD k 0 = c2 at hck hcc
          clear HT1 HT2 HP
          have hbe : ((c2 : Int) != (c : Int)) = true := by simp; omega
          go_wp2
          go_quiet (fail)
          go_wp2
          go_ret
          exact ⟨by rw [HN.out]; rfl, _, by rw [HW2.out, World.drewN_drewN]⟩
      · have hke : k = xs.length := by omega
        subst hke
        go_wp2
        go_ret
        refine ⟨?_, m, rfl⟩
        have := HP.out
        rw [List.take_length, HL.out, List.take_length] at this
        rw [decide_eq_true this]; rfl
  · have HN : Hid (decide (xs = ys) = false) := hidS (decide_eq_false (fun e => hl (by rw [e])))
    have hbe : ¬ (xs.length : Int) = (ys.length : Int) := by omega
    go_enter Tryd.func21, Tryd.ntmps21
    go_wp2
    go_ret
    exact ⟨by rw [HN.out]; rfl, 0, rfl⟩
theorem own_anyP {w : World} {B e sz n : Nat} {v : Value} {xs : List Value} (h : w.ownsRow B e sz v n xs) : ∃ ao c, v = .slice ao n c := by
  rcases h.2 with ⟨rfl, rfl⟩ | ⟨g, cap, cur, rfl, _⟩
  · exact ⟨none, 0, rfl⟩
  · exact ⟨_, cap, rfl⟩
theorem own_formP {w : World} {B e sz n : Nat} {v : Value} {xs : List Value} (h : w.ownsRow B e sz v n xs) (hn : 0 < n) : ∃ g c, v = .slice (some ⟨g, 0, none⟩) n c ∧ n ≤ c := by
  rcases h.2 with ⟨_, rfl⟩ | ⟨g, cap, cur, rfl, _, _, hc, _⟩
  · omega
  · exact ⟨g, cap, rfl, hc⟩
theorem app_noneP {P : Program} (w : World) (t e : TypeId) (i : TypeInfo) (z : Value) (ht : P.underlying t = some (.slice e)) (hi : P.info? e = some i) (hz : i.zero = some z) (ad : Addr) (n c c2 : Nat) (hnc : n ≤ c) :
    (Builtin.append_ #[t, t] t #[.slice (some ad) n c, .slice none 0 c2]).run P w = .ok (.slice (some ad) n c) w := by
  simp [Builtin.append_, run_underlying ht, sizeOf, typeInfo, zeroValue, hi, hz, Builtin.lenOf, hnc, run_firstCells_none, storeCells]
theorem oneWd_cells (x : Nat) (w : World) : ∀ (j : Nat) (u : Value), [Value.int .u32 (x : Int)][j]? = some u → (w.alloc (Obj.cells #[.int .u32 (x : Int)] 22)).cell? ((⟨w.heap.size, 0, none⟩ : Addr).add j) = some u := by
  intro j u hj
  match j, hj with
  | 0, hj => simp at hj; subst hj; simp [Addr.add]
theorem kvWd_take {l : List Nat} {k j : Nat} {u : Value} (h : (kvWd (l.take k))[j]? = some u) : (kvWd l)[j]? = some u := by
  simp only [kvWd, List.getElem?_map, List.getElem?_take] at h ⊢
  split at h
  · exact h
  · simp at h
theorem kvWd_drop {l : List Nat} {k j : Nat} {u : Value} (h : (kvWd (l.drop k))[j]? = some u) : (kvWd l)[k + j]? = some u := by
  simpa only [kvWd, List.getElem?_map, List.getElem?_drop] using h
theorem kvWd_one {l : List Nat} {u : Value} (h : u ∈ kvWd l) : u.oneCell' = true := by
  simp [kvWd] at h
  obtain ⟨z, _, rfl⟩ := h
  rfl
set_option maxHeartbeats 2000000 in
theorem putWd_nil (x : Nat) (w : World) :
    Calls Tryd.prog 49 #[.slice none 0 0, .int .i64 0, .int .u32 x] w fun e w' => ∃ v, e = .returned v ∧ w'.ownsRow w.heap.size 22 1 v 1 (kvWd [x]) ∧ Below w.heap.size w w' := by
  obtain ⟨i0, hi, hz0, hz1, hz2⟩ := info_parts Tryd.infoWd
  have own0 : w.ownsRow w.heap.size 22 1 (.slice none 0 0) 0 [] := World.ownsRow_nil _ _ _ _
  go_enter Tryd.func49, Tryd.ntmps49
  go_wp2_with (at_builtin; refine wpList_append_own _ rfl _ _ 37 rfl w.heap.size 22 i0 (.int .u32 0) 1 4 Tryd.underlying37 hi hz0 hz1 hz2 rfl (by decide) _ 0 [] rfl (own0.alloc _) ⟨_, 0, none⟩ 1 1 [.int .u32 (x : Int)] rfl rfl ?g1 ?g2 ?g3 ?g4 ?g5 ?_)
  case g1 => exact oneWd_cells x w
  case g2 => intro u hu; simp at hu; subst hu; rfl
  case g3 => decide
  case g4 => decide
  case g5 => simp
  intro v1 w1 own1 hg1 _
  have hB1 : Below w.heap.size w w1 := ((Below.refl _ w).alloc (Nat.le_refl _) _).grown hg1 (by simp) (fun k e => by simp [Value.ownBlock] at e)
  clear hg1 own0
  try simp only [Nat.zero_add, List.nil_append] at own1
  obtain ⟨g1, c1, rfl, hc1⟩ := own_formP own1 (by decide)
  have hnone := app_noneP (P := Tryd.prog) w1 37 22 i0 (.int .u32 0) Tryd.underlying37 hi hz0 ⟨g1, 0, none⟩ 1 c1 0 hc1
  have HO1 := hidS own1
  clear own1
  go_wp2
  go_ret
  exact ⟨_, rfl, HO1.out, hB1⟩
set_option maxHeartbeats 2000000 in
theorem putWd_any (g cap at_ : Nat) (l : List Nat) (x : Nat) (w : World) (hn : l.length ≤ 1048576) (hat : at_ ≤ l.length) (hcap : l.length ≤ cap) (hg : g < w.heap.size) (hr : ∀ j u, (kvWd l)[j]? = some u → w.cell? ((⟨g, 0, none⟩ : Addr).add j) = some u) :
    Calls Tryd.prog 49 #[.slice (some ⟨g, 0, none⟩) l.length cap, .int .i64 at_, .int .u32 x] w fun e w' => ∃ v, e = .returned v ∧ w'.ownsRow w.heap.size 22 1 v (l.length + 1) (kvWd (l.take at_ ++ x :: l.drop at_)) ∧ Below w.heap.size w w' := by
  obtain ⟨i0, hi, hz0, hz1, hz2⟩ := info_parts Tryd.infoWd
  have own0 : w.ownsRow w.heap.size 22 1 (.slice none 0 0) 0 [] := World.ownsRow_nil _ _ _ _
  have HR := hidS hr
  clear hr
  have i1 : (at_ : Int) ≤ (cap : Int) := by omega
  have i2 : (at_ : Int) ≤ (l.length : Int) := by omega
  go_enter Tryd.func49, Tryd.ntmps49
  go_wp2_with (at_builtin; refine wpList_append_own _ rfl _ _ 37 rfl w.heap.size 22 i0 (.int .u32 0) 1 4 Tryd.underlying37 hi hz0 hz1 hz2 rfl (by decide) _ 0 [] rfl own0 ⟨g, 0, none⟩ at_ cap (kvWd (l.take at_)) rfl ?g0 (fun j u hj => HR.out j u (kvWd_take hj)) (fun u hu => kvWd_one hu) ?g3 ?g4 ?g5 ?_)
  case g0 => simp [kvWd]; omega
  case g3 => unfold maxLen; omega
  case g4 => omega
  case g5 => exact Nat.le_refl _
  intro v1 w1 own1 hg1 _
  have hB1 : Below w.heap.size w w1 := (Below.refl _ w).grown hg1 (Nat.le_refl _) (fun k e => by simp [Value.ownBlock] at e)
  clear hg1 own0
  try simp only [Nat.zero_add, List.nil_append] at own1
  obtain ⟨a1, c1, rfl⟩ := own_anyP own1
  go_wp2_with (at_builtin; refine wpList_append_own _ rfl _ _ 37 rfl w.heap.size 22 i0 (.int .u32 0) 1 4 Tryd.underlying37 hi hz0 hz1 hz2 rfl (by decide) _ at_ (kvWd (l.take at_)) rfl (own1.alloc _) ⟨_, 0, none⟩ 1 1 [.int .u32 (x : Int)] rfl rfl ?k1 ?k2 ?k3 ?k4 ?k5 ?_)
  case k1 => exact oneWd_cells x w1
  case k2 => intro u hu; simp at hu; subst hu; rfl
  case k3 => unfold maxLen; omega
  case k4 => omega
  case k5 => have := hB1.size; simp; omega
  intro v2 w2 own2 hg2 _
  have hB2 : Below w.heap.size w w2 := (hB1.alloc hB1.size _).grown hg2 (by have := hB1.size; simp; omega) (fun k e => (own1.lt k e).1)
  clear hg2
  obtain ⟨g2, c2, rfl, hc2⟩ := own_formP own2 (by omega)
  have HB2 := hidS hB2
  have HO2 := hidS own2
  clear own1 hB2
  by_cases hce : cap = at_
  · have e1 : at_ = l.length := by omega
    have e2 : cap = l.length := by omega
    subst e1
    subst e2
    clear hce
    go_wp2_with (at_builtin; refine wpList_append_own _ rfl _ _ 37 rfl w.heap.size 22 i0 (.int .u32 0) 1 4 Tryd.underlying37 hi hz0 hz1 hz2 rfl (by decide) _ (l.length + 1) _ rfl HO2.out ⟨g, 0, none⟩ 0 0 [] rfl rfl (fun j u hj => by simp at hj) (fun u hu => by simp at hu) ?m3 ?m4 ?m5 ?_)
    case m3 => unfold maxLen; omega
    case m4 => omega
    case m5 => exact HB2.out.size
    intro v3 w3 own3 hg3 _
    have HB3 : Hid (Below w.heap.size w w3) := hidS (HB2.out.grown hg3 HB2.out.size (fun k e => (HO2.out.lt k e).1))
    have HO3 : Hid (w3.ownsRow w.heap.size 22 1 v3 (l.length + 1) (kvWd (l.take l.length ++ x :: l.drop l.length))) := hidS (by
      have := own3
      simpa [kvWd] using this)
    obtain ⟨g3, c3, rfl, _⟩ := own_formP own3 (by omega)
    clear hg3 own3 HO2 HB2
    go_wp2
    go_ret
    exact ⟨_, rfl, HO3.out, HB3.out⟩
  · go_wp2_with (at_builtin; refine wpList_append_own _ rfl _ _ 37 rfl w.heap.size 22 i0 (.int .u32 0) 1 4 Tryd.underlying37 hi hz0 hz1 hz2 rfl (by decide) _ (at_ + 1) _ rfl HO2.out ⟨g, at_, none⟩ (l.length - at_) (cap - at_) (kvWd (l.drop at_)) rfl ?m0 (fun j u hj => by
      have := HR.out (at_ + j) u (kvWd_drop hj)
      rw [add_plain, Nat.zero_add] at this
      rw [add_plain]
      exact (HB2.out.cell (p := ⟨g, at_ + j, none⟩) hg).trans this) (fun u hu => kvWd_one hu) ?m3 ?m4 ?m5 ?_)
    case m0 => simp [kvWd]
    case m3 => unfold maxLen; omega
    case m4 => omega
    case m5 => exact HB2.out.size
    intro v3 w3 own3 hg3 _
    have HB3 : Hid (Below w.heap.size w w3) := hidS (HB2.out.grown hg3 HB2.out.size (fun k e => (HO2.out.lt k e).1))
    rw [show at_ + 1 + (l.length - at_) = l.length + 1 by omega] at own3
    have HO3 : Hid (w3.ownsRow w.heap.size 22 1 v3 (l.length + 1) (kvWd (l.take at_ ++ x :: l.drop at_))) := hidS (by
      have e1 : kvWd (l.take at_ ++ x :: l.drop at_) = kvWd (l.take at_) ++ .int .u32 (x : Int) :: kvWd (l.drop at_) := by simp [kvWd]
      have e2 : kvWd (l.take at_ ++ x :: l.drop at_) = kvWd (l.take at_) ++ [.int .u32 (x : Int)] ++ kvWd (l.drop at_) := by simp [kvWd]
      first | (rw [e1]; exact own3) | (rw [e2]; exact own3))
    obtain ⟨g3, c3, rfl, _⟩ := own_formP own3 (by omega)
    clear hg3 own3 HO2 HB2
    go_wp2
    go_ret
    exact ⟨_, rfl, HO3.out, HB3.out⟩
end Go.Proofs.YtnlfgijmkgihcaaDoor
