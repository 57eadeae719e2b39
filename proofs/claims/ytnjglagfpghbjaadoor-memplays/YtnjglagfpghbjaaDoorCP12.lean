import Derived.Test.YtnjglagfpghbjaaDoorCP10
import Derived.Test.YtnjglagfpghbjaaDoorCP7
import Derived.Test.YtnjglagfpghbjaaDoorCP11
import Derived.SizedLaws
import Derived.Test.YtnjglagfpghbjaaDoorCP0
import Derived.Deep.Slices
import Derived.Lib.SmallJoins
import Derived.ChangeMaps5
import Derived.Test.YtnjglagfpghbjaaDoorCards
import Derived.Test.YtnjglagfpghbjaaDoorTie
import Derived.ProofKit
import Derived.OpenShut
import Derived.Lay
import Derived.LaidOnce
import Derived.Lib.LaidU8
import Derived.SevenTiedAt
namespace Go.Proofs.YtnjglagfpghbjaaDoor
open Go.RowKit Go.WideShapes
set_option maxRecDepth 100000

/-- many things change at once, and are given up -/
theorem stt_multi {W W' : World} {M : Col → Pc} {S : Nat → Prop} (c : Nat) (h : ∃ col : Nat → Col, (∀ d, (M d).h (fun k => col k = d) W) ∧ ∀ k, k < W.heap.size → S k → (col k).1 = c) (hk : Kp S W W') : Stt W' (fun d => if d.1 = c then noP else M d) := by
  obtain ⟨col, h, hS⟩ := h
  refine ⟨col, fun d => ?_⟩
  simp only
  split
  · trivial
  · rename_i hd
    refine (M d).fr _ _ _ _ _ (h d) hk (fun k hl hF => ⟨fun hs => hd ?_, hF⟩)
    rw [← hF]; exact hS k hl hs
theorem touch_kp {n : Nat} {vals : Nat → Value} {w w' : World} (h : Touch n vals w w') : Kp (fun k => ∃ i, i < n ∧ (vals i).ownBlock = some k) w w' :=
  ⟨h.os, h.tape, h.output, h.size, fun k hk hn => h.block k hk (fun i hi e => hn ⟨i, hi, e⟩)⟩
def vB (L : List (Value × List Int)) (j : Nat) : Value := (L.getD j (.slice none 0 0, [])).1
def zB (L : List (Value × List Int)) (j : Nat) : List Int := (L.getD j (.slice none 0 0, [])).2
def vT (L : List (Value × List (Int × Bool))) (j : Nat) : Value := (L.getD j (.slice none 0 0, [])).1
def zT (L : List (Value × List (Int × Bool))) (j : Nat) : List (Int × Bool) := (L.getD j (.slice none 0 0, [])).2
theorem vB_get {L : List (Value × List Int)} {j : Nat} (h : j < L.length) : L[j]? = some (vB L j, zB L j) := by
  simp [vB, zB, List.getD, h]
theorem vT_get {L : List (Value × List (Int × Bool))} {j : Nat} (h : j < L.length) : L[j]? = some (vT L j, zT L j) := by
  simp [vT, zT, List.getD, h]
theorem vB_map (L : List (Value × List Int)) : L.map (·.1) = (List.range L.length).map (vB L) := by
  apply List.ext_getElem?
  intro i
  by_cases h : i < L.length
  · have := vB_get h
    simp [h]
    rw [List.getElem?_eq_getElem h] at this
    exact congrArg Prod.fst (Option.some.inj this)
  · rw [List.getElem?_eq_none (by simp; omega), List.getElem?_eq_none (by simp; omega)]
theorem vT_map (L : List (Value × List (Int × Bool))) : L.map (·.1) = (List.range L.length).map (vT L) := by
  apply List.ext_getElem?
  intro i
  by_cases h : i < L.length
  · have := vT_get h
    simp [h]
    rw [List.getElem?_eq_getElem h] at this
    exact congrArg Prod.fst (Option.some.inj this)
  · rw [List.getElem?_eq_none (by simp; omega), List.getElem?_eq_none (by simp; omega)]
/-- the answered bytes, each in memory of its own -/
theorem stt_ownB {W : World} {M : Col → Pc} {o : Nat} {A : Wd} (hS : Stt W M) (hI : Inv o A M) : ∃ lo lc, A.vg = .slice lo A.lg.length lc ∧ OwnL W 0 lo lc A.lg.length (vB A.lg) (zB A.lg) ∧ ∃ col : Nat → Col, (∀ d, (M d).h (fun k => col k = d) W) ∧ ∀ k, k < W.heap.size → (∃ i, i < A.lg.length ∧ (vB A.lg i).ownBlock = some k) → (col k).1 = 4 := by
  have hrow := stt_row hS hI.rg
  obtain ⟨lo, lc, hv⟩ := own_slice hrow
  obtain ⟨col, h⟩ := hS
  have hcol : ∀ i, i < A.lg.length → ∀ k, (vB A.lg i).ownBlock = some k → col k = (4, i) := fun i hi k e => by
    have := h (4, i)
    rw [hI.ig i _ _ (vB_get hi)] at this
    exact this.2 k e
  refine ⟨lo, lc, hv, ⟨?_, fun i hi => ?_, fun i j hi hj hne => ?_⟩, col, h, fun k _ ⟨i, hi, e⟩ => by rw [hcol i hi k e]⟩
  · rw [← hv, ← vB_map]; exact hrow
  · have := h (4, i)
    rw [hI.ig i _ _ (vB_get hi)] at this
    exact this.1
  · cases e : (vB A.lg i).ownBlock with
    | none => exact .inl rfl
    | some k =>
      refine .inr (fun e2 => hne ?_)
      have h1 := hcol i hi k e
      have h2 := hcol j hj k e2.symm
      rw [h1] at h2
      simpa using h2
theorem stt_ownT {W : World} {M : Col → Pc} {A : Wd} (hS : Stt W M) (hrn : M (3, 2) = rowP 40 1 A.vn A.ln.length (A.ln.map (·.1))) (hiN : ∀ (j : Nat) v ts, A.ln[j]? = some (v, ts) → M (6, j) = rowT v ts) : ∃ lo lc, A.vn = .slice lo A.ln.length lc ∧ OwnX W 0 lo lc A.ln.length (vT A.ln) (zT A.ln) ∧ ∃ col : Nat → Col, (∀ d, (M d).h (fun k => col k = d) W) ∧ ∀ k, k < W.heap.size → (∃ i, i < A.ln.length ∧ (vT A.ln i).ownBlock = some k) → (col k).1 = 6 := by
  have hrow := stt_row hS hrn
  obtain ⟨lo, lc, hv⟩ := own_slice hrow
  obtain ⟨col, h⟩ := hS
  have hcol : ∀ i, i < A.ln.length → ∀ k, (vT A.ln i).ownBlock = some k → col k = (6, i) := fun i hi k e => by
    have := h (6, i)
    rw [hiN i _ _ (vT_get hi)] at this
    exact this.2 k e
  refine ⟨lo, lc, hv, ⟨?_, fun i hi => ?_, fun i j hi hj hne => ?_⟩, col, h, fun k _ ⟨i, hi, e⟩ => by rw [hcol i hi k e]⟩
  · rw [← hv, ← vT_map]; exact hrow
  · have := h (6, i)
    rw [hiN i _ _ (vT_get hi)] at this
    exact this.1
  · cases e : (vT A.ln i).ownBlock with
    | none => exact .inl rfl
    | some k =>
      refine .inr (fun e2 => hne ?_)
      have h1 := hcol i hi k e
      have h2 := hcol j hj k e2.symm
      rw [h1] at h2
      simpa using h2
end Go.Proofs.YtnjglagfpghbjaaDoor
namespace Go.Proofs.YtnjglagfpghbjaaDoor
open Go.RowKit Go.WideShapes
set_option maxRecDepth 100000

theorem map2_get {α β : Type} {L K : List (α × β)} (h : L.map (·.2) = K.map (·.2)) {j : Nat} {a b : α × β} (h1 : L[j]? = some a) (h2 : K[j]? = some b) : a.2 = b.2 := by
  have e : (L.map (·.2))[j]? = (K.map (·.2))[j]? := by rw [h]
  rw [List.getElem?_map, List.getElem?_map, h1, h2] at e
  exact Option.some.inj e
theorem row_cell {W : World} {e lo n lc : Nat} {xs : List Value} (h : W.ownsRow 0 e 1 (.slice (some ⟨lo, 0, none⟩) n lc) n xs) (i : Nat) (v : Value) (hv : xs[i]? = some v) : W.cell? ⟨lo, i, none⟩ = some v := own_cx h i v hv
set_option maxHeartbeats 2000000 in
theorem apart_w (o n : Nat) (A : Wd) (M : Col → Pc) (W : World) (hS : Stt W M) (hI : Inv o A M) (hA : WfA A n) (hn : n ≤ 5800000000000) (h7 : M (8, 7) = noP) (h8 : M (8, 8) = noP) :
    Calls Tryd.prog 7 #[.pointer (some ⟨o, 0, none⟩)] W fun e w' => e = .returned (.bool true) ∧ Hid (∃ M', Stt w' M' ∧ M' (9, 0) = M (9, 0)) := by
  obtain ⟨lo, lc, hvg, -, -⟩ := stt_ownB hS hI
  obtain ⟨ko, kc, hvk⟩ := own_slice (stt_row hS hI.rk)
  obtain ⟨mo, mc, hvn, -, -⟩ := stt_ownT hS hI.rn hI.iN
  obtain ⟨wo, wc, hvw⟩ := own_slice (stt_row hS hI.rw)
  rw [hA.kb] at hvk
  rw [hA.kt] at hvw
  have HC := hidS (fun W' (h : Stt W' M) => stt_c8 h hI.obj)
  rw [hvg, hvk, hvn, hvw] at HC
  have HG : Hid (∀ W' i, Stt W' M → i < A.lg.length → ∃ g0, lo = some ⟨g0, 0, none⟩ ∧ W'.cell? ⟨g0, i, none⟩ = some (vB A.lg i)) := fun W' i h hi => by
    have hr := stt_row h hI.rg
    rw [hvg] at hr
    obtain ⟨g0, c0, e0, _⟩ := own_form hr (by omega)
    simp only [Value.slice.injEq, true_and] at e0
    obtain ⟨rfl, rfl⟩ := e0
    refine ⟨g0, rfl, row_cell hr i _ ?_⟩
    rw [List.getElem?_map, vB_get hi]; rfl
  have HK : Hid (∀ W' i, Stt W' M → i < A.lg.length → ∃ g0, ko = some ⟨g0, 0, none⟩ ∧ W'.cell? ⟨g0, i, none⟩ = some (vB A.lk i)) := fun W' i h hi => by
    have hr := stt_row h hI.rk
    rw [hvk, hA.kb] at hr
    obtain ⟨g0, c0, e0, _⟩ := own_form hr (by omega)
    simp only [Value.slice.injEq, true_and] at e0
    obtain ⟨rfl, rfl⟩ := e0
    refine ⟨g0, rfl, row_cell hr i _ ?_⟩
    rw [List.getElem?_map, vB_get (by rw [hA.kb]; exact hi)]; rfl
  have HN : Hid (∀ W' i, Stt W' M → i < A.ln.length → ∃ g0, mo = some ⟨g0, 0, none⟩ ∧ W'.cell? ⟨g0, i, none⟩ = some (vT A.ln i)) := fun W' i h hi => by
    have hr := stt_row h hI.rn
    rw [hvn] at hr
    obtain ⟨g0, c0, e0, _⟩ := own_form hr (by omega)
    simp only [Value.slice.injEq, true_and] at e0
    obtain ⟨rfl, rfl⟩ := e0
    refine ⟨g0, rfl, row_cell hr i _ ?_⟩
    rw [List.getElem?_map, vT_get hi]; rfl
  have HW : Hid (∀ W' i, Stt W' M → i < A.ln.length → ∃ g0, wo = some ⟨g0, 0, none⟩ ∧ W'.cell? ⟨g0, i, none⟩ = some (vT A.lw i)) := fun W' i h hi => by
    have hr := stt_row h hI.rw
    rw [hvw, hA.kt] at hr
    obtain ⟨g0, c0, e0, _⟩ := own_form hr (by omega)
    simp only [Value.slice.injEq, true_and] at e0
    obtain ⟨rfl, rfl⟩ := e0
    refine ⟨g0, rfl, row_cell hr i _ ?_⟩
    rw [List.getElem?_map, vT_get (by rw [hA.kt]; exact hi)]; rfl
  have HSB : Hid (∀ W' i, Stt W' M → i < A.lg.length → Calls Tryd.prog 19 #[vB A.lg i, vB A.lk i] W' fun e w' => e = .returned (.bool true) ∧ Hid (Stt w' M)) := fun W' i h hi => by
    have g1 := vB_get hi
    have g2 := vB_get (L := A.lk) (j := i) (by rw [hA.kb]; exact hi)
    have ez : zB A.lg i = zB A.lk i := map2_get hA.eb g1 g2
    have hl := hA.bb _ (List.mem_of_getElem? g1)
    obtain ⟨a1, c1, q1, r1⟩ := own_reads (stt_row h (hI.ig i _ _ g1))
    obtain ⟨a2, c2, q2, r2⟩ := own_reads (stt_row h (hI.ik i _ _ g2))
    rw [q1, q2]
    rw [← ez] at r2 ⊢
    exact (same_any _ _ _ _ _ _ W' (by simp only at hl; omega) r1 r2).mono fun e w' ⟨he, m, hw⟩ => ⟨by simpa using he, by rw [hw]; exact stt_drewN m h⟩
  have HST : Hid (∀ W' i, Stt W' M → i < A.ln.length → Calls Tryd.prog 10 #[vT A.ln i, vT A.lw i] W' fun e w' => e = .returned (.bool true) ∧ Hid (Stt w' M)) := fun W' i h hi => by
    have g1 := vT_get hi
    have g2 := vT_get (L := A.lw) (j := i) (by rw [hA.kt]; exact hi)
    have ez : zT A.ln i = zT A.lw i := map2_get hA.et g1 g2
    have hl := hA.bt _ (List.mem_of_getElem? g1)
    have r1 := stt_row h (hI.iN i _ _ g1)
    have r2 := stt_row h (hI.iw i _ _ g2)
    rw [← ez] at r2
    obtain ⟨t1, k1, q1⟩ := own_slice r1
    obtain ⟨t2, k2, q2⟩ := own_slice r2
    rw [q1] at r1 ⊢
    rw [q2] at r2 ⊢
    exact (touches_same (zT A.ln i) t1 t2 k1 k2 W' (by simpa using hl) r1 r2).mono fun e w' ⟨he, m, hw⟩ => ⟨he, by rw [hw]; exact stt_drewN m h⟩
  have HAB : Hid (∀ W', Stt W' M → Calls Tryd.prog 22 #[.slice lo A.lg.length lc] W' fun e w' => e = .returned (.bool true) ∧ Hid (Stt w' (fun d => if d.1 = 4 then noP else M d))) := fun W' h => by
    obtain ⟨lo', lc', e1, hO, hcol⟩ := stt_ownB h hI
    rw [hvg] at e1
    simp only [Value.slice.injEq, true_and] at e1
    obtain ⟨rfl, rfl⟩ := e1
    refine (apart_any lo lc A.lg.length 0 (vB A.lg) (zB A.lg) W' (by have := hA.nb; omega) (fun i hi => ?_) (Nat.zero_le _) hO).mono fun e w' ⟨he, ht⟩ => ⟨he, stt_multi 4 hcol (touch_kp ht)⟩
    have := hA.bb _ (List.mem_of_getElem? (vB_get hi))
    simp only at this; omega
  have HAT : Hid (∀ W', Stt W' (fun d => if d.1 = 4 then noP else M d) → Calls Tryd.prog 23 #[.slice mo A.ln.length mc] W' fun e w' => e = .returned (.bool true) ∧ Hid (Stt w' (fun d => if d.1 = 6 then noP else if d.1 = 4 then noP else M d))) := fun W' h => by
    obtain ⟨lo', lc', e1, hO, hcol⟩ := stt_ownT (A := A) h (by simpa using hI.rn) (fun j v ts hj => by simpa using hI.iN j v ts hj)
    rw [hvn] at e1
    simp only [Value.slice.injEq, true_and] at e1
    obtain ⟨rfl, rfl⟩ := e1
    refine (apartT_any mo mc A.ln.length 0 (vT A.ln) (zT A.ln) W' (by have := hA.nt; omega) (fun i hi => ?_) (Nat.zero_le _) hO).mono fun e w' ⟨he, ht⟩ => ⟨he, stt_multi 6 hcol (touch_kp ht)⟩
    have := hA.bt _ (List.mem_of_getElem? (vT_get hi))
    simp only at this; omega
  have HSD : Hid (∀ W', Stt W' (fun d => if d.1 = 6 then noP else if d.1 = 4 then noP else M d) → Calls Tryd.prog 6 #[.pointer (some ⟨o, 0, none⟩)] W' fun e w' => e = .returned (.bool true) ∧ Hid (∃ M', Stt w' M' ∧ M' (9, 0) = M (9, 0))) := fun W' h =>
    (stand_core o A _ W' h (by simpa using hI.obj) (fun i hi => by simpa using hI.seg i hi) (fun i hi => by simpa using hI.ref i hi) (by simpa using h7) (by simpa using h8)).mono fun e w' ⟨he, hq⟩ => ⟨he, _, hq.out, by simp⟩
  have HC1 : Hid (∀ W', Stt W' (fun d => if d.1 = 4 then noP else M d) → W'.cell? ⟨o, 10, none⟩ = some (.slice mo A.ln.length mc)) := fun W' h => by
    have := (stt_c8 (A := A) h (by simpa using hI.obj)).2.2.1
    rw [hvn] at this; exact this
  have hnb := hA.nb
  have hnt := hA.nt
  have HS := hidS hS
  have hlI : (A.lg.length : Int) ≤ 9223372036854775806 := by omega
  have htI : (A.ln.length : Int) ≤ 9223372036854775806 := by omega
  clear hS hI hA h7 h8 hvg hvk hvn hvw hnb hnt hn
  generalize A.lg.length = gl at *
  generalize A.ln.length = nl at *
  go_enter Tryd.func7, Tryd.ntmps7
  go_wp2_with fail
  go_loopw [3] (fun i wr => ∃ k : Nat, k ≤ gl ∧ i = .int .i64 k ∧ Stt wr M) (fun i _ => gl - (intOf i).toNat)
  case atStart => exact ⟨0, Nat.zero_le _, rfl, HS.out⟩
  case round =>
    obtain ⟨k, hk, rfl, hq⟩ := hrel
    obtain ⟨c8, c9, c10, c11, -, -⟩ := HC.out _ hq
    have HQ := hidS hq
    by_cases hlt : k < gl
    · have hkI : (k : Int) < (gl : Int) := by omega
      obtain ⟨g0, rfl, x0⟩ := HG.out _ k hq hlt
      obtain ⟨g1, rfl, x1⟩ := HK.out _ k hq hlt
      clear hq
      have HX : Hid (∀ W', Stt W' M → W'.cell? ⟨o, 8, none⟩ = some (.slice (some ⟨g0, 0, none⟩) gl lc) ∧ W'.cell? ⟨o, 9, none⟩ = some (.slice (some ⟨g1, 0, none⟩) gl kc) ∧ W'.cell? ⟨g0, k, none⟩ = some (vB A.lg k) ∧ W'.cell? ⟨g1, k, none⟩ = some (vB A.lk k)) := fun W' h => by
        obtain ⟨z8, z9, z10, z11, _, _⟩ := HC.out _ h
        obtain ⟨y0, e0, t0⟩ := HG.out _ k h hlt
        obtain ⟨y1, e1, t1⟩ := HK.out _ k h hlt
        simp only [Option.some.injEq, Addr.mk.injEq, and_true] at e0 e1
        subst e0 e1
        exact ⟨z8, z9, t0, t1⟩
      go_wp2_with fail
      go_region_held3 (fun w' => w'.cell? ⟨o, 8, none⟩ = some (.slice (some ⟨g0, 0, none⟩) gl lc) ∧ w'.cell? ⟨o, 9, none⟩ = some (.slice (some ⟨g1, 0, none⟩) gl kc) ∧ w'.cell? ⟨g0, k, none⟩ = some (vB A.lg k) ∧ w'.cell? ⟨g1, k, none⟩ = some (vB A.lk k)) ((first | exact HX.out _ HQ1.out | exact HX.out _ (stt_drew HQ.out))) (first
        | (go_at_call 19; with_reducible refine (HSB.out _ _ (by (repeat (first | exact HQ.out | with_reducible refine stt_drew ?_))) hlt).mono ?_; rintro e w1 ⟨rfl, HQ1⟩)
        | fail)
      go_wp2_with fail
      go_roundw
      case rel => exact ⟨k + 1, by omega, by go_num, HQ1.out⟩
      case measure => simp [intOf]; omega
    · have hkI : ¬ (k : Int) < (gl : Int) := by omega
      clear hq HG HK HSB
      go_wp2_with fail
      clear c8 c9 c10 c11
      go_loopw [4] (fun i wr => ∃ k : Nat, k ≤ nl ∧ i = .int .i64 k ∧ Stt wr M) (fun i _ => nl - (intOf i).toNat)
      case atStart => exact ⟨0, Nat.zero_le _, rfl, HQ.out⟩
      case round =>
        clear HQ
        obtain ⟨k2, hk2, rfl, hq⟩ := hrel
        clear hk hkI
        generalize k2 = k at *
        obtain ⟨c8, c9, c10, c11, -, -⟩ := HC.out _ hq
        have HQ := hidS hq
        by_cases hlt : k < nl
        · have hkI : (k : Int) < (nl : Int) := by omega
          obtain ⟨g0, rfl, x0⟩ := HN.out _ k hq hlt
          obtain ⟨g1, rfl, x1⟩ := HW.out _ k hq hlt
          clear hq
          have HX : Hid (∀ W', Stt W' M → W'.cell? ⟨o, 10, none⟩ = some (.slice (some ⟨g0, 0, none⟩) nl mc) ∧ W'.cell? ⟨o, 11, none⟩ = some (.slice (some ⟨g1, 0, none⟩) nl wc) ∧ W'.cell? ⟨g0, k, none⟩ = some (vT A.ln k) ∧ W'.cell? ⟨g1, k, none⟩ = some (vT A.lw k)) := fun W' h => by
            obtain ⟨z8, z9, z10, z11, _, _⟩ := HC.out _ h
            obtain ⟨y0, e0, t0⟩ := HN.out _ k h hlt
            obtain ⟨y1, e1, t1⟩ := HW.out _ k h hlt
            simp only [Option.some.injEq, Addr.mk.injEq, and_true] at e0 e1
            subst e0 e1
            exact ⟨z10, z11, t0, t1⟩
          go_wp2_with fail
          go_region_held3 (fun w' => w'.cell? ⟨o, 10, none⟩ = some (.slice (some ⟨g0, 0, none⟩) nl mc) ∧ w'.cell? ⟨o, 11, none⟩ = some (.slice (some ⟨g1, 0, none⟩) nl wc) ∧ w'.cell? ⟨g0, k, none⟩ = some (vT A.ln k) ∧ w'.cell? ⟨g1, k, none⟩ = some (vT A.lw k)) ((first | exact HX.out _ HQ1.out | exact HX.out _ (stt_drew HQ.out))) (first
            | (go_at_call 10; with_reducible refine (HST.out _ _ (by (repeat (first | exact HQ.out | with_reducible refine stt_drew ?_))) hlt).mono ?_; rintro e w1 ⟨rfl, HQ1⟩)
            | fail)
          go_wp2_with fail
          go_roundw
          case rel => exact ⟨k + 1, by omega, by go_num, HQ1.out⟩
          case measure => simp [intOf]; omega
        · have hkI : ¬ (k : Int) < (nl : Int) := by omega
          clear hq HN HW HST
          go_wp2_with (first
            | (go_at_call 22; with_reducible refine (HAB.out _ HQ.out).mono ?_; rintro e w1 ⟨rfl, HQ1⟩; have d10 := HC1.out _ HQ1.out)
            | (go_at_call 23; with_reducible refine (HAT.out _ HQ1.out).mono ?_; rintro e w2 ⟨rfl, HQ2⟩)
            | (go_at_call 6; with_reducible refine (HSD.out _ HQ2.out).mono ?_; rintro e w3 ⟨rfl, HQ3⟩)
            | fail)
          go_ret
          exact ⟨rfl, HQ3⟩
end Go.Proofs.YtnjglagfpghbjaaDoor
namespace Go.Proofs.YtnjglagfpghbjaaDoor
open Go.RowKit Go.WideShapes
set_option maxRecDepth 100000

theorem mid_outp {o n : Nat} {w0 w : World} (h : Mid o w0 n w) : ∃ A M, Stt w M ∧ Inv o A M ∧ WfA A n ∧ M (9, 0) = outP w0 ∧ ∀ j, M (8, j) = noP := h
theorem stpr_readsp {w : World} {so : Option Addr} {L : List Stp} {B : Nat} (h : StpsR w so L B) (j : Nat) (hj : j < L.length) : Reads w L[j].da L[j].dz B := by
  obtain ⟨_, _, _, _, _, h2⟩ := h j hj
  exact h2
theorem stand_midp (o n : Nat) (w0 W : World) (h : Mid o w0 n W) : Calls Tryd.prog 6 #[.pointer (some ⟨o, 0, none⟩)] W fun e w' => e = .returned (.bool true) ∧ Hid (Mid o w0 n w') := by
  obtain ⟨A, M, q1, q2, q3, q4, q5⟩ := h
  exact (stand_any o A M W q1 q2 (q5 7) (q5 8)).mono fun e w' ⟨he, hq⟩ => ⟨he, A, M, hq.out, q2, q3, q4, q5⟩
theorem apart_midp (o n : Nat) (w0 W : World) (h : Mid o w0 n W) (hn : n ≤ 5800000000000) : Calls Tryd.prog 7 #[.pointer (some ⟨o, 0, none⟩)] W fun e w' => e = .returned (.bool true) ∧ Hid (Below w0.heap.size w0 w') := by
  obtain ⟨A, M, q1, q2, q3, q4, q5⟩ := h
  exact (apart_w o n A M W q1 q2 q3 hn (q5 7) (q5 8)).mono fun e w' ⟨he, hq⟩ => ⟨he, by
    obtain ⟨M', p1, p2⟩ := hq.out
    exact stt_out p1 (p2.trans q4)⟩
theorem mid_below {o n : Nat} {w0 w w' : World} (h : Mid o w0 n w) (hb : Below w.heap.size w w') : Mid o w0 n w' := by
  obtain ⟨A, M, q1, q2, q3, q4, q5⟩ := h
  exact ⟨A, M, stt_below q1 hb, q2, q3, q4, q5⟩
set_option maxHeartbeats 4000000 in
theorem memplays_any (so : Option Addr) (sc : Nat) (L : List Stp) (W : World) (hT : TabA W) (h1 : 1 < W.heap.size) (hL : StpsR W so L W.heap.size) (hok : ∀ s ∈ L, StpQ s) (hn : L.length ≤ 2600000000000) :
    Calls Tryd.prog 3 #[.slice so L.length sc] W fun e w' => e = .returned (.bool true) ∧ Below W.heap.size W w' := by
  have HF := hidS (fun W' (h : Mid W.heap.size W 0 W') => step_first W.heap.size W W' h hT h1)
  have HL := hidS hL
  have HOK := hidS hok
  have HN := hidS hn
  have HT := hidS hT
  have H1 := hidS h1
  have HI0 := hidS (fun b => mid_below (mid_init W) ((Below.refl _ _).alloc (Nat.le_refl _) b))
  have HST := hidS (fun n W' (h : Mid W.heap.size W n W') => stand_midp W.heap.size n W W' h)
  have HAP := hidS (fun n W' (h : Mid W.heap.size W n W') (hn : n ≤ 5800000000000) => apart_midp W.heap.size n W W' h hn)
  clear hT h1 hL hok hn
  go_enter Tryd.func3, Tryd.ntmps3
  go_wp2_with (first
    | (go_at_call 5; with_reducible refine (HF.out _ (HI0.out _)).mono ?_; rintro e w1 ⟨rfl, a1, HQ1, hv1⟩)
    | fail)
  clear HI0 HF
  have HLEN := hidS (show (L.length : Int) ≤ 9223372036854775807 by have := HN.out; omega)
  go_loopw [19] (fun i wr => ∃ k : Nat, k ≤ L.length ∧ i = .int .i64 k ∧ Mid W.heap.size W (2 + 2 * k) wr) (fun i _ => L.length - (intOf i).toNat)
  case atStart => exact ⟨0, Nat.zero_le _, rfl, HQ1.out⟩
  case round =>
    obtain ⟨k, hk, rfl, hmid⟩ := hrel
    have HMID := hidS hmid
    obtain ⟨A, M, p1, p2, p3, p4, p5⟩ := mid_outp hmid
    clear hmid
    by_cases hlt : k < L.length
    · have hltI : (k : Int) < (L.length : Int) := by omega
      have hnI := HLEN.out
      have hbl := stt_out p1 p4
      obtain ⟨b1, off, rfl, hb1, hat, hda⟩ := (HL.out.below hbl) k hlt
      have hda0 := stpr_readsp HL.out k hlt
      have HDA := hidS hda0
      have HSQ := hidS (HOK.out _ (List.getElem_mem hlt))
      clear hda hda0 hbl
      generalize L[k] = s at *
      obtain ⟨e0, e1, e2, e3, e4, e5, e6, e7⟩ := hat
      have HS6 : Hid (Calls Tryd.prog 5 #[.pointer (some ⟨W.heap.size, 0, none⟩), .agg #[.int .u8 s.d, .int .u8 s.a, .int .u8 s.b, .int .u32 s.at_, .int .u32 s.v, .int .i64 s.n, .bool s.on, .slice s.da s.dz.length s.dc]] (wr.alloc (.cells #[.int .u8 s.d, .int .u8 s.a, .int .u8 s.b, .int .u32 s.at_, .int .u32 s.v, .int .i64 s.n, .bool s.on, .slice s.da s.dz.length s.dc] 34)) fun e w' => e = .returned (.bool true) ∧ Hid (Mid W.heap.size W (2 + 2 * k + 2) w')) :=
        step_loc W.heap.size (2 + 2 * k) s W _ A (upd M (8, 0) (objP wr.heap.size (stpC s) 34)) (stt_stp (8, 0) s p1) (inv_far p2) p3 ((upd_ne (by simp)).trans p4) (fun j hj => (upd_ne (by simp; omega)).trans (p5 j)) (by have := HN.out; omega) HSQ.out (make_all s HSQ.out) HDA.out HT.out H1.out
      clear p1 p2 p3 p4 p5 HSQ HDA HMID
      go_wp2_with (first
        | (go_at_call 5; with_reducible refine (HS6.out).mono ?_; rintro e w4 ⟨rfl, HQ4⟩)
        | fail)
      go_roundw
      case rel => exact ⟨k + 1, by omega, by go_num, HQ4.out⟩
      case measure => simp [intOf]; omega
    · have hltI : ¬ (k : Int) < (L.length : Int) := by omega
      have HK2 := hidS (show 2 + 2 * k ≤ 5800000000000 by have := HN.out; omega)
      clear p1 p2 p3 p4 p5
      go_wp2_with (first
        | (go_at_call 6; with_reducible refine (HST.out _ _ HMID.out).mono ?_; rintro e w8 ⟨rfl, HQ8⟩)
        | (go_at_call 7; with_reducible refine (HAP.out _ _ HQ8.out HK2.out).mono ?_; rintro e w9 ⟨rfl, HQ9⟩)
        | fail)
      go_ret
      exact ⟨rfl, HQ9.out⟩
end Go.Proofs.YtnjglagfpghbjaaDoor
namespace Go.Proofs.YtnjglagfpghbjaaDoor
open Go.ChangeShapes Go.WideShapes Go.ChangeAt Go.RowKit Go.Joins Go.Deep
set_option maxRecDepth 100000

theorem weightsAll_mq {H : Type} {P : Program} {e : TypeId} {d : DataW H} {L : List (DataW H)} (hd : d ∈ L) {m : Nat} (hm : m ∈ d.weights P e) : m ∈ DataW.weightsAll P e L := by
  induction L with
  | nil => cases hd
  | cons x L ih =>
    simp only [DataW.weightsAll, List.mem_append]
    rcases List.mem_cons.1 hd with rfl | h
    · exact .inl hm
    · exact .inr (ih h)
theorem Tryd.cells8q : Tryd.prog.cellsOf 34 = 8 := by kernel_rfl
theorem elem8q {H : Type} {enc : TypeId × Value → H} {P : Program} {w : World} {base : Nat} {spare : Nat → Bool} {held : Bool} {e : TypeId} {f0 f1 f2 f3 f4 f5 f6 f7 : Field} {n : Nat} {cs : List Value} {x : DataW H × List MemPlace} (he : P.underlying e = some (.struct #[f0, f1, f2, f3, f4, f5, f6, f7])) (hone : oneCellFields P #[f0, f1, f2, f3, f4, f5, f6, f7] = true) (hl : cs.length = 8) (h : DataW.trod enc P w base spare held n e cs = some x) :
    ∃ (v0 v1 v2 v3 v4 v5 v6 v7 : Value) (y0 y1 y2 y3 y4 y5 y6 y7 : DataW H × List MemPlace) (k : Nat), cs = [v0, v1, v2, v3, v4, v5, v6, v7] ∧ (x.1 = .agg [y0.1, y1.1, y2.1, y3.1, y4.1, y5.1, y6.1, y7.1] ∧ ∀ z ∈ y7.2, z ∈ x.2) ∧ DataW.trod enc P w base spare held k f0.type [v0] = some y0 ∧ DataW.trod enc P w base spare held k f1.type [v1] = some y1 ∧ DataW.trod enc P w base spare held k f2.type [v2] = some y2 ∧ DataW.trod enc P w base spare held k f3.type [v3] = some y3 ∧ DataW.trod enc P w base spare held k f4.type [v4] = some y4 ∧ DataW.trod enc P w base spare held k f5.type [v5] = some y5 ∧ DataW.trod enc P w base spare held k f6.type [v6] = some y6 ∧ DataW.trod enc P w base spare held k f7.type [v7] = some y7 := by
  obtain ⟨xs, k, _, rfl, _, hlen, hf⟩ := DataW.trod_struct he h
  match xs, hlen, cs, hl with
  | [y0, y1, y2, y3, y4, y5, y6, y7], _, [v0, v1, v2, v3, v4, v5, v6, v7], _ =>
    have h0 := hf 0 f0 rfl
    obtain ⟨o0, k0⟩ := hone_of hone 0 f0 rfl
    rw [o0, k0] at h0
    have h1 := hf 1 f1 rfl
    obtain ⟨o1, k1⟩ := hone_of hone 1 f1 rfl
    rw [o1, k1] at h1
    have h2 := hf 2 f2 rfl
    obtain ⟨o2, k2⟩ := hone_of hone 2 f2 rfl
    rw [o2, k2] at h2
    have h3 := hf 3 f3 rfl
    obtain ⟨o3, k3⟩ := hone_of hone 3 f3 rfl
    rw [o3, k3] at h3
    have h4 := hf 4 f4 rfl
    obtain ⟨o4, k4⟩ := hone_of hone 4 f4 rfl
    rw [o4, k4] at h4
    have h5 := hf 5 f5 rfl
    obtain ⟨o5, k5⟩ := hone_of hone 5 f5 rfl
    rw [o5, k5] at h5
    have h6 := hf 6 f6 rfl
    obtain ⟨o6, k6⟩ := hone_of hone 6 f6 rfl
    rw [o6, k6] at h6
    have h7 := hf 7 f7 rfl
    obtain ⟨o7, k7⟩ := hone_of hone 7 f7 rfl
    rw [o7, k7] at h7
    exact ⟨v0, v1, v2, v3, v4, v5, v6, v7, y0, y1, y2, y3, y4, y5, y6, y7, k, rfl, ⟨rfl, fun z hz => by simp [hz]⟩, by simpa using h0, by simpa using h1, by simpa using h2, by simpa using h3, by simpa using h4, by simpa using h5, by simpa using h6, by simpa using h7⟩
theorem nat_ofq {z : Int} {m : Int} (h : 0 ≤ z ∧ z ≤ m) : ∃ n : Nat, z = n ∧ (n : Int) ≤ m := by
  obtain ⟨n, rfl⟩ := Int.eq_ofNat_of_zero_le h.1
  exact ⟨n, rfl, h.2⟩
theorem step_openq {H : Type} {enc : TypeId × Value → H} {W : World} {n b off i : Nat} {cs : List Value} {x : DataW H × List MemPlace} (h1 : W.cells? 0 ((⟨b, off, none⟩ : Addr).add (i * 8)) 8 = some cs) (h : DataW.trod enc Tryd.prog W 0 (fun _ => true) true n 34 cs = some x) (hlt : ∀ z ∈ x.2, z.block < W.heap.size) (hw : ∀ m ∈ x.1.weights Tryd.prog 34, m ≤ reachBytes) :
    ∃ s : Stp, StpAt W b (off + i * 8) s ∧ StpQ s ∧ Reads W s.da s.dz W.heap.size := by
  obtain ⟨_, hlen, hcell⟩ := World.cells?_some h1
  obtain ⟨v0, v1, v2, v3, v4, v5, v6, v7, y0, y1, y2, y3, y4, y5, y6, y7, k, rfl, ⟨hx1, hp⟩, t0, t1, t2, t3, t4, t5, t6, t7⟩ := elem8q Tryd.underlying34 (by kernel_rfl) hlen h
  have hc : ∀ j, j < 8 → W.cell? ⟨b, off + i * 8 + j, none⟩ = [v0, v1, v2, v3, v4, v5, v6, v7][j]? := fun j hj => by
    have := hcell j (by omega)
    rw [Go.Deep.add_add, Go.WideShapes.add_plain] at this
    rw [Nat.add_assoc, this]
  obtain ⟨z0, e0, _, w0⟩ := DataW.trod_int Tryd.underlying5 t0
  obtain ⟨z1, e1, _, w1⟩ := DataW.trod_int Tryd.underlying5 t1
  obtain ⟨z2, e2, _, w2⟩ := DataW.trod_int Tryd.underlying5 t2
  obtain ⟨z3, e3, _, w3⟩ := DataW.trod_int Tryd.underlying31 t3
  obtain ⟨z4, e4, _, w4⟩ := DataW.trod_int Tryd.underlying31 t4
  obtain ⟨z5, e5, _, w5⟩ := DataW.trod_int Tryd.underlying3 t5
  obtain ⟨z6, e6, _⟩ := DataW.trod_bool Tryd.underlying4 t6
  obtain ⟨ao, cap, zs, e7, hcp, hwf, hr, hdd⟩ := bytes_cells (d := y7.1) (p := y7.2) t7 (fun z hz => hlt z (hp z hz))
  simp only [List.cons.injEq, and_true] at e0 e1 e2 e3 e4 e5 e6 e7
  subst e0 e1 e2 e3 e4 e5 e6 e7
  obtain ⟨n0, rfl, b0⟩ := nat_ofq (byte_wf w0)
  obtain ⟨n1, rfl, b1⟩ := nat_ofq (byte_wf w1)
  obtain ⟨n2, rfl, b2⟩ := nat_ofq (byte_wf w2)
  obtain ⟨n3, rfl, b3⟩ := nat_ofq (word_wf w3)
  obtain ⟨n4, rfl, b4⟩ := nat_ofq (word_wf w4)
  have b5 := int_wf w5
  refine ⟨⟨n0, n1, n2, n3, n4, z5, z6, ao, cap, zs⟩, ⟨(hc 0 (by decide)).trans rfl, (hc 1 (by decide)).trans rfl, (hc 2 (by decide)).trans rfl, (hc 3 (by decide)).trans rfl, (hc 4 (by decide)).trans rfl, (hc 5 (by decide)).trans rfl, (hc 6 (by decide)).trans rfl, (hc 7 (by decide)).trans rfl⟩, ⟨⟨by simp only; omega, by simp only; omega, by simp only; omega, b5.1, b5.2, hcp, hwf⟩, by simp only; omega, by simp only; omega, ?_⟩, hr⟩
  simp only
  rcases hdd with ⟨_, rfl⟩ | ⟨sp, hd⟩
  · exact Nat.zero_le _
  · have hm : (zs.length + sp.length) * Tryd.prog.bytesOf 5 ∈ x.1.weights Tryd.prog 34 := by
      rw [hx1]
      unfold DataW.weights
      rw [Tryd.underlying34]
      refine DataW.weights_mem_each (j := 7) (t := 32) (d := y7.1) rfl rfl _ ?_
      rw [hd]
      simp [DataW.weights, Tryd.underlying32, lits]
    have := hw _ hm
    rw [show Tryd.prog.bytesOf 5 = 1 by kernel_rfl] at this
    unfold reachBytes at this
    omega
theorem steps_openq {H : Type} {enc : TypeId × Value → H} {W : World} {a0 : Option Addr} {len cap : Nat} {d : DataW H} {p : List MemPlace}
    (h : DataW.Trod enc Tryd.prog W 0 (fun _ => true) true 22 (.slice a0 len cap) d p) (hlt : ∀ x ∈ p, x.block < W.heap.size) (hw : ∀ m ∈ d.weights Tryd.prog 22, m ≤ reachBytes) :
    ∃ L : List Stp, L.length = len ∧ StpsR W a0 L W.heap.size ∧ (∀ s ∈ L, StpQ s) ∧ L.length ≤ 2600000000000 := by
  obtain ⟨fuel, hf⟩ := h
  rcases Go.Deep.open_slice Tryd.underlying22 hf with ⟨hcs, hx⟩ | ⟨a, len', cap', m, n, D, Pl, hcs, _, hl, hm, hmm, hx, hel⟩
  · simp [Value.cells] at hcs
    obtain ⟨rfl, rfl, rfl⟩ := hcs
    exact ⟨[], rfl, fun j hj => by simp at hj, fun s hs => by simp at hs, by simp⟩
  · simp only [Prod.mk.injEq] at hx
    obtain ⟨rfl, rfl⟩ := hx
    simp [Value.cells] at hcs
    obtain ⟨rfl, rfl, rfl⟩ := hcs
    simp only [if_true] at hmm
    subst hmm
    rw [Tryd.cells8q] at hel hlt
    have hwe : ∀ i, i < len → ∀ m ∈ (D i).weights Tryd.prog 34, m ≤ reachBytes := fun i hi m hm => hw m (by
      simp only [DataW.weights, Tryd.underlying22]
      exact List.mem_cons_of_mem _ (List.mem_append_left _ (weightsAll_mq (List.mem_map.2 ⟨i, List.mem_range.2 hi, rfl⟩) hm)))
    have hwl : len * 56 ≤ reachBytes := by
      have hw2 := hw
      simp only [DataW.weights, Tryd.underlying22] at hw2
      have := hw2 _ List.mem_cons_self
      rw [show Tryd.prog.bytesOf 34 = 56 by kernel_rfl] at this
      simp at this
      omega
    by_cases hz : len = 0
    · subst hz
      exact ⟨[], rfl, fun j hj => by simp at hj, fun s hs => by simp at hs, by simp⟩
    obtain ⟨b, off, spot⟩ := a
    obtain ⟨cs0, g0, _⟩ := hel 0 (by omega)
    have hspot : spot = none := by
      obtain ⟨_, hl0, hc0⟩ := World.cells?_some g0
      have := hc0 0 (by omega)
      rw [List.getElem?_eq_getElem (by omega)] at this
      simpa [Addr.add] using World.cell?_spot this
    subst hspot
    have hbW : b < W.heap.size := hlt (.cell b off) (List.mem_append_left _ (MemPlace.mem_row.2 ⟨0, by omega, by simp⟩))
    have each : ∀ i, i < len → ∃ s : Stp, StpAt W b (off + i * 8) s ∧ StpQ s ∧ Reads W s.da s.dz W.heap.size := fun i hi => by
      obtain ⟨cs', g1, g2⟩ := hel i (by omega)
      exact step_openq g1 g2 (fun z hz => hlt z (List.mem_append_right _ (List.mem_flatMap.2 ⟨i, List.mem_range.2 (by omega), hz⟩))) (hwe i hi)
    obtain ⟨f, hfx⟩ : ∃ f : Nat → Stp, ∀ i, i < len → StpAt W b (off + i * 8) (f i) ∧ StpQ (f i) ∧ Reads W (f i).da (f i).dz W.heap.size :=
      ⟨fun i => if hi : i < len then (each i hi).choose else ⟨0, 0, 0, 0, 0, 0, false, none, 0, []⟩, fun i hi => by simp only [hi, dite_true]; exact (each i hi).choose_spec⟩
    refine ⟨(List.range len).map f, by simp, ?_, ?_, by unfold reachBytes at hwl; simp; omega⟩
    · intro j hj
      have hj' : j < len := by simpa using hj
      have e : ((List.range len).map f)[j] = f j := by simp
      rw [e]
      exact ⟨b, off, rfl, hbW, (hfx j hj').1, (hfx j hj').2.2⟩
    · intro s hs
      obtain ⟨i, hi, rfl⟩ := List.mem_map.1 hs
      exact (hfx i (List.mem_range.1 hi)).2.1
end Go.Proofs.YtnjglagfpghbjaaDoor
namespace Go.Proofs.YtnjglagfpghbjaaDoor
open Go.ChangeShapes Go.WideShapes Go.ChangeAt Go.RowKit
set_option maxRecDepth 100000

theorem tab_reads {P : Program} {W : World} {name : String} {k : IntKind} {zs : List Int} {g : Nat} {t e : TypeId} {n : Nat}
    (hg : P.globalNamed name = some g) (hty : (P.globals[g]?).map (·.type) = some t) (ht : P.underlying t = some (.array n e)) (he : P.underlying e = some (.int k)) (hce : P.cellsOf e = 1) (hct : P.cellsOf t = n)
    (h : Lib.VarReads P W name (Lib.tabData k zs)) : Lib.TabIs P W name k zs := by
  obtain ⟨g', t', cs, fuel, p, hg', ht', hvar, hd⟩ := h
  obtain rfl := Option.some.inj (hg.symm.trans hg')
  obtain rfl := Option.some.inj (hty.symm.trans ht')
  unfold Lib.TabIs
  rw [hvar, ← Lib.cells_of_tab ht he hce hct hd]
abbrev laid2 : List (String × DataW Unit) := [("math/bits.deBruijn32tab", Rows.laid_math_bits_deBruijn32tab), ("math/bits.deBruijn64tab", Rows.laid_math_bits_deBruijn64tab)]
theorem cell_pos {w : World} {i : Nat} {v : Value} (h : w.cell? ⟨1, i, none⟩ = some v) : 1 < w.heap.size := by
  by_cases hp : 1 < w.heap.size
  · exact hp
  · have : w.heap[1]? = none := Array.getElem?_eq_none (by omega)
    simp [World.cell?, this] at h
theorem tab_laid {W : World} (h : laidMetH Tryd.prog laid2 W) : TabA W := by
  rw [MakeChecks.laidMetH_plain _ _ _ (by kernel_rfl)] at h
  have r1 : Lib.VarReads Tryd.prog W "math/bits.deBruijn64tab" (Lib.tabData .u8 [0, 1, 56, 2, 57, 49, 28, 3, 61, 58, 42, 50, 38, 29, 17, 4, 62, 47, 59, 36, 45, 43, 51, 22, 53, 39, 33, 30, 24, 18, 12, 5, 63, 55, 48, 27, 60, 41, 37, 16, 46, 35, 44, 21, 52, 32, 23, 11, 54, 26, 40, 15, 34, 20, 31, 10, 25, 14, 19, 9, 13, 8, 7, 6]) := Lib.laidMet.reads h (.tail _ (.head _))
  have t1 := tab_reads (g := 1) (t := 93) (e := 5) (n := 64) (by kernel_rfl) (by kernel_rfl) Tryd.underlying93 Tryd.underlying5 (by kernel_rfl) (by kernel_rfl) r1
  exact ⟨t1.cell (g := 1) (by kernel_rfl) 61 (by decide), t1.cell (g := 1) (by kernel_rfl) 59 (by decide), t1.cell (g := 1) (by kernel_rfl) 55 (by decide), t1.cell (g := 1) (by kernel_rfl) 47 (by decide), t1.cell (g := 1) (by kernel_rfl) 30 (by decide), t1.cell (g := 1) (by kernel_rfl) 60 (by decide), t1.cell (g := 1) (by kernel_rfl) 57 (by decide), t1.cell (g := 1) (by kernel_rfl) 51 (by decide), t1.cell (g := 1) (by kernel_rfl) 39 (by decide)⟩
theorem memplays_lifted (os : Os) (started : os.Started) (H : Type) (enc : TypeId × Value → H) :
    ReturnsInHanded {} Tryd.checked os 3 .any (fun w args => (Rows.memPlaysSpec.pre enc Tryd.prog Tryd.f3 [] false w args ∧ laidMetH Tryd.prog laid2 w) ∧ sizedMet enc Tryd.prog Tryd.f3 (OpenSpec.ofChange Rows.memPlaysSpec) false w args)
      (Rows.memPlaysSpec.post enc Tryd.prog Tryd.f3 false true false false) := by
  refine returnsInHanded_of_change_and (C := Tryd.checked) (X := fun w _ => laidMetH Tryd.prog laid2 w) (fun _ _ _ hh h => h.of_heap hh) Tryd.own started (by kernel_rfl) Tryd.func3
    (ChangeSpec.witness_shaped (enc := enc) (C := Tryd.checked) (os := os) (X := fun w _ => laidMetH Tryd.prog laid2 w) false (World.laidAll Tryd.prog os laid2) #[.slice none 0 0] 8 (World.laidAll_os _ _ _)
      (World.shaped_of_ZipB (by kernel_rfl) (by kernel_rfl)) (by kernel_rfl) (by kernel_rfl) (by kernel_rfl)
      (by rw [MakeChecks.laidMetH_plain _ _ _ (by kernel_rfl)]; exact laidMet_laidAll _ (by kernel_rfl) (by kernel_rfl))) ?_
  intro W base args ds gs before hval0 hW _ hsz0 hL _
  have hsz : (DataW.weightsEach Tryd.prog (Tryd.f3.params.toList ++ Rows.memPlaysSpec.plain.varTypes Tryd.prog) (ds ++ gs)).all (· ≤ reachBytes) = true := hsz0
  have hW' := hW
  obtain ⟨p, q, hA0, hV, rfl, _, _⟩ := hW
  have hval : ∀ (j : Nat) t v, Tryd.f3.params[j]? = some t → args[j]? = some v → Value.okWide Tryd.prog W .any base t v := hval0
  have hA : DataW.TrodAll enc Tryd.prog W 0 (fun _ => true) true Tryd.f3.params.toList args.toList ds p := hA0
  rw [Tryd.params3] at hA hval hsz
  obtain ⟨v0, vs0, d0, ds0, p0, q0, hargs, rfl, rfl, h0, r0⟩ := trodAll_cons hA
  obtain ⟨rfl, rfl, rfl⟩ := trodAll_nil r0
  obtain rfl : args = #[v0] := by cases args; simp_all
  obtain ⟨rfl, rfl⟩ := trodVars_none hV
  obtain ⟨a0, len0, cap0, rfl⟩ := okWide_slice Tryd.underlying22 (hval 0 22 v0 rfl rfl)
  clear hA0 hval0 hsz0
  simp only [List.append_nil] at hW' hsz
  have hlt0 : ∀ x ∈ p0, x.block < W.heap.size := fun x hx => by simpa using hW'.lt x (by simp [hx])
  have hw0 : ∀ m ∈ d0.weights Tryd.prog 22, m ≤ reachBytes := fun m hm => by
    have := List.all_eq_true.1 hsz _ (DataW.weights_mem_each (j := 0) (t := 22) (d := d0) rfl rfl m hm)
    simpa using this
  obtain ⟨L, rfl, g1, g2, g3⟩ := steps_openq h0 hlt0 hw0
  have hT := tab_laid hL
  refine (memplays_any a0 cap0 L W hT (cell_pos hT.t8) g1 g2 g3).mono fun e W' ⟨he, hnx⟩ => ?_
  subst he
  have hback0 : DataW.Trod enc Tryd.prog W' 0 (fun b => decide (b < W.heap.size)) true 22 (.slice a0 L.length cap0) d0 p0 :=
    Below.trod Tryd.laidOut (by kernel_rfl) (of_decide_eq_true (by kernel_rfl)) h0 hnx hlt0
  refine ⟨_, rfl, _, _, _, [], (p0 ++ []), [], hW', ?_, ?_, rfl, hnx.frame _, fun h => by cases h⟩
  · exact trodAll_cons_mk (shut_bool Tryd.underlying4 _) trodAll_mk0
  · exact trodAll_cons_mk hback0 trodAll_mk0
theorem memplays_row : Rows.MemPlaysSaid :=
  OpenClaim.holds_of_wide 3 Tryd.f3 rfl rfl rfl rfl rfl rfl rfl ⟨rfl, rfl, rfl, rfl, rfl⟩ rfl rfl rfl rfl rfl (by kernel_rfl) Tryd.func3 (by kernel_rfl)
    (of_decide_eq_true (by kernel_rfl)) (by unfold Func.isWrapper; first | (rw [if_pos (by decide +kernel)]; kernel_rfl) | (rw [if_neg (by decide +kernel)]; exact ⟨rfl, rfl⟩))
    (fun os started H enc _ => memplays_lifted os started H enc)
theorem memplays_holds : Rows.MemPlaysCardSaid :=
  Claim7.holds_tied_plain_at .later [] [.data, .data] true (true, "de986c267998a7e1c17991007bbe58b634d83a9f70109dc04a3819843e274912") false
    memplays_row (fun _ h => by cases h) (by kernel_rfl) (fun _ h => by cases h) memPlays_row_tie rfl ⟨rfl, rfl⟩ (by kernel_rfl) rfl
    (fun f fn hf hfn => by
      obtain rfl : f = 3 := Option.some.inj ((show Tryd.prog.funcNamed "playpen/playpenlaw09.MemPlays" = some 3 by kernel_rfl).symm.trans hf) |>.symm
      obtain rfl : fn = Tryd.f3 := (Option.some.inj (Tryd.func3.symm.trans hfn)).symm
      exact ⟨by kernel_rfl, fun j t ht => by
        rw [Tryd.params3] at ht
        have hm : t ∈ [22] := by simpa using Array.mem_of_getElem? ht
        have hall : ([22].all fun u => !Tryd.prog.wantsStandIn u) = true := by kernel_rfl
        exact (show Tryd.prog.wantsStandIn t = false by simpa using List.all_eq_true.1 hall t hm)⟩)
    (by kernel_rfl)
end Go.Proofs.YtnjglagfpghbjaaDoor
