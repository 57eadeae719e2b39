import Derived.Test.YtgbpfejodpplbaaGreatDoorCPFa
import Derived.Test.YtgbpfejodpplbaaGreatDoorCPFi
import Derived.Test.YtgbpfejodpplbaaGreatDoorRows
import Derived.Test.YtgbpfejodpplbaaGreatDoorCIOps
namespace Go.Proofs.YtgbpfejodpplbaaGreatDoor
open Go.RowKit Go.WideShapes Go.Shelf
set_option maxRecDepth 100000

set_option maxHeartbeats 1000000 in
theorem pproc_in {B pp p1 g1 p2 g2 n : Nat} {lv : Value} {Ps : List (Nat × Nat × Nat)} {A C : List Nat} (i : Nat) (w : World) (hi : i < Ps.length) (h : PrS w B pp p1 g1 p2 g2 n lv Ps A C) :
    Calls Tryz.prog 79 #[.pointer (some ⟨pp, 0, none⟩), .int .i64 i] w fun e w' => e = .returned (.tuple #[.agg #[.int .u32 ((Ps.getD i (0, 0, 0)).1 : Nat), .int .u32 ((Ps.getD i (0, 0, 0)).2.1 : Nat), .int .u32 ((Ps.getD i (0, 0, 0)).2.2 : Nat), .int .i64 0], .bool true]) ∧ Below w.heap.size w w' := by
  obtain ⟨ao, cap, rfl, hr⟩ := h.reads
  obtain ⟨b, off, rfl, hb, hc⟩ := hr (by omega)
  have HM := hidS (fun W hb => pcount_any pp Ps.length cap (some ⟨b, off, none⟩) W (h.below hb).c0 (h.below hb).c1)
  have HCL : Hid (∀ o, (w.alloc o).cell? ⟨pp, 1, none⟩ = some (.slice (some ⟨b, off, none⟩) Ps.length cap)) := hidS (fun o => (h.below (belP (Below.refl _ _))).c1)
  obtain ⟨v0, v1, v2, v3⟩ := hc i hi
  obtain ⟨pb, pe, pf, hq⟩ : ∃ pb pe pf, Ps.getD i (0, 0, 0) = (pb, pe, pf) := ⟨_, _, _, rfl⟩
  rw [hq] at v0 v1 v2 ⊢
  have HV : Hid (∀ o, (w.alloc o).cell? ⟨b, off + i * 4, none⟩ = some (.int .u32 (pb : Int)) ∧ (w.alloc o).cell? ⟨b, off + i * 4 + 1, none⟩ = some (.int .u32 (pe : Int)) ∧ (w.alloc o).cell? ⟨b, off + i * 4 + 2, none⟩ = some (.int .u32 (pf : Int)) ∧ (w.alloc o).cell? ⟨b, off + i * 4 + 3, none⟩ = some (.int .i64 0)) := hidS (fun o => by
    have hw : Below w.heap.size w (w.alloc o) := belP (Below.refl _ _)
    exact ⟨(hw.cell (p := ⟨b, off + i * 4, none⟩) hb).trans v0, (hw.cell (p := ⟨b, off + i * 4 + 1, none⟩) hb).trans v1, (hw.cell (p := ⟨b, off + i * 4 + 2, none⟩) hb).trans v2, (hw.cell (p := ⟨b, off + i * 4 + 3, none⟩) hb).trans v3⟩)
  have k0 := fun o => (HV.out o).1
  have k1 := fun o => (HV.out o).2.1
  have k2 := fun o => (HV.out o).2.2.1
  have k3 := fun o => (HV.out o).2.2.2
  have kl := HCL.out
  have h0I : ¬ (i : Int) < 0 := by omega
  have h1I : (i : Int) < (Ps.length : Int) := by omega
  have h2I : ¬ (Ps.length : Int) ≤ (i : Int) := by omega
  clear hr hc h v0 v1 v2 v3 hq
  go_enter Tryz.func79, Tryz.ntmps79
  go_wp2_with (go_at_call 98; refine (HM.out _ (belP (Below.refl _ _))).mono ?_; rintro e w2 ⟨rfl, hw2⟩; have hw2 := hw2.symm; subst hw2)
  exact bodyPost_ret (v := .tuple #[.agg #[.int .u32 (pb : Int), .int .u32 (pe : Int), .int .u32 (pf : Int), .int .i64 0], .bool true]) (by simp [results, Tryz.f79, go_sem]) rfl ⟨rfl, belP (Below.refl _ _)⟩
theorem pproc_out {B pp p1 g1 p2 g2 n : Nat} {lv : Value} {Ps : List (Nat × Nat × Nat)} {A C : List Nat} (i : Int) (w : World) (hi : i < 0 ∨ (Ps.length : Int) ≤ i) (h : PrS w B pp p1 g1 p2 g2 n lv Ps A C) :
    Calls Tryz.prog 79 #[.pointer (some ⟨pp, 0, none⟩), .int .i64 i] w fun e w' => e = .returned (.tuple #[.agg #[.int .u32 0, .int .u32 0, .int .u32 0, .int .i64 0], .bool false]) ∧ Below w.heap.size w w' := by
  obtain ⟨ao, cap, rfl, hr⟩ := h.reads
  have HM := hidS (fun W hb => pcount_any pp Ps.length cap ao W (h.below hb).c0 (h.below hb).c1)
  clear hr h
  by_cases h0 : i < 0
  · go_enter Tryz.func79, Tryz.ntmps79
    go_wp2_with (go_at_call 98; refine (HM.out _ (belP (Below.refl _ _))).mono ?_; rintro e w2 ⟨rfl, hw2⟩; have hw2 := hw2.symm; subst hw2)
    exact bodyPost_ret (v := .tuple #[.agg #[.int .u32 0, .int .u32 0, .int .u32 0, .int .i64 0], .bool false]) (by simp [results, Tryz.f79, go_sem]) rfl ⟨rfl, belP (Below.refl _ _)⟩
  · have h1 : (Ps.length : Int) ≤ i := by omega
    go_enter Tryz.func79, Tryz.ntmps79
    go_wp2_with (go_at_call 98; refine (HM.out _ (belP (Below.refl _ _))).mono ?_; rintro e w2 ⟨rfl, hw2⟩; have hw2 := hw2.symm; subst hw2)
    exact bodyPost_ret (v := .tuple #[.agg #[.int .u32 0, .int .u32 0, .int .u32 0, .int .i64 0], .bool false]) (by simp [results, Tryz.f79, go_sem]) rfl ⟨rfl, belP (Below.refl _ _)⟩
end Go.Proofs.YtgbpfejodpplbaaGreatDoor
namespace Go.Proofs.YtgbpfejodpplbaaGreatDoor
open Go.RowKit Go.WideShapes Go.Shelf
set_option maxRecDepth 100000
attribute [local go_sem] Oper.semAt_some

theorem Tryz.infoD : (Tryz.prog.info? 25).map (fun i => (i.zero, i.size, i.bytes)) = some (some (.int .u32 0), 1, 4) := by kernel_rfl
/-- words as values -/
def dv (J : List Nat) : List Value := J.map fun (z : Nat) => Value.int .u32 (z : Int)
theorem dv_snoc (J : List Nat) (x : Nat) : dv (J ++ [x]) = dv J ++ [.int .u32 (x : Int)] := by simp [dv]
set_option maxHeartbeats 1000000 in
theorem ptargets_in {B pp p1 g1 p2 g2 n : Nat} {lv : Value} {Ps : List (Nat × Nat × Nat)} {A C : List Nat} (i : Nat) (w : World) (hi : i < Ps.length) (hn : n ≤ 16384) (hPe : (Ps.getD i (0, 0, 0)).1 ≤ n ∧ (Ps.getD i (0, 0, 0)).2.1 ≤ n) (hT : TabW w) (h : PrS w B pp p1 g1 p2 g2 n lv Ps A C) :
    Calls Tryz.prog 52 #[.pointer (some ⟨pp, 0, none⟩), .int .i64 i] w fun e w' => ∃ v, e = .returned v ∧ w'.ownsRow w.heap.size 25 1 v (rng (hasW C) (Ps.getD i (0, 0, 0)).1 (Ps.getD i (0, 0, 0)).2.1).length (dv (rng (hasW C) (Ps.getD i (0, 0, 0)).1 (Ps.getD i (0, 0, 0)).2.1)) ∧ Below w.heap.size w w' := by
  have HPR := pproc_in i w hi h
  obtain ⟨pb, pe, pf, hq⟩ : ∃ pb pe pf, Ps.getD i (0, 0, 0) = (pb, pe, pf) := ⟨_, _, _, rfl⟩
  rw [hq] at HPR hPe ⊢
  simp only at HPR hPe ⊢
  clear hq
  have HH : Hid (∀ W, Below w.heap.size w W → Calls Tryz.prog 71 #[.pointer (some ⟨p2, 0, none⟩)] W fun e w' => e = .returned (.slice (some ⟨g2, 0, none⟩) C.length C.length) ∧ w' = W) := hidS (fun W hW => held_any p2 g2 n _ C W (h.below hW).s2)
  have HC3 : Hid (∀ W, Below w.heap.size w W → W.cell? ⟨pp, 3, none⟩ = some (.pointer (some ⟨p2, 0, none⟩))) := hidS (fun W hW => (h.below hW).c3)
  have hp : 0 < w.heap.size := hT.pos
  have HWS : Hid (∀ W, Below w.heap.size w W → Ws W (some ⟨g2, 0, none⟩) C w.heap.size ∧ TabW W) := hidS (fun W hW => ⟨fun _ => ⟨g2, 0, rfl, h.s2.ltg, fun j hj => by rw [Nat.zero_add]; exact (h.below hW).s2.word hj⟩, hT.below hW hp⟩)
  have HCl := hidS h.s2.len
  have hCw := h.s2.wf
  clear h hT
  refine (callsIn_wide (n := 30)).1 ?_
  refine callsIn_of_wp_marks Tryz.func52 rfl trivial ?_ rfl
  simp only [Tryz.ntmps52, List.size_toArray, List.length_cons, List.length_nil, Nat.reduceAdd, Nat.reduceSub, Array.replicate_succ, Array.replicate_zero, List.push_toArray, List.append_toArray, List.nil_append, List.cons_append]
  gi_wp2_with ((first | refine ⟨trivial, fun _ => by omega, ?_⟩ | refine ⟨trivial, ?_⟩); gi_at_call 79; refine (callsIn_wide.2 HPR).mono ?_; rintro en w1 ⟨rfl, hb1⟩)
  obtain ⟨W2, hW2⟩ : ∃ W, (w1.alloc (Obj.cells #[.int .u32 (pb : Int), .int .u32 (pe : Int), .int .u32 (pf : Int), .int .i64 0] 94)).alloc (Obj.cells #[.slice none 0 0] 23) = W := ⟨_, rfl⟩
  have hbW : Below w.heap.size w W2 := by rw [← hW2]; exact belP (belP hb1)
  have bT : Boxed W2 (w1.heap.size + 1) 23 (.slice none 0 0) := by
    have := Boxed.new (w1.alloc (Obj.cells #[.int .u32 (pb : Int), .int .u32 (pe : Int), .int .u32 (pf : Int), .int .i64 0] 94)) 23 (.slice none 0 0)
    rw [World.size_alloc, hW2] at this
    exact this
  have oP : W2.heap[w1.heap.size]? = some (Obj.cells #[.int .u32 (pb : Int), .int .u32 (pe : Int), .int .u32 (pf : Int), .int .i64 0] 94) := by
    rw [← hW2, Below.heap_alloc _ _ _ (by simp)]
    exact heap_alloc_new _ _
  have hz2 : W2.heap.size = w1.heap.size + 2 := by rw [← hW2]; simp
  rw [hW2]
  obtain ⟨kP, hkP⟩ : ∃ k, w1.heap.size = k := ⟨_, rfl⟩
  have hz1 := hb1.size
  rw [hkP] at bT oP hz2 hz1 ⊢
  have HZ2 := hidS hz2
  have HK1 : Hid (W2.heap.size = kP + 2) := hidS hz2
  clear hW2 hkP hb1 HPR hz2
  have c0 := (obj_cell oP 0).trans rfl
  have c1 := (obj_cell oP 1).trans rfl
  have c3 := HC3.out W2 hbW
  refine with_tmpsP fun T0 hT0 => ?_
  have HT0 := hidS hT0
  clear hT0
  refine wpIn_mono (Q := fun e a V => e = .normal ∧ ∃ Wd : World, Below W2.heap.size W2 Wd ∧ V = ((Wd.alloc (.cells #[.slice (some ⟨g2, 0, none⟩) C.length C.length] 143)).alloc (.cells #[.int .i64 (pb : Int)] 3)).alloc (.cells #[.int .i64 (pe : Int)] 3) ∧
    a = { tmps := (((((((((((T0.setIfInBounds 17 (.pointer (some ⟨pp, 0, none⟩))).setIfInBounds 18 (.pointer (some ⟨pp, 0, none⟩))).setIfInBounds 19 (.pointer (some ⟨pp, 3, none⟩))).setIfInBounds 20 (.pointer (some ⟨p2, 0, none⟩))).setIfInBounds 21 (.slice (some ⟨g2, 0, none⟩) C.length C.length)).setIfInBounds 22 (.pointer (some ⟨kP, 0, none⟩))).setIfInBounds 23 (.int .u32 (pb : Int))).setIfInBounds 24 (.int .i64 (pb : Int))).setIfInBounds 25 (.pointer (some ⟨kP, 1, none⟩))).setIfInBounds 26 (.int .u32 (pe : Int))).setIfInBounds 27 (.int .i64 (pe : Int))).setIfInBounds 28 (.func (.func 96) #[] #[.pointer (some ⟨Wd.heap.size, 0, none⟩), .pointer (some ⟨Wd.heap.size + 1, 0, none⟩), .pointer (some ⟨Wd.heap.size + 2, 0, none⟩)]), defers := [] }) ?region ?rest
  case region =>
    rw [HT0.out]
    refine wpIn_wide.2 ?_
    have hAw := hidS (fun (W : World) => withinuint32_any (some ⟨g2, 0, none⟩) C.length C.length (pb : Int) (pe : Int) W)
    have hpb : pb < 4294967296 := by omega
    have hpe : pe < 4294967296 := by omega
    have hwb : IntKind.i64.wrap (pb : Int) = (pb : Int) := by rw [IntKind.wrap_i64]; omega
    have hwe : IntKind.i64.wrap (pe : Int) = (pe : Int) := by rw [IntKind.wrap_i64]; omega
    have HW := hidS (And.intro hwb hwe)
    clear hwb hwe
    have HHd : Hid (Calls Tryz.prog 71 #[.pointer (some ⟨p2, 0, none⟩)] W2.drew fun e w' => e = .returned (.slice (some ⟨g2, 0, none⟩) C.length C.length) ∧ w' = W2.drew) := hidS (HH.out W2.drew (below_drewN hbW 1))
    have HBd : Hid (Below W2.heap.size W2 W2.drew) := hidS (below_drewN (Below.refl _ _) 1)
    have HKS : Hid (∀ V, Below W2.heap.size W2 V → V.cell? ⟨pp, 3, none⟩ = some (.pointer (some ⟨p2, 0, none⟩)) ∧ V.cell? ⟨kP, 0, none⟩ = some (.int .u32 (pb : Int)) ∧ V.cell? ⟨kP, 1, none⟩ = some (.int .u32 (pe : Int))) := hidS (fun V hV => ⟨HC3.out V (btP hbW hV), (hV.cell (p := ⟨kP, 0, none⟩) (Array.getElem?_eq_some_iff.1 oP).1).trans c0, (hV.cell (p := ⟨kP, 1, none⟩) (Array.getElem?_eq_some_iff.1 oP).1).trans c1⟩)
    go_region_held3 (fun V => V.cell? ⟨pp, 3, none⟩ = some (.pointer (some ⟨p2, 0, none⟩)) ∧ V.cell? ⟨kP, 0, none⟩ = some (.int .u32 (pb : Int)) ∧ V.cell? ⟨kP, 1, none⟩ = some (.int .u32 (pe : Int))) (first | exact HKS.out _ HBd.out | exact HKS.out _ (below_drewN (belP (belP (belP (Below.refl _ _)))) 1)) (first
      | (go_at_call 71; with_reducible refine HHd.out.mono ?_; rintro e w3 ⟨rfl, hw3⟩; subst hw3)
      | (go_at_call 72; rw [HW.out.1, HW.out.2]; with_reducible refine (hAw.out _).mono ?_; rintro e w4 ⟨rfl, hw4⟩))
    all_goals exact ⟨rfl, W2.drew, HBd.out, rfl, rfl⟩
  case rest =>
    rintro e a V ⟨rfl, Wd, hbd, rfl, rfl⟩
    obtain ⟨i0, hi0, hy0, hy1, hy2⟩ := info_parts Tryz.infoD
    rw [HT0.out]
    simp only [List.setIfInBounds_toArray, List.set_cons_succ, List.set_cons_zero]
    gi_wp2
    obtain ⟨W4, hW4⟩ : ∃ W, ((Wd.alloc (.cells #[.slice (some ⟨g2, 0, none⟩) C.length C.length] 143)).alloc (.cells #[.int .i64 (pb : Int)] 3)).alloc (.cells #[.int .i64 (pe : Int)] 3) = W := ⟨_, rfl⟩
    have hd4 : Below W2.heap.size W2 W4 := by rw [← hW4]; exact belP (belP (belP hbd))
    have hb4 : Below w.heap.size w W4 := btP hbW hd4
    have hz4 : W4.heap.size = Wd.heap.size + 3 := by rw [← hW4]; simp
    have bT4 := box_thru hd4 bT
    have HI4 : InP C Wd.heap.size (Wd.heap.size + 1) (Wd.heap.size + 2) (some ⟨g2, 0, none⟩) C.length pb pe w.heap.size W4 := by
      refine ⟨?_, ?_, ?_, (HWS.out W4 hb4).1, (HWS.out W4 hb4).2⟩
      · rw [← hW4]
        exact ((Boxed.new Wd _ _).alloc _).alloc _
      · have := (Boxed.new (Wd.alloc (.cells #[.slice (some ⟨g2, 0, none⟩) C.length C.length] 143)) 3 (.int .i64 (pb : Int))).alloc (.cells #[.int .i64 (pe : Int)] 3)
        rw [World.size_alloc, hW4] at this
        exact this
      · have := Boxed.new ((Wd.alloc (.cells #[.slice (some ⟨g2, 0, none⟩) C.length C.length] 143)).alloc (.cells #[.int .i64 (pb : Int)] 3)) 3 (.int .i64 (pe : Int))
        rw [World.size_alloc, World.size_alloc, hW4] at this
        exact this
    rw [hW4]
    obtain ⟨Bw, hBw⟩ : ∃ k, Wd.heap.size = k := ⟨_, rfl⟩
    have hzd := hbd.size
    have hz22 := HZ2.out
    rw [hBw] at HI4 hz4 hzd ⊢
    clear hW4 hBw hbd
    have hCl := HCl.out
    have hlC : C.length ≤ 16384 := by omega
    have h64 : n ≤ 64 * C.length := by omega
    have HIN : Hid (∀ V, Kp (fun k => k = kP + 1) W4 V → InP C Bw (Bw + 1) (Bw + 2) (some ⟨g2, 0, none⟩) C.length pb pe w.heap.size V) := hidS (fun V hk => by
      have hbv : Below w.heap.size w V := hb4.trans (hk.below hb4.size (fun i e => by omega))
      refine ⟨(hk.block Bw HI4.bw.lt (by omega)).trans HI4.bw, (hk.block (Bw + 1) HI4.bf.lt (by omega)).trans HI4.bf, (hk.block (Bw + 2) HI4.be.lt (by omega)).trans HI4.be, (HWS.out V hbv).1, (HWS.out V hbv).2⟩)
    have HSQ : Hid (SeqOwn Fence.wide (30 - 1) Tryz.prog 96 #[.pointer (some ⟨Bw, 0, none⟩), .pointer (some ⟨Bw + 1, 0, none⟩), .pointer (some ⟨Bw + 2, 0, none⟩)] encuint32 (KeP C Bw (Bw + 1) (Bw + 2) (some ⟨g2, 0, none⟩) C.length pb pe w.heap.size) (fun ys => ys = rng (hasW C) pb pe) (fun pre => pre <+: rng (hasW C) pb pe) 1048577 W4) := hidS (sequint32 (30 - 1) (by decide) Bw (Bw + 1) (Bw + 2) w.heap.size (some ⟨g2, 0, none⟩) C.length pb pe C W4 hlC hCw (by omega) (by omega) HI4 hb4.size (by omega))
    have hrl : (rng (hasW C) pb pe).length ≤ 16384 := Nat.le_trans (rng_len _ _ _) (by omega)
    refine with_tmpsP fun T hT2 => ?_
    have HT := hidS hT2
    clear hT2 hCl
    refine range_outer (F := Fence.wide) rfl (by decide) (gf := 96) (lb := #[.pointer (some ⟨Bw, 0, none⟩), .pointer (some ⟨Bw + 1, 0, none⟩), .pointer (some ⟨Bw + 2, 0, none⟩)]) (by rw [HT.out]; rfl) trivial (enters_of Tryz.func96 (by kernel_rfl) rfl)
      HSQ.out KeP_t (KeP_b (w := W4)) (Below.refl _ _) (fun _ => rfl)
      (fun pre U => Kp (fun k => k = kP + 1) W4 U ∧ ∃ lv, Boxed U (kP + 1) 23 lv ∧ U.ownsRow W4.heap.size 25 1 lv pre.length (dv pre))
      (fun c pre U => False)
      (fun s A C row h hg hr => by
        obtain ⟨g1, lv, g2, g3⟩ := h
        refine ⟨g1.trans (Kp.ofGrown (S := fun k => W4.heap.size ≤ k) hg (fun i e _ => (hr i e).1)) (fun i hi e => by omega), lv, low_kept g2 (by omega) hg hr, (Kp.ofGrown (S := fun k => row = some k) hg (fun i e _ => e)).own g3 (fun k e q => ?_)⟩
        obtain ⟨_, o, ho, hc⟩ := hr k q
        rcases g3.2 with hn | ⟨g', cap', cur', e1, e2, e3, e4⟩
        · rw [hn.1] at e
          cases e
        · rw [e1] at e
          cases e
          rw [e3] at ho
          cases ho
          cases hc)
      (fun c s A C row h hg hr => h)
      ⟨Kp.refl _ _, .slice none 0 0, bT4, World.ownsRow_nil _ _ _ _⟩
      (fun x a' U => a' = { tmps := ((((#[29] : Array Tmp).zip (encuint32 x)).foldl (fun t (p, v) => t.setIfInBounds p v) T).setIfInBounds 8 (.int .u32 x)), defers := [] })
      (fun x a' => Own.from (fun t A C row h hg hr => h) _)
      ?assign ?body ?done (fun D c pre W _ _ h _ => h.elim)
    case assign =>
      intro l0 pre x V K hI hK
      have HF := hidS (fun a' (ha : _) => hK a' V (Upon.refl _ V) (fun y => y) hI ha)
      clear hK hI
      rw [HT.out]
      gi_wp2
      exact HF.out _ (by rw [HT.out]; simp)
    case body =>
      rintro l0 pre x a' U hl0 hrec ⟨h1, lv, h2, h3⟩ rfl hln hsp
      have hpl : pre.length + 1 ≤ 16384 := by
        have := hsp.length_le
        simp at this
        omega
      obtain ⟨la, lc, hlv⟩ : ∃ la lc, lv = .slice la pre.length lc := by
        rcases h3.2 with ⟨hn, hz⟩ | ⟨g', cap', cur', e1, e2⟩
        · exact ⟨none, 0, by rw [hn, hz]⟩
        · exact ⟨_, _, e1⟩
      subst hlv
      have cT := h2.cell
      have cT' := fun o => (h2.alloc o).cell
      have H1 := hidS h1
      have H2 := hidS h2
      have H3 := hidS h3
      clear h1 h2 hrec hln hsp
      rw [HT.out]
      gi_wp2_with (gi_at_builtin; refine wpListIn_append_own _ rfl _ _ 23 rfl W4.heap.size 25 i0 (.int .u32 0) 1 4 Tryz.underlying23 hi0 hy0 hy1 hy2 rfl (by decide) _ _ _ rfl (h3.alloc _) ⟨_, 0, none⟩ 1 1 [.int .u32 x] rfl rfl ?g1 ?g2 ?g3 ?g4 ?g5 ?_)
      case g1 =>
        intro j u hj
        match j, hj with
        | 0, hj => simp at hj; subst hj; simp [Addr.add]
      case g2 => intro u hu; simp at hu; subst hu; rfl
      case g3 => unfold maxLen; omega
      case g4 => omega
      case g5 => have := H1.out.size; simp; omega
      intro v' W1 own1 hg1 _
      obtain ⟨g, gc, hv'⟩ : ∃ g gc, v' = .slice (some ⟨g, 0, none⟩) (pre.length + 1) gc := by
        rcases own1.2 with ⟨_, hz⟩ | ⟨g', cap', cur', e1, _⟩
        · omega
        · exact ⟨_, _, e1⟩
      subst hv'
      have hkW : Kp (fun k => (Value.slice la pre.length lc).ownBlock = some k) U W1 := (Kp.alloc U _).trans (Kp.ofGrown (S := fun k => (Value.slice la pre.length lc).ownBlock = some k) hg1 (fun i e _ => e)) (fun _ _ q => q)
      have hlo : ∀ k, (Value.slice la pre.length lc).ownBlock = some k → W4.heap.size ≤ k ∧ ∃ o : Obj, U.heap[k]? = some o ∧ o.isCells = true := fun k e => by
        refine ⟨(H3.out.lt k e).1, ?_⟩
        rcases H3.out.2 with hn | ⟨g', cap', cur', e1, e2, e3, e4⟩
        · rw [hn.1] at e
          cases e
        · rw [e1] at e
          cases e
          exact ⟨_, e3, rfl⟩
      have lT : kP + 1 < W4.heap.size := by omega
      have bT1 : Boxed W1 (kP + 1) 23 (.slice la pre.length lc) := (hkW.block (kP + 1) H2.out.lt (fun e => by have := (hlo _ e).1; omega)).trans H2.out
      have c4 := bT1.cell
      have f4 := bT1.frozen
      have HKW := hidS (And.intro hkW hlo)
      have HO1 := hidS (And.intro own1 bT1)
      clear hkW hlo own1 hg1 cT cT'
      gi_wp2
      have hk2 : Kp (fun k => k = kP + 1) W4 (W1.setCell ⟨kP + 1, 0, none⟩ (.slice (some ⟨g, 0, none⟩) (pre.length + 1) gc)) := (H1.out.trans HKW.out.1 (fun i hi e => by have := (HKW.out.2 i e).1; omega)).trans (Kp.setCell (S := fun k => k = kP + 1) _ _ _ rfl) (fun _ _ q => q)
      have upV : Upon W4.heap.size U W1 := ⟨HKW.out.1.size, fun k o _ hk hc => (HKW.out.1.block k (Array.getElem?_eq_some_iff.1 hk).1 (fun e => by
        obtain ⟨_, o2, e2, e3⟩ := HKW.out.2 k e
        rw [hk] at e2
        cases e2
        rw [hc] at e3
        cases e3)).trans hk⟩
      refine ⟨upV.trans (Upon.setCell _ _ _), fun _ => HIN.out _ hk2, hk2, _, HO1.out.2.set _, ?_⟩
      rw [List.length_append, dv_snoc, hz4]
      exact ownsRow_setCell_below (a := ⟨kP + 1, 0, none⟩) HO1.out.1 (by show kP + 1 < _; omega) _
    case done =>
      rintro D1 xs U hD hS ⟨h1, lv2, h2, h3⟩ hd
      subst hS
      obtain ⟨la, lc, hlv⟩ : ∃ la lc, lv2 = .slice la (rng (hasW C) pb pe).length lc := by
        rcases h3.2 with ⟨hn, hz⟩ | ⟨g', cap', cur', e1, e2⟩
        · exact ⟨none, 0, by rw [hn, hz]⟩
        · exact ⟨_, _, e1⟩
      subst hlv
      have cT := h2.cell
      have H1 := hidS h1
      have H3 := hidS h3
      have HD := hidS (And.intro hd hD)
      clear h1 h2 h3 hd hD
      rw [HT.out]
      gi_wp2
      refine ⟨by simp, .inl ⟨_, _, rfl, run_takeDeferred HD.out.1, ?_⟩⟩
      have hkp : Kp (fun k => W4.heap.size ≤ k ∧ ∃ o : Obj, U.heap[k]? = some o ∧ o.isCells = false) U (U.putObj D1 (.deferred none)) := Kp.ofGrown (grownBy_putObj' _ D1 (.deferred none)) (fun i e _ => by cases e; exact ⟨HD.out.2, _, HD.out.1, rfl⟩)
      refine ⟨.slice la (rng (hasW C) pb pe).length lc, ?_, _, rfl, own_base (hkp.own H3.out (fun k e q => ?_)) hb4.size, ?_⟩
      · simp [results, Tryz.f52, go_sem]
      · obtain ⟨_, o, ho, hc⟩ := q
        rcases H3.out.2 with hn | ⟨g', cap', cur', e1, e2, e3, e4⟩
        · rw [hn.1] at e
          cases e
        · rw [e1] at e
          cases e
          rw [e3] at ho
          cases ho
          cases hc
      · have hk := H1.out.trans hkp (fun i hi e => by omega)
        exact hb4.trans (hk.below hb4.size (fun i e => by omega))
end Go.Proofs.YtgbpfejodpplbaaGreatDoor
namespace Go.Proofs.YtgbpfejodpplbaaGreatDoor
open Go.RowKit Go.WideShapes Go.Shelf
set_option maxRecDepth 100000

theorem fdG_not {L : List (Nat × Nat)} {J : List Nat} {M : List (ByteArray × Nat)} {i x : Nat} (h : FdG L J M) (hb : FdB L J M i x) : x = 0 := by
  rcases hb with ⟨h1, _⟩ | ⟨_, h1, _⟩ | ⟨_, _, h1⟩ | ⟨_, _, _, h1⟩ | ⟨_, _, _, _, h1⟩
  · exact absurd h.enc h1
  · rw [h.fst] at h1
    cases h1
  · rcases h1 with ⟨_, h2, _⟩ | ⟨_, k, h3, h4, h5, h6, _⟩
    · exact h2
    · rw [← h6]
      exact h.ck k h3 i h4 h5
  · rcases h1 with ⟨_, h2, _⟩ | ⟨_, h3, h4, _⟩
    · exact h2
    · rw [h.jm i h3] at h4
      cases h4
  · rcases h1 with ⟨_, h2, _⟩ | ⟨_, h3, h4, _⟩
    · exact h2
    · rw [h.nm i h3] at h4
      cases h4
/-- the same, by reckoning -/
def ckAll (L : List (Nat × Nat)) : Bool := (List.range (prL L).length).all fun k => (List.range' ((prL L).getD k (0, 0, 0)).1 (((prL L).getD k (0, 0, 0)).2.1 - ((prL L).getD k (0, 0, 0)).1)).all fun j => errP L ((prL L).getD k (0, 0, 0)) j == 0
theorem ckAll_ok {L : List (Nat × Nat)} (h : ckAll L = true) : ∀ k, k < (prL L).length → OkP L (prL L) k := by
  intro k hk j h1 h2
  have := List.all_eq_true.1 (List.all_eq_true.1 h k (List.mem_range.2 hk)) j (List.mem_range'_1.2 ⟨h1, by omega⟩)
  exact eq_of_beq this
theorem fdG_of {L : List (Nat × Nat)} {J : List Nat} {M : List (ByteArray × Nat)} (h1 : encX L = 0) (h2 : isEn L 0 = true) (h3 : ckAll L = true) (h4 : ((List.range J.length).all fun j => okJ L J j) = true) (h5 : ((List.range M.length).all fun j => okN L M j) = true) : FdG L J M :=
  ⟨h1, h2, ckAll_ok h3, fun j hj => List.all_eq_true.1 h4 j (List.mem_range.2 hj), fun j hj => List.all_eq_true.1 h5 j (List.mem_range.2 hj)⟩
def codeV (L : List (Nat × Nat)) : Array Value := (cv L).toArray
theorem cv_all : ∀ (L : List (Nat × Nat)) (m : Nat), m < L.length → (cv L)[m * 2]? = some (.int .u8 ((L.getD m (0, 0)).1 : Nat)) ∧ (cv L)[m * 2 + 1]? = some (.int .u32 ((L.getD m (0, 0)).2 : Nat))
  | [], m, h => by simp at h
  | a :: t, 0, _ => ⟨rfl, rfl⟩
  | a :: t, m + 1, h => by
    have := cv_all t m (by simpa using h)
    rw [show (m + 1) * 2 + 1 = (m * 2 + 1) + 2 by omega, show (m + 1) * 2 = m * 2 + 2 by omega]
    simpa [cv] using this
theorem crd_block {w : World} {b : Nat} {cs : Array Value} {t : TypeId} {fr : Nat × Nat} (h : w.heap[b]? = some (.cells cs t fr)) (L : List (Nat × Nat)) (hc : cs.toList = cv L) : CRd w (some ⟨b, 0, none⟩) L w.heap.size := fun _ => ⟨b, 0, rfl, (Array.getElem?_eq_some_iff.1 h).1, fun j hj => by
  obtain ⟨e1, e2⟩ := cv_all L j hj
  rw [obj_cell h, obj_cell h, Nat.zero_add, ← Array.getElem?_toList, ← Array.getElem?_toList, hc]
  exact ⟨e1, e2⟩⟩
theorem jrd_block {w : World} {b : Nat} {cs : Array Value} {t : TypeId} {fr : Nat × Nat} (h : w.heap[b]? = some (.cells cs t fr)) (J : List Nat) (hc : cs.toList = J.map fun z : Nat => Value.int .u32 (z : Int)) : JRd w (some ⟨b, 0, none⟩) J w.heap.size := fun _ => ⟨b, 0, rfl, (Array.getElem?_eq_some_iff.1 h).1, fun j hj => by
  rw [obj_cell h, Nat.zero_add, ← Array.getElem?_toList, hc]
  simp [hj]⟩
def nv (M : List (ByteArray × Nat)) : List Value := M.flatMap fun p => [.string p.1, .int .u32 p.2]
theorem nv_all : ∀ (M : List (ByteArray × Nat)) (m : Nat), m < M.length → (nv M)[m * 2]? = some (.string (M.getD m (.empty, 0)).1) ∧ (nv M)[m * 2 + 1]? = some (.int .u32 ((M.getD m (.empty, 0)).2 : Nat))
  | [], m, h => by simp at h
  | a :: t, 0, _ => ⟨rfl, rfl⟩
  | a :: t, m + 1, h => by
    have := nv_all t m (by simpa using h)
    rw [show (m + 1) * 2 + 1 = (m * 2 + 1) + 2 by omega, show (m + 1) * 2 = m * 2 + 2 by omega]
    simpa [nv] using this
theorem nrd_block {w : World} {b : Nat} {cs : Array Value} {t : TypeId} {fr : Nat × Nat} (h : w.heap[b]? = some (.cells cs t fr)) (M : List (ByteArray × Nat)) (hc : cs.toList = nv M) : NRd w (some ⟨b, 0, none⟩) M w.heap.size := fun _ => ⟨b, 0, rfl, (Array.getElem?_eq_some_iff.1 h).1, fun j hj => by
  obtain ⟨e1, e2⟩ := nv_all M j hj
  rw [obj_cell h, obj_cell h, Nat.zero_add, ← Array.getElem?_toList, ← Array.getElem?_toList, hc]
  exact ⟨e1, e2⟩⟩
/-- the fixed code -/
abbrev smL : List (Nat × Nat) := [(3, 8), (8, 0), (4, 8), (3, 4), (8, 4), (7, 0), (8, 1), (4, 4)]
abbrev smN : List (ByteArray × Nat) := [(⟨#[102]⟩, 3)]
theorem smG : FdG smL [4, 6] smN := fdG_of (by decide +kernel) (by decide +kernel) (by decide +kernel) (by decide +kernel) (by decide +kernel)
end Go.Proofs.YtgbpfejodpplbaaGreatDoor
namespace Go.Proofs.YtgbpfejodpplbaaGreatDoor
open Go.RowKit Go.WideShapes Go.Shelf
set_option maxRecDepth 100000

/-- where procedure i begins; behind the last one the code's end -/
abbrev bAt (L : List (Nat × Nat)) (i : Nat) : Nat := (bgs L).getD i L.length
theorem prL_get (L : List (Nat × Nat)) {i : Nat} (h : i < (bgs L).length) : (prL L).getD i (0, 0, 0) = (bAt L i, bAt L (i + 1), argL L (bAt L i)) := by
  rw [prs_get L _ i h, getD_anyP h 0 L.length]
theorem bAt_lt {L : List (Nat × Nat)} {i : Nat} (h : i < (bgs L).length) : bAt L i < bAt L (i + 1) := by
  unfold bAt
  by_cases h2 : i + 1 < (bgs L).length
  · rw [getD_anyP h L.length 0]
    exact bgs_up (by omega) h2
  · rw [getD_outP (i := i + 1) (by omega), getD_anyP h L.length 0]
    exact bgs_lt h
theorem bAt_two {L : List (Nat × Nat)} {J : List Nat} {M : List (ByteArray × Nat)} (hG : FdG L J M) {i : Nat} (h : i < (bgs L).length) : bAt L i + 2 ≤ bAt L (i + 1) := by
  have h1 := bAt_lt h
  by_cases h2 : bAt L (i + 1) = bAt L i + 1
  · have hk := hG.ck i (by rw [prs_len]; exact h)
    unfold OkP at hk
    rw [prL_get L h] at hk
    have h3 := hk (bAt L i) (Nat.le_refl _) h1
    have h4 : (L.getD (bAt L i) (0, 0)).1 = 3 := by
      have := bgs_is h
      rw [getD_anyP h 0 L.length] at this
      unfold isEn at this
      simp at this
      simp [this.2]
    unfold errP at h3
    rw [h4, h2] at h3
    have h5 : opKi 3 = 6 := by decide +kernel
    rw [h5] at h3
    unfold ckE at h3
    simp [endK] at h3
    split at h3 <;> cases h3
  · omega
/-- an instruction in its procedure -/
theorem at_in {L : List (Nat × Nat)} {i k : Nat} (h : i < (bgs L).length) (h1 : bAt L i ≤ k) (h2 : k < bAt L (i + 1)) : ofL L k = (i : Int) ∧ isEn L k = decide (k = bAt L i) := by
  unfold bAt at h1 h2 ⊢
  rw [getD_anyP h L.length 0] at h1 ⊢
  exact ⟨ofL_in h h1 h2, is_in h h1 h2⟩
theorem op_is {L : List (Nat × Nat)} {k : Nat} (hk : k < L.length) : isEn L k = ((L.getD k (0, 0)).1 == 3) := by
  unfold isEn
  rw [decide_eq_true hk, Bool.true_and]
end Go.Proofs.YtgbpfejodpplbaaGreatDoor
namespace Go.Proofs.YtgbpfejodpplbaaGreatDoor
open Go.RowKit Go.WideShapes Go.Shelf
theorem enc_each {L : List (Nat × Nat)} (h : encX L = 0) {i : Nat} (hi : i < L.length) : isOp (L.getD i (0, 0)).1 = true := by
  have hl := encX_len h
  unfold encX at h
  rw [if_neg (by omega)] at h
  by_cases ha : allOk L = true
  · have := List.all_eq_true.1 ha (L.getD i (0, 0)) (by rw [List.getD_eq_getElem?_getD, List.getElem?_eq_getElem hi]; exact List.getElem_mem hi)
    have h2 := eq_of_beq this
    unfold erV at h2
    by_cases hq : isOp (L.getD i (0, 0)).1 = false
    · rw [if_pos hq] at h2
      cases h2
    · simpa using hq
  · rw [if_neg ha] at h
    exfalso
    have hne : ∃ j, j < L.length ∧ okI (L.getD j (0, 0)) = false := by
      refine Classical.byContradiction fun hno => ha ?_
      refine allOk_of L fun j hj => ?_
      cases hq : okI (L.getD j (0, 0)) with
      | true => rfl
      | false => exact absurd ⟨j, hj, hq⟩ hno
    obtain ⟨j, hj, hq⟩ := hne
    have : ∀ m, m ≤ L.length → (∀ j, j < m → okI (L.getD j (0, 0)) = true) ∨ ∃ k, k < m ∧ okI (L.getD k (0, 0)) = false ∧ ∀ j, j < k → okI (L.getD j (0, 0)) = true := by
      intro m
      induction m with
      | zero => intro _; exact .inl (fun j hj => absurd hj (by omega))
      | succ m ih =>
        intro hm
        rcases ih (by omega) with h1 | ⟨k, h1, h2, h3⟩
        · cases hq2 : okI (L.getD m (0, 0)) with
          | true => exact .inl (fun j hj => by
              by_cases hjm : j < m
              · exact h1 j hjm
              · rw [show j = m by omega]; exact hq2)
          | false => exact .inr ⟨m, by omega, hq2, h1⟩
        · exact .inr ⟨k, by omega, h2, h3⟩
    rcases this L.length (Nat.le_refl _) with h1 | ⟨k, h1, h2, h3⟩
    · rw [h1 j hj] at hq
      cases hq
    · rw [(badAt_of L k h1 h3 h2).1] at h
      unfold okI at h2
      rw [h] at h2
      cases h2
theorem row5 {w3 : World} {cs : Array Value} {t : Nat} {v : Value} (h5 : cs[5]? = some v) {W : World} (hW : Below (w3.alloc (Obj.cells cs t)).heap.size (w3.alloc (Obj.cells cs t)) W) : W.cell? ⟨w3.heap.size, 5, none⟩ = some v :=
  (obj_cell ((hW.block w3.heap.size (by simp)).trans (heap_alloc_new w3 (Obj.cells cs t))) 5).trans h5
/-- control stays in its procedure -/
theorem within_i {L : List (Nat × Nat)} {J : List Nat} {M : List (ByteArray × Nat)} (hG : FdG L J M) {i : Nat} (hi : i < L.length) :
    isOp (L.getD i (0, 0)).1 = true ∧ (opKi (L.getD i (0, 0)).1 = 3 ∨ opKi (L.getD i (0, 0)).1 = 2 → ofL L (argL L i) = ofL L i ∧ isEn L (argL L i) = false) ∧ (endK (opKi (L.getD i (0, 0)).1) = false → ofL L (i + 1) = ofL L i) := by
  obtain ⟨q, hq, h1, h2⟩ := lies_in hG.fst hi
  rw [getD_anyP hq 0 L.length] at h1
  have hk := hG.ck q (by rw [prs_len]; exact hq)
  unfold OkP at hk
  rw [prL_get L hq] at hk
  have h3 := hk i h1 h2
  have e1 := at_in hq h1 h2
  unfold errP at h3
  generalize opKi (L.getD i (0, 0)).1 = kd at h3 ⊢
  refine ⟨enc_each hG.enc hi, fun hkd => ?_, fun hen => ?_⟩
  · have h4 : bAt L q < argL L i ∧ argL L i < bAt L (q + 1) := by
      unfold ckE at h3
      split at h3
      · cases h3
      · split at h3
        · cases h3
        · rename_i hz
          have : ((kd == 3 || kd == 2) = true) := by rcases hkd with e | e <;> simp [e]
          rw [this] at hz
          simp at hz
          exact hz
    have e2 := at_in hq (Nat.le_of_lt h4.1) h4.2
    exact ⟨by rw [e2.1, e1.1], by rw [e2.2]; exact decide_eq_false (by omega)⟩
  · have h4 : i + 1 < bAt L (q + 1) := by
      refine Nat.lt_of_le_of_ne h2 fun he => ?_
      unfold ckE at h3
      split at h3
      · cases h3
      · split at h3
        · cases h3
        · split at h3
          · cases h3
          · rename_i hz
            change i + 1 = bAt L (q + 1) at he
            simp [hen, he] at hz
    have e2 := at_in hq (k := i + 1) (Nat.le_trans h1 (Nat.le_succ i)) h4
    rw [e2.1, e1.1]
theorem jump_i {L : List (Nat × Nat)} {J : List Nat} {M : List (ByteArray × Nat)} (hG : FdG L J M) {y : Nat} (hy : y ∈ J) : isEn L y = false ∧ ¬ ofL L y < 0 := by
  obtain ⟨j, hj, he⟩ := List.getElem_of_mem hy
  have := hG.jm j hj
  unfold okJ at this
  rw [show J.getD j 0 = y by rw [List.getD_eq_getElem?_getD, List.getElem?_eq_getElem hj]; exact he] at this
  simp only [Bool.and_eq_true, decide_eq_true_eq, Bool.not_eq_true'] at this
  exact ⟨this.2.2, fun q => (ofL_neg hG.fst y).1 q this.2.1⟩
end Go.Proofs.YtgbpfejodpplbaaGreatDoor
namespace Go.Proofs.YtgbpfejodpplbaaGreatDoor

/-! MATHEMATICS: a walk that takes the least of those that wait, told as a run: so its first fault is one. -/
/-- depths, and who waits -/
abbrev WSt := (Nat → Int) × (Nat → Bool)
def updI (f : Nat → Int) (j : Nat) (v : Int) : Nat → Int := fun i => if i = j then v else f i
def updB (f : Nat → Bool) (j : Nat) (v : Bool) : Nat → Bool := fun i => if i = j then v else f i
/-- one Next is gone through -/
def ndo (r : Int) (s : WSt) (j : Nat) : Option WSt := if s.1 j = -1 then some (updI s.1 j r, updB s.2 j true) else if s.1 j = r then some s else none
/-- all Next are gone through -/
def goN (r : Int) : WSt → List Nat → Option WSt
  | s, [] => some s
  | s, j :: l => (ndo r s j).bind fun s' => goN r s' l
theorem goN_app (r : Int) (l1 l2 : List Nat) (s : WSt) : goN r s (l1 ++ l2) = (goN r s l1).bind fun s' => goN r s' l2 := by
  induction l1 generalizing s with
  | nil => rfl
  | cons j l ih =>
    show (ndo r s j).bind (fun s' => goN r s' (l ++ l2)) = ((ndo r s j).bind fun s' => goN r s' l).bind fun s' => goN r s' l2
    cases ndo r s j with
    | none => rfl
    | some s' => exact ih s'
theorem goN_snoc {r : Int} {l : List Nat} {s s1 s2 : WSt} {j : Nat} (h : goN r s l = some s1) (h2 : ndo r s1 j = some s2) : goN r s (l ++ [j]) = some s2 := by
  rw [goN_app, h]
  show (ndo r s1 j).bind (fun s' => goN r s' []) = some s2
  rw [h2]
  rfl
theorem goN_stop {r : Int} {l l2 : List Nat} {s s1 : WSt} {j : Nat} (h : goN r s l = some s1) (h2 : ndo r s1 j = none) : goN r s (l ++ j :: l2) = none := by
  rw [goN_app, h]
  show (ndo r s1 j).bind (fun s' => goN r s' l2) = none
  rw [h2]
  rfl
theorem goN_id {r : Int} (hr : r ≠ -1) {s : WSt} : ∀ {l : List Nat}, (∀ j ∈ l, s.1 j = r) → goN r s l = some s
  | [], _ => rfl
  | j :: l, h => by
    have hj := h j (List.mem_cons_self ..)
    show (ndo r s j).bind (fun s' => goN r s' l) = some s
    have : ndo r s j = some s := by
      unfold ndo
      rw [if_neg (by rw [hj]; exact hr), if_pos hj]
    rw [this]
    exact goN_id hr fun y hy => h y (List.mem_cons_of_mem _ hy)
/-- the least of those that wait -/
def Lst (w : Nat → Bool) (x : Nat) : Prop := w x = true ∧ ∀ y, w y = true → x ≤ y
theorem Lst.uniq {w : Nat → Bool} {x y : Nat} (h1 : Lst w x) (h2 : Lst w y) : x = y := Nat.le_antisymm (h1.2 y h2.1) (h2.2 x h1.1)
section
variable (nx : Nat → List Nat) (tk : Nat → Int → Nat) (rs : Nat → Int → Int) (b : Nat)
/-- the beginning of a run -/
def st0 : WSt := (fun i => if i = b then 0 else -1, fun i => decide (i = b))
/-- a run of n instructions leads there -/
def Rnn : Nat → WSt → Prop
  | 0, s => s = st0 b
  | n + 1, s => ∃ s1 x, Rnn n s1 ∧ Lst s1.2 x ∧ tk x (s1.1 x) = 0 ∧ goN (rs x (s1.1 x)) (s1.1, updB s1.2 x false) (nx x) = some s
/-- the fault behind a run -/
def FtR (n at_ x : Nat) : Prop := ∃ s, Rnn nx tk rs b n s ∧ Lst s.2 at_ ∧ ((x = tk at_ (s.1 at_) ∧ x ≠ 0) ∨ (x = 142 ∧ tk at_ (s.1 at_) = 0 ∧ goN (rs at_ (s.1 at_)) (s.1, updB s.2 at_ false) (nx at_) = none))
variable {nx tk rs b}
theorem Rnn.det : ∀ {n : Nat} {s s' : WSt}, Rnn nx tk rs b n s → Rnn nx tk rs b n s' → s = s'
  | 0, _, _, h, h' => h.trans h'.symm
  | n + 1, s, s', ⟨s1, x, h1, h2, h3, h4⟩, ⟨s2, y, k1, k2, k3, k4⟩ => by
    have e := Rnn.det h1 k1
    subst e
    have e := h2.uniq k2
    subst e
    rw [h4] at k4
    exact Option.some.inj k4
theorem Rnn.back : ∀ {m n : Nat} {s : WSt}, n ≤ m → Rnn nx tk rs b m s → ∃ s', Rnn nx tk rs b n s'
  | 0, n, s, h, h1 => ⟨s, by rw [show n = 0 by omega]; exact h1⟩
  | m + 1, n, s, h, h1 => by
    by_cases e : n = m + 1
    · exact ⟨s, by rw [e]; exact h1⟩
    · obtain ⟨s1, x, k, _⟩ := h1
      exact Rnn.back (show n ≤ m by omega) k
theorem FtR.ends {n m at_ x : Nat} {s : WSt} (h : FtR nx tk rs b n at_ x) (hm : Rnn nx tk rs b m s) : m ≤ n := by
  refine Classical.byContradiction fun hlt => ?_
  obtain ⟨s2, s1, y, k1, k2, k3, k4⟩ := Rnn.back (show n + 1 ≤ m by omega) hm
  obtain ⟨s', h1, h2, h3⟩ := h
  have e := h1.det k1
  subst e
  have e := h2.uniq k2
  subst e
  rcases h3 with ⟨e1, e2⟩ | ⟨_, _, e3⟩
  · rw [k3] at e1; exact e2 e1
  · rw [k4] at e3; cases e3
/-- the first fault is one -/
theorem FtR.uniq {n n' at_ at' x x' : Nat} (h : FtR nx tk rs b n at_ x) (h' : FtR nx tk rs b n' at' x') : at_ = at' ∧ x = x' := by
  obtain ⟨s, h1, h2, h3⟩ := id h
  obtain ⟨s', k1, k2, k3⟩ := id h'
  have e := Nat.le_antisymm (h'.ends h1) (h.ends k1)
  subst e
  have e := h1.det k1
  subst e
  have e := h2.uniq k2
  subst e
  refine ⟨rfl, ?_⟩
  rcases h3 with ⟨e1, e2⟩ | ⟨e1, e2, e3⟩
  · rcases k3 with ⟨f1, f2⟩ | ⟨f1, f2, f3⟩
    · exact e1.trans f1.symm
    · rw [f2] at e1; exact absurd e1 e2
  · rcases k3 with ⟨f1, f2⟩ | ⟨f1, f2, f3⟩
    · rw [e2] at f1; exact absurd f1 f2
    · exact e1.trans f1.symm
/-- a run at whose end nobody waits has no fault -/
theorem FtR.none {n m at_ x : Nat} {s : WSt} (h : FtR nx tk rs b n at_ x) (hm : Rnn nx tk rs b m s) (hs : ∀ y, s.2 y = false) : False := by
  have e := h.ends hm
  obtain ⟨s', h1, h2, h3⟩ := h
  by_cases hq : m = n
  · subst hq
    have e := h1.det hm
    subst e
    have := h2.1
    rw [hs] at this
    cases this
  · obtain ⟨s2, s1, y, k1, k2, k3, k4⟩ := Rnn.back (show m + 1 ≤ n by omega) h1
    have e := hm.det k1
    subst e
    have := k2.1
    rw [hs] at this
    cases this
end
/-- the words of a list wait -/
def wfL (W : List Nat) : Nat → Bool := fun i => decide (i ∈ W)
theorem wfL_least {W Wp : List Nat} {x : Nat} (hp : (x :: Wp).Perm W) (hl : ∀ y ∈ Wp, x ≤ y) : Lst (wfL W) x := by
  refine ⟨decide_eq_true (hp.subset (List.mem_cons_self ..)), fun y hy => ?_⟩
  rcases List.mem_cons.1 (hp.symm.subset (of_decide_eq_true hy)) with e | e
  · omega
  · exact hl y e
theorem wfL_pop {W Wp : List Nat} {x : Nat} (hp : (x :: Wp).Perm W) (hn : W.Nodup) : updB (wfL W) x false = wfL Wp := by
  have hn2 : (x :: Wp).Nodup := hp.nodup_iff.2 hn
  funext i
  unfold updB wfL
  split
  · rename_i e
    subst e
    exact (decide_eq_false (List.nodup_cons.1 hn2).1).symm
  · rename_i e
    refine decide_eq_decide.2 ?_
    rw [← hp.mem_iff, List.mem_cons]
    exact ⟨fun h => h.resolve_left e, .inr⟩
theorem wfL_push {W Wp : List Nat} {x : Nat} (hp : Wp.Perm (x :: W)) : updB (wfL W) x true = wfL Wp := by
  funext i
  unfold updB wfL
  split
  · rename_i e
    subst e
    exact (decide_eq_true (hp.symm.subset (List.mem_cons_self ..))).symm
  · rename_i e
    refine decide_eq_decide.2 ?_
    rw [hp.mem_iff, List.mem_cons]
    exact ⟨.inr, fun h => h.resolve_left e⟩
/-- a heap: each word is no less than the one above it -/
def HpO (W : List Nat) : Prop := ∀ i, 0 < i → i < W.length → W.getD ((i - 1) / 2) 0 ≤ W.getD i 0
end Go.Proofs.YtgbpfejodpplbaaGreatDoor
namespace Go.Proofs.YtgbpfejodpplbaaGreatDoor
open Go.RowKit Go.WideShapes Go.Shelf

abbrev opL (L : List (Nat × Nat)) (i : Nat) : Nat := (L.getD i (0, 0)).1
/-- the jumps that lie in a procedure -/
def tgs (L : List (Nat × Nat)) (J : List Nat) (k : Nat) : List Nat := rng (fun x => decide (x ∈ J)) (bAt L k) (bAt L (k + 1))
/-- the Next of an instruction -/
def nxt (L : List (Nat × Nat)) (J : List Nat) (i : Nat) : List Nat :=
  if opKi (opL L i) = 1 ∨ opKi (opL L i) = 6 ∨ opKi (opL L i) = 5 then [i + 1]
  else if opKi (opL L i) = 2 then (if i + 1 = argL L i then [i + 1] else [min (i + 1) (argL L i), max (i + 1) (argL L i)])
  else if opKi (opL L i) = 3 then [argL L i]
  else if opKi (opL L i) = 4 then tgs L J (ofL L i).toNat
  else []
/-- the depth behind an instruction -/
def restI (op : Nat) (d : Int) : Int := d - opTa op + opGi op
/-- why an instruction may not be taken -/
def tkE (op : Nat) (d : Int) : Nat := if d < opTa op then 140 else if 64 < restI op d then 141 else if opKi op = 7 ∧ d ≠ 1 then 143 else 0
theorem tk_ok {op : Nat} {d : Int} (h : tkE op d = 0) : (opTa op : Int) ≤ d ∧ restI op d ≤ 64 ∧ 0 ≤ restI op d ∧ (opKi op = 7 → d = 1) := by
  unfold tkE at h
  split at h
  · cases h
  · split at h
    · cases h
    · split at h
      · cases h
      · rename_i h1 h2 h3
        have h4 : (opTa op : Int) ≤ d := by omega
        refine ⟨h4, by omega, by unfold restI; omega, fun hk => ?_⟩
        refine Classical.byContradiction fun hd => h3 ⟨hk, hd⟩
/-- a depth for every instruction of a procedure, such as may be -/
structure Sol (L : List (Nat × Nat)) (J : List Nat) (k : Nat) (D : List Int) : Prop where
  at0 : D.getD (bAt L k) (-1) = 0
  ok : ∀ i, bAt L k ≤ i → i < bAt L (k + 1) → 0 ≤ D.getD i (-1) → tkE (opL L i) (D.getD i (-1)) = 0 ∧ ∀ j ∈ nxt L J i, D.getD j (-1) = restI (opL L i) (D.getD i (-1))
theorem nxt_in {L : List (Nat × Nat)} {J : List Nat} {M : List (ByteArray × Nat)} (hG : FdG L J M) {k i j : Nat} (hk : k < (bgs L).length) (h1 : bAt L k ≤ i) (h2 : i < bAt L (k + 1)) (hj : j ∈ nxt L J i) : bAt L k < j ∧ j < bAt L (k + 1) := by
  have hck := hG.ck k (by rw [prs_len]; exact hk)
  unfold OkP at hck
  rw [prL_get L hk] at hck
  have h3 := hck i h1 h2
  have e1 := at_in hk h1 h2
  unfold errP at h3
  unfold nxt at hj
  have arg : opKi (opL L i) = 3 ∨ opKi (opL L i) = 2 → bAt L k < argL L i ∧ argL L i < bAt L (k + 1) := fun hkd => by
    unfold ckE at h3
    split at h3
    · cases h3
    · split at h3
      · cases h3
      · rename_i hz
        have : ((opKi (L.getD i (0, 0)).1 == 3 || opKi (L.getD i (0, 0)).1 == 2) = true) := by rcases hkd with e | e <;> simp [opL] at e <;> simp [e]
        rw [this] at hz
        simp at hz
        exact hz
  have suc : endK (opKi (opL L i)) = false → bAt L k < i + 1 ∧ i + 1 < bAt L (k + 1) := fun hen => by
    refine ⟨by omega, Nat.lt_of_le_of_ne h2 fun he => ?_⟩
    unfold ckE at h3
    split at h3
    · cases h3
    · split at h3
      · cases h3
      · split at h3
        · cases h3
        · rename_i hz
          change i + 1 = bAt L (k + 1) at he
          simp only [opL] at hen
          rw [hen] at hz
          simp [he] at hz
  split at hj
  · rename_i hq
    have := suc (by rcases hq with e | e | e <;> rw [e] <;> rfl)
    simp at hj
    subst hj
    exact this
  · split at hj
    · rename_i hq
      have s1 := suc (by rw [hq]; rfl)
      have s2 := arg (.inr hq)
      split at hj
      · simp at hj
        subst hj
        exact s1
      · simp at hj
        omega
    · split at hj
      · rename_i hq
        have s2 := arg (.inl hq)
        simp at hj
        subst hj
        exact s2
      · split at hj
        · rw [e1.1, Int.toNat_natCast] at hj
          obtain ⟨⟨m1, m2⟩, m3⟩ := mem_rng.1 hj
          have hjm := of_decide_eq_true m3
          have e2 := at_in hk m1 m2
          rw [(jump_i hG hjm).1] at e2
          have := of_decide_eq_false e2.2.symm
          omega
        · simp at hj
/-- an instruction is come to with a depth -/
def Rch (L : List (Nat × Nat)) (J : List Nat) (k i : Nat) (d : Int) : Prop :=
  ∀ R : Nat → Int → Prop, R (bAt L k) 0 → (∀ i d j, R i d → tkE (opL L i) d = 0 → j ∈ nxt L J i → R j (restI (opL L i) d)) → R i d
/-- a fault of the walk, with what tells it -/
def FltO (L : List (Nat × Nat)) (J : List Nat) (k at_ x : Nat) : Prop :=
  (∃ d, Rch L J k at_ d ∧ x = tkE (opL L at_) d ∧ x ≠ 0) ∨ (x = 142 ∧ ∃ (d : Int) (j : Nat) (d' : Int), Rch L J k at_ d ∧ tkE (opL L at_) d = 0 ∧ j ∈ nxt L J at_ ∧ Rch L J k j d' ∧ d' ≠ restI (opL L at_) d)
abbrev tkW (L : List (Nat × Nat)) : Nat → Int → Nat := fun i d => tkE (opL L i) d
abbrev rsW (L : List (Nat × Nat)) : Nat → Int → Int := fun i d => restI (opL L i) d
/-- a fault of the walk: what tells it, and the run that comes to it -/
def FltP (L : List (Nat × Nat)) (J : List Nat) (k at_ x : Nat) : Prop := FltO L J k at_ x ∧ ∃ n, FtR (nxt L J) (tkW L) (rsW L) (bAt L k) n at_ x
/-- the first fault of a procedure is one -/
theorem FltP.uniq {L : List (Nat × Nat)} {J : List Nat} {k at_ x at' x' : Nat} (h : FltP L J k at_ x) (h' : FltP L J k at' x') : at_ = at' ∧ x = x' := by
  obtain ⟨_, n, h⟩ := h
  obtain ⟨_, n', h'⟩ := h'
  exact h.uniq h'
theorem Rch.sol {L : List (Nat × Nat)} {J : List Nat} {M : List (ByteArray × Nat)} (hG : FdG L J M) {k i : Nat} (hk : k < (bgs L).length) {d : Int} (h : Rch L J k i d) {D : List Int} (hS : Sol L J k D) : bAt L k ≤ i ∧ i < bAt L (k + 1) ∧ D.getD i (-1) = d ∧ 0 ≤ d := by
  refine h (fun i d => bAt L k ≤ i ∧ i < bAt L (k + 1) ∧ D.getD i (-1) = d ∧ 0 ≤ d) ⟨Nat.le_refl _, bAt_lt hk, hS.at0, by omega⟩ fun i d j ⟨h1, h2, h3, h4⟩ ht hj => ?_
  have hin := nxt_in hG hk h1 h2 hj
  have := (hS.ok i h1 h2 (by rw [h3]; exact h4)).2 j hj
  rw [h3] at this
  exact ⟨Nat.le_of_lt hin.1, hin.2, this, (tk_ok ht).2.2.1⟩
theorem FltP.noSol {L : List (Nat × Nat)} {J : List Nat} {M : List (ByteArray × Nat)} (hG : FdG L J M) {k at_ x : Nat} (hk : k < (bgs L).length) (h : FltP L J k at_ x) : ∀ D', ¬ Sol L J k D' := fun D' hS => by
  rcases h.1 with ⟨d, h1, h2, h3⟩ | ⟨_, d, j, d', h1, _, h3, h4, h5⟩
  · obtain ⟨a, b, c, e⟩ := h1.sol hG hk hS
    have := (hS.ok at_ a b (by rw [c]; exact e)).1
    rw [c] at this
    omega
  · obtain ⟨a, b, c, e⟩ := h1.sol hG hk hS
    have := (hS.ok at_ a b (by rw [c]; exact e)).2 j h3
    rw [(h4.sol hG hk hS).2.2.1, c] at this
    exact h5 this
/-- the first fault of all procedures -/
abbrev FltK (L : List (Nat × Nat)) (J : List Nat) (at_ x : Nat) : Prop := ∃ k, k < (bgs L).length ∧ FltP L J k at_ x ∧ ∀ k' < k, ∃ D', Sol L J k' D'
theorem FltK.uniq {L : List (Nat × Nat)} {J : List Nat} {M : List (ByteArray × Nat)} (hG : FdG L J M) {at_ x at' x' : Nat} (h : FltK L J at_ x) (h' : FltK L J at' x') : at_ = at' ∧ x = x' := by
  obtain ⟨k, hk, hf, hb⟩ := h
  obtain ⟨k', hk', hf', hb'⟩ := h'
  by_cases h1 : k < k'
  · obtain ⟨D', hS⟩ := hb' k h1
    exact absurd hS (hf.noSol hG hk D')
  · by_cases h2 : k' < k
    · obtain ⟨D', hS⟩ := hb k' h2
      exact absurd hS (hf'.noSol hG hk' D')
    · have e : k = k' := by omega
      subst e
      exact hf.uniq hf'
theorem FltK.noSol {L : List (Nat × Nat)} {J : List Nat} {M : List (ByteArray × Nat)} (hG : FdG L J M) {at_ x : Nat} (h : FltK L J at_ x) : ∃ k, k < (bgs L).length ∧ ∀ D', ¬ Sol L J k D' := by
  obtain ⟨k, hk, hf, _⟩ := h
  exact ⟨k, hk, hf.noSol hG hk⟩
/-- the depths of a procedure alone -/
def dpf (L : List (Nat × Nat)) (k : Nat) (D : List Int) : Nat → Int := fun i => if bAt L k ≤ i ∧ i < bAt L (k + 1) then D.getD i (-1) else -1
theorem dpf_in {L : List (Nat × Nat)} {k i : Nat} (D : List Int) (h1 : bAt L k ≤ i) (h2 : i < bAt L (k + 1)) : dpf L k D i = D.getD i (-1) := if_pos ⟨h1, h2⟩
theorem nxt_len {L : List (Nat × Nat)} {J : List Nat} (hl : L.length ≤ 16384) (i : Nat) : (nxt L J i).length ≤ 16384 := by
  unfold nxt
  repeat' split
  all_goals first | (simp; done) | skip
  refine Nat.le_trans (rng_len _ _ _) ?_
  have := bgs_end (L := L) ((ofL L i).toNat + 1)
  unfold bAt
  omega
theorem tk_rest {op : Nat} {d : Int} (h : tkE op d = 0) : 0 ≤ restI op d := (tk_ok h).2.2.1
theorem getD_set {D : List Int} {j : Nat} (hj : j < D.length) (v : Int) (i : Nat) : (D.set j v).getD i (-1) = if i = j then v else D.getD i (-1) := by
  rw [List.getD_eq_getElem?_getD, List.getElem?_set]
  by_cases h : j = i
  · subst h
    simp [hj]
  · rw [if_neg h, if_neg (fun e => h e.symm), List.getD_eq_getElem?_getD]
/-- an instruction with which the walk has done -/
structure Don (L : List (Nat × Nat)) (J : List Nat) (D : List Int) (need : Int) (i : Nat) : Prop where
  tk : tkE (opL L i) (D.getD i (-1)) = 0
  le : D.getD i (-1) ≤ need ∧ restI (opL L i) (D.getD i (-1)) ≤ need
  nx : ∀ j ∈ nxt L J i, D.getD j (-1) = restI (opL L i) (D.getD i (-1))
/-- what abides in a walk -/
structure WkB (L : List (Nat × Nat)) (J : List Nat) (k : Nat) (D0 D : List Int) (Wt : List Nat) (need : Int) : Prop where
  len : D.length = D0.length
  out : ∀ i, ¬ (bAt L k ≤ i ∧ i < bAt L (k + 1)) → D.getD i (-1) = D0.getD i (-1)
  at0 : D.getD (bAt L k) (-1) = 0
  wt : ∀ x ∈ Wt, bAt L k ≤ x ∧ x < bAt L (k + 1) ∧ 0 ≤ D.getD x (-1)
  bd : ∀ i, bAt L k ≤ i → i < bAt L (k + 1) → -1 ≤ D.getD i (-1) ∧ D.getD i (-1) ≤ 64
  nd : 0 ≤ need ∧ need ≤ 64
  least : ∀ D', Sol L J k D' → ∀ i, bAt L k ≤ i → i < bAt L (k + 1) → 0 ≤ D.getD i (-1) → D'.getD i (-1) = D.getD i (-1)
  ub : ∀ M : Int, 0 ≤ M → (∀ i, bAt L k ≤ i → i < bAt L (k + 1) → 0 ≤ D.getD i (-1) → D.getD i (-1) ≤ M ∧ restI (opL L i) (D.getD i (-1)) ≤ M) → need ≤ M
  rc : ∀ i, bAt L k ≤ i → i < bAt L (k + 1) → 0 ≤ D.getD i (-1) → Rch L J k i (D.getD i (-1))
/-- between two instructions -/
structure WkI (L : List (Nat × Nat)) (J : List Nat) (k : Nat) (D0 D : List Int) (Wt : List Nat) (need jd : Int) : Prop extends WkB L J k D0 D Wt need where
  done : ∀ i, bAt L k ≤ i → i < bAt L (k + 1) → 0 ≤ D.getD i (-1) → i ∈ Wt ∨ Don L J D need i
  jm : jd = -1 ∨ ∀ j ∈ tgs L J k, D.getD j (-1) = jd
  nod : Wt.Nodup
  ho : HpO Wt
  tr : ∃ n, Rnn (nxt L J) (tkW L) (rsW L) (bAt L k) n (dpf L k D, wfL Wt)
/-- the run that an instruction is taken at -/
def TrM (L : List (Nat × Nat)) (J : List Nat) (k : Nat) (D : List Int) (Wt : List Nat) (x : Nat) (pre : List Nat) : Prop :=
  ∃ n s, Rnn (nxt L J) (tkW L) (rsW L) (bAt L k) n s ∧ Lst s.2 x ∧ s.1 x = D.getD x (-1) ∧ goN (restI (opL L x) (D.getD x (-1))) (s.1, updB s.2 x false) pre = some (dpf L k D, wfL Wt)
/-- while the Next of x are gone through -/
structure WkM (L : List (Nat × Nat)) (J : List Nat) (k : Nat) (D0 D : List Int) (Wt : List Nat) (need jd : Int) (x : Nat) (pre : List Nat) : Prop extends WkB L J k D0 D Wt need where
  ax : bAt L k ≤ x ∧ x < bAt L (k + 1) ∧ 0 ≤ D.getD x (-1)
  tk : tkE (opL L x) (D.getD x (-1)) = 0
  le : D.getD x (-1) ≤ need ∧ restI (opL L x) (D.getD x (-1)) ≤ need
  pr : ∀ j ∈ pre, D.getD j (-1) = restI (opL L x) (D.getD x (-1))
  done : ∀ i, bAt L k ≤ i → i < bAt L (k + 1) → 0 ≤ D.getD i (-1) → i ∈ Wt ∨ i = x ∨ Don L J D need i
  jm : jd = -1 ∨ ∀ j ∈ tgs L J k, D.getD j (-1) = jd
  nod : Wt.Nodup
  ho : HpO Wt
  tr : TrM L J k D Wt x pre
theorem WkI.start {L : List (Nat × Nat)} {J : List Nat} {k : Nat} {D0 : List Int} (hb : bAt L k < bAt L (k + 1)) (hl : bAt L k < D0.length) (h0 : ∀ i, bAt L k ≤ i → i < bAt L (k + 1) → D0.getD i (-1) = -1) :
    WkI L J k D0 (D0.set (bAt L k) 0) [bAt L k] 0 (-1) := by
  have g := getD_set hl 0
  have only : ∀ i, bAt L k ≤ i → i < bAt L (k + 1) → 0 ≤ (D0.set (bAt L k) 0).getD i (-1) → i = bAt L k := fun i h1 h2 h3 => by
    rw [g] at h3
    by_cases he : i = bAt L k
    · exact he
    · rw [if_neg he, h0 i h1 h2] at h3
      omega
  have gb : (D0.set (bAt L k) 0).getD (bAt L k) (-1) = 0 := by rw [g, if_pos rfl]
  refine ⟨⟨by simp, fun i hi => ?_, gb, fun x hx => ?_, fun i h1 h2 => ?_, ⟨by omega, by omega⟩, fun D' hS i h1 h2 h3 => ?_, fun M hM _ => hM, fun i h1 h2 h3 => ?_⟩, fun i h1 h2 h3 => ?_, .inl rfl, by simp, fun i h1 h2 => by simp at h2; omega, 0, ?_⟩
  · rw [g, if_neg (fun e => hi (by omega))]
  · rw [List.mem_singleton] at hx
    subst hx
    exact ⟨Nat.le_refl _, hb, by omega⟩
  · rw [g]
    split
    · omega
    · rw [h0 i h1 h2]
      omega
  · rw [only i h1 h2 h3, gb]
    exact hS.at0
  · rw [only i h1 h2 h3, gb]
    exact fun R r0 _ => r0
  · rw [only i h1 h2 h3]
    exact .inl (List.mem_singleton.2 rfl)
  · refine Prod.ext ?_ ?_
    · funext i
      show dpf L k (D0.set (bAt L k) 0) i = if i = bAt L k then 0 else -1
      by_cases hi : bAt L k ≤ i ∧ i < bAt L (k + 1)
      · rw [dpf_in _ hi.1 hi.2, g]
        split
        · rfl
        · exact h0 i hi.1 hi.2
      · unfold dpf
        rw [if_neg hi, if_neg (fun e => hi (by omega))]
    · funext i
      show wfL [bAt L k] i = decide (i = bAt L k)
      unfold wfL
      simp
theorem Don.mono {L : List (Nat × Nat)} {J : List Nat} {D : List Int} {need n2 : Int} {i : Nat} (h : Don L J D need i) (hn : need ≤ n2) : Don L J D n2 i := ⟨h.tk, ⟨by have := h.le.1; omega, by have := h.le.2; omega⟩, h.nx⟩
/-- an instruction is taken -/
theorem WkI.take {L : List (Nat × Nat)} {J : List Nat} {k : Nat} {D0 D : List Int} {Wt Wp : List Nat} {need jd : Int} {x : Nat} (h : WkI L J k D0 D Wt need jd) (hp : (x :: Wp).Perm Wt) (hls : ∀ y ∈ Wp, x ≤ y) (hoP : HpO Wp) (ht : tkE (opL L x) (D.getD x (-1)) = 0) :
    WkM L J k D0 D Wp (max need (max (D.getD x (-1)) (restI (opL L x) (D.getD x (-1))))) jd x [] := by
  have hx := h.wt x (hp.subset (List.mem_cons_self ..))
  have hb := h.bd x hx.1 hx.2.1
  have tk := tk_ok ht
  have hnd := h.nd
  refine ⟨⟨h.len, h.out, h.at0, fun y hy => h.wt y (hp.subset (List.mem_cons_of_mem _ hy)), h.bd, ⟨by omega, by omega⟩, h.least, fun M hM hU => ?_, h.rc⟩, hx, ht, ⟨by omega, by omega⟩, fun j hj => absurd hj (by simp), fun i h1 h2 h3 => ?_, h.jm, (List.nodup_cons.1 (hp.nodup_iff.2 h.nod)).2, hoP, ?_⟩
  · have q1 := h.ub M hM hU
    have q2 := hU x hx.1 hx.2.1 hx.2.2
    omega
  · rcases h.done i h1 h2 h3 with q | q
    · rcases List.mem_cons.1 (hp.symm.subset q) with e | e
      · exact .inr (.inl e)
      · exact .inl e
    · exact .inr (.inr (q.mono (by omega)))
  · obtain ⟨n, hr⟩ := h.tr
    refine ⟨n, _, hr, wfL_least hp hls, dpf_in _ hx.1 hx.2.1, ?_⟩
    show some (dpf L k D, updB (wfL Wt) x false) = some (dpf L k D, wfL Wp)
    rw [wfL_pop hp h.nod]
/-- an instruction that may not be taken -/
theorem WkI.bad {L : List (Nat × Nat)} {J : List Nat} {k : Nat} {D0 D : List Int} {Wt Wp : List Nat} {need jd : Int} {x : Nat} (h : WkI L J k D0 D Wt need jd) (hp : (x :: Wp).Perm Wt) (hls : ∀ y ∈ Wp, x ≤ y) (ht : tkE (opL L x) (D.getD x (-1)) ≠ 0) : FltP L J k x (tkE (opL L x) (D.getD x (-1))) := by
  obtain ⟨x1, x2, x3⟩ := h.wt x (hp.subset (List.mem_cons_self ..))
  obtain ⟨n, hr⟩ := h.tr
  refine ⟨.inl ⟨_, h.rc x x1 x2 x3, rfl, ht⟩, n, _, hr, wfL_least hp hls, .inl ⟨?_, ht⟩⟩
  show tkE (opL L x) (D.getD x (-1)) = tkE (opL L x) (dpf L k D x)
  rw [dpf_in _ x1 x2]
/-- a Next that has the depth already -/
theorem WkM.same {L : List (Nat × Nat)} {J : List Nat} {M : List (ByteArray × Nat)} (hG : FdG L J M) {k : Nat} (hk : k < (bgs L).length) {D0 D : List Int} {Wt : List Nat} {need jd : Int} {x j : Nat} {pre : List Nat} (h : WkM L J k D0 D Wt need jd x pre) (hjn : j ∈ nxt L J x) (hj : D.getD j (-1) = restI (opL L x) (D.getD x (-1))) : WkM L J k D0 D Wt need jd x (pre ++ [j]) :=
  ⟨h.toWkB, h.ax, h.tk, h.le, fun y hy => by
    rcases List.mem_append.1 hy with q | q
    · exact h.pr y q
    · rw [List.mem_singleton.1 q]; exact hj, h.done, h.jm, h.nod, h.ho, by
    obtain ⟨n, s, r1, r2, r3, r4⟩ := h.tr
    have hin := nxt_in hG hk h.ax.1 h.ax.2.1 hjn
    refine ⟨n, s, r1, r2, r3, goN_snoc r4 ?_⟩
    have e := dpf_in D (Nat.le_of_lt hin.1) hin.2
    have h0 := tk_rest h.tk
    unfold ndo
    rw [if_neg (show ¬ dpf L k D j = -1 by rw [e, hj]; omega), if_pos (show dpf L k D j = _ from e.trans hj)]⟩
/-- a Next that has another depth -/
theorem WkM.bad {L : List (Nat × Nat)} {J : List Nat} {M : List (ByteArray × Nat)} (hG : FdG L J M) {k : Nat} (hk : k < (bgs L).length) {D0 D : List Int} {Wt : List Nat} {need jd : Int} {x j : Nat} {pre : List Nat} (h : WkM L J k D0 D Wt need jd x pre) (hsp : pre ++ [j] <+: nxt L J x) (h1 : D.getD j (-1) ≠ -1) (h2 : D.getD j (-1) ≠ restI (opL L x) (D.getD x (-1))) : FltP L J k x 142 := by
  obtain ⟨x1, x2, x3⟩ := h.ax
  have hj : j ∈ nxt L J x := hsp.subset (by simp)
  have hin := nxt_in hG hk x1 x2 hj
  have hb := h.bd j (Nat.le_of_lt hin.1) hin.2
  refine ⟨.inr ⟨rfl, _, j, _, h.rc x x1 x2 x3, h.tk, hj, h.rc j (Nat.le_of_lt hin.1) hin.2 (by omega), h2⟩, ?_⟩
  obtain ⟨n, s, r1, r2, r3, r4⟩ := h.tr
  obtain ⟨l2, hl2⟩ := hsp
  refine ⟨n, s, r1, r2, .inr ⟨rfl, ?_, ?_⟩⟩
  · show tkE (opL L x) (s.1 x) = 0
    rw [r3]; exact h.tk
  · show goN (restI (opL L x) (s.1 x)) _ (nxt L J x) = none
    rw [r3, ← hl2, List.append_assoc]
    refine goN_stop r4 ?_
    have e := dpf_in D (Nat.le_of_lt hin.1) hin.2
    unfold ndo
    rw [if_neg (show ¬ dpf L k D j = -1 by rw [e]; exact h1), if_neg (show ¬ dpf L k D j = _ by rw [e]; exact h2)]
/-- a Next that gets its depth and waits -/
theorem WkM.new {L : List (Nat × Nat)} {J : List Nat} {M : List (ByteArray × Nat)} (hG : FdG L J M) {k : Nat} (hk : k < (bgs L).length) {D0 D : List Int} {Wt Wp : List Nat} {need jd : Int} {x j : Nat} {pre : List Nat} (h : WkM L J k D0 D Wt need jd x pre) (hl : D0.length = L.length) (hj : j ∈ nxt L J x) (h1 : D.getD j (-1) = -1) (hp : Wp.Perm (j :: Wt)) (hoP : HpO Wp) :
    WkM L J k D0 (D.set j (restI (opL L x) (D.getD x (-1)))) Wp need jd x (pre ++ [j]) := by
  obtain ⟨x1, x2, x3⟩ := h.ax
  have hin := nxt_in hG hk x1 x2 hj
  have hlt : j < D.length := by
    rw [h.len, hl]
    exact Nat.lt_of_lt_of_le hin.2 (bgs_end _)
  have g := getD_set hlt (restI (opL L x) (D.getD x (-1)))
  have tk := tk_ok h.tk
  generalize hr : restI (opL L x) (D.getD x (-1)) = r at g tk ⊢
  have keep : ∀ i, 0 ≤ D.getD i (-1) → (D.set j r).getD i (-1) = D.getD i (-1) := fun i hi => by
    rw [g, if_neg (fun e => by rw [e, h1] at hi; omega)]
  have gj : (D.set j r).getD j (-1) = r := by rw [g, if_pos rfl]
  have back : ∀ i, 0 ≤ (D.set j r).getD i (-1) → i = j ∨ 0 ≤ D.getD i (-1) := fun i hi => by
    by_cases e : i = j
    · exact .inl e
    · rw [g, if_neg e] at hi
      exact .inr hi
  have don : ∀ i, Don L J D need i → 0 ≤ D.getD i (-1) → Don L J (D.set j r) need i := fun i hd hi => by
    refine ⟨by rw [keep i hi]; exact hd.tk, by rw [keep i hi]; exact hd.le, fun y hy => ?_⟩
    rw [keep i hi, ← hd.nx y hy]
    exact keep y (by rw [hd.nx y hy]; exact tk_rest hd.tk)
  have mem : ∀ y, y ∈ Wp ↔ y = j ∨ y ∈ Wt := fun y => by rw [hp.mem_iff, List.mem_cons]
  have kx := keep x x3
  have k0 : (D.set j r).getD (bAt L k) (-1) = 0 := by rw [keep _ (by rw [h.at0]; omega)]; exact h.at0
  refine ⟨⟨by simp [h.len], fun i hi => ?_, k0, fun y hy => ?_, fun i i1 i2 => ?_, h.nd, fun D' hS i i1 i2 i3 => ?_, fun M' hM hU => ?_, fun i i1 i2 i3 => ?_⟩, ⟨x1, x2, by rw [kx]; exact x3⟩, by rw [kx]; exact h.tk, by rw [kx, hr]; exact ⟨h.le.1, by rw [← hr]; exact h.le.2⟩, fun y hy => ?_, fun i i1 i2 i3 => ?_, ?_, ?_, hoP, ?_⟩
  · rw [g, if_neg (fun e => hi (by omega))]
    exact h.out i hi
  · rcases (mem y).1 hy with e | e
    · rw [e, gj]
      exact ⟨Nat.le_of_lt hin.1, hin.2, by omega⟩
    · obtain ⟨q1, q2, q3⟩ := h.wt y e
      exact ⟨q1, q2, by rw [keep y q3]; exact q3⟩
  · rw [g]
    split
    · omega
    · exact h.bd i i1 i2
  · rcases back i i3 with e | e
    · rw [e, gj]
      have ex := h.least D' hS x x1 x2 x3
      have := (hS.ok x x1 x2 (by rw [ex]; exact x3)).2 j hj
      rw [ex, hr] at this
      exact this
    · rw [keep i e]
      exact h.least D' hS i i1 i2 e
  · refine h.ub M' hM fun i i1 i2 i3 => ?_
    have := hU i i1 i2 (by rw [keep i i3]; exact i3)
    rw [keep i i3] at this
    exact this
  · rcases back i i3 with e | e
    · rw [e, gj]
      intro R r0 rs
      have := rs x _ j (h.rc x x1 x2 x3 R r0 rs) h.tk hj
      rw [hr] at this
      exact this
    · rw [keep i e]
      exact h.rc i i1 i2 e
  · rw [kx, hr]
    rcases List.mem_append.1 hy with q | q
    · have := h.pr y q
      rw [hr] at this
      rw [keep y (by rw [this]; omega)]
      exact this
    · rw [List.mem_singleton.1 q]
      exact gj
  · rcases back i i3 with e | e
    · exact .inl ((mem i).2 (.inl e))
    · rcases h.done i i1 i2 e with q | q | q
      · exact .inl ((mem i).2 (.inr q))
      · exact .inr (.inl q)
      · exact .inr (.inr (don i q e))
  · rcases h.jm with q | q
    · exact .inl q
    · by_cases hn : jd = -1
      · exact .inl hn
      · refine .inr fun y hy => ?_
        have e := q y hy
        have hy2 := mem_rng.1 hy
        have hb := h.bd y hy2.1.1 hy2.1.2
        rw [keep y (by omega)]
        exact e
  · refine hp.nodup_iff.2 (List.nodup_cons.2 ⟨fun q => ?_, h.nod⟩)
    have := (h.wt j q).2.2
    omega
  · obtain ⟨n, s, r1, r2, r3, r4⟩ := h.tr
    refine ⟨n, s, r1, r2, by rw [kx]; exact r3, ?_⟩
    rw [kx, hr]
    rw [hr] at r4
    refine goN_snoc r4 ?_
    have e := dpf_in D (Nat.le_of_lt hin.1) hin.2
    unfold ndo
    rw [if_pos (show dpf L k D j = -1 from e.trans h1)]
    show some (updI (dpf L k D) j r, updB (wfL Wt) j true) = _
    rw [wfL_push hp]
    congr 2
    funext i
    unfold updI
    by_cases hi : bAt L k ≤ i ∧ i < bAt L (k + 1)
    · rw [dpf_in _ hi.1 hi.2, dpf_in _ hi.1 hi.2, g]
    · unfold dpf
      rw [if_neg hi, if_neg hi, if_neg (fun e => hi (by omega))]
/-- all Next have been gone through -/
theorem WkM.fin {L : List (Nat × Nat)} {J : List Nat} {k : Nat} (hk : k < (bgs L).length) {D0 D : List Int} {Wt : List Nat} {need jd jn : Int} {x : Nat} (h : WkM L J k D0 D Wt need jd x (nxt L J x)) (hjn : jn = jd ∨ (opKi (opL L x) = 4 ∧ jn = restI (opL L x) (D.getD x (-1)))) : WkI L J k D0 D Wt need jn := by
  refine ⟨h.toWkB, fun i h1 h2 h3 => ?_, ?_, h.nod, h.ho, ?_⟩
  rotate_left 2
  · obtain ⟨n, s, r1, r2, r3, r4⟩ := h.tr
    refine ⟨n + 1, s, x, r1, r2, ?_, ?_⟩
    · show tkE (opL L x) (s.1 x) = 0
      rw [r3]; exact h.tk
    · show goN (restI (opL L x) (s.1 x)) _ (nxt L J x) = _
      rw [r3]; exact r4
  · rcases h.done i h1 h2 h3 with q | q | q
    · exact .inl q
    · subst q
      exact .inr ⟨h.tk, h.le, h.pr⟩
    · exact .inr q
  · rcases hjn with e | ⟨e1, e2⟩
    · rw [e]
      exact h.jm
    · refine .inr fun y hy => ?_
      rw [e2]
      refine h.pr y ?_
      unfold nxt
      rw [if_neg (by omega), if_neg (by omega), if_neg (by omega), if_pos e1, (at_in hk h.ax.1 h.ax.2.1).1]
      exact hy
/-- a jump behind which nothing is left to do -/
theorem WkM.skip {L : List (Nat × Nat)} {J : List Nat} {M : List (ByteArray × Nat)} (hG : FdG L J M) {k : Nat} (hk : k < (bgs L).length) {D0 D : List Int} {Wt : List Nat} {need jd : Int} {x : Nat} (h : WkM L J k D0 D Wt need jd x []) (h4 : opKi (opL L x) = 4) (hr : restI (opL L x) (D.getD x (-1)) = jd) : WkI L J k D0 D Wt need jd := by
  have all : ∀ y ∈ nxt L J x, D.getD y (-1) = restI (opL L x) (D.getD x (-1)) := fun y hy => by
    unfold nxt at hy
    rw [if_neg (by omega), if_neg (by omega), if_neg (by omega), if_pos h4, (at_in hk h.ax.1 h.ax.2.1).1] at hy
    rcases h.jm with e | e
    · have := tk_rest h.tk
      omega
    · rw [e y hy, hr]
  refine ⟨h.toWkB, fun i h1 h2 h3 => ?_, h.jm, h.nod, h.ho, ?_⟩
  · rcases h.done i h1 h2 h3 with q | q | q
    · exact .inl q
    · subst q
      exact .inr ⟨h.tk, h.le, all⟩
    · exact .inr q
  · obtain ⟨n, s, r1, r2, r3, r4⟩ := h.tr
    refine ⟨n + 1, s, x, r1, r2, ?_, ?_⟩
    · show tkE (opL L x) (s.1 x) = 0
      rw [r3]; exact h.tk
    · show goN (restI (opL L x) (s.1 x)) _ (nxt L J x) = _
      rw [r3, ← List.nil_append (nxt L J x), goN_app, r4]
      refine goN_id (by have := tk_rest h.tk; omega) fun y hy => ?_
      have hin := nxt_in hG hk h.ax.1 h.ax.2.1 hy
      exact (dpf_in D (Nat.le_of_lt hin.1) hin.2).trans (all y hy)
/-- the depths of a procedure and its need, as they are told -/
structure FinP (L : List (Nat × Nat)) (J : List Nat) (k : Nat) (D : List Int) (need : Int) : Prop where
  sol : Sol L J k D
  bd : ∀ i, bAt L k ≤ i → i < bAt L (k + 1) → -1 ≤ D.getD i (-1) ∧ D.getD i (-1) ≤ 64
  nd : 0 ≤ need ∧ need ≤ 64
  le : ∀ i, bAt L k ≤ i → i < bAt L (k + 1) → 0 ≤ D.getD i (-1) → D.getD i (-1) ≤ need ∧ restI (opL L i) (D.getD i (-1)) ≤ need
  least : ∀ D', Sol L J k D' → ∀ i, bAt L k ≤ i → i < bAt L (k + 1) → 0 ≤ D.getD i (-1) → D'.getD i (-1) = D.getD i (-1)
  ub : ∀ M : Int, 0 ≤ M → (∀ i, bAt L k ≤ i → i < bAt L (k + 1) → 0 ≤ D.getD i (-1) → D.getD i (-1) ≤ M ∧ restI (opL L i) (D.getD i (-1)) ≤ M) → need ≤ M
theorem WkI.fin {L : List (Nat × Nat)} {J : List Nat} {k : Nat} {D0 D : List Int} {need jd : Int} (h : WkI L J k D0 D [] need jd) : FinP L J k D need := by
  have dn : ∀ i, bAt L k ≤ i → i < bAt L (k + 1) → 0 ≤ D.getD i (-1) → Don L J D need i := fun i h1 h2 h3 => by
    rcases h.done i h1 h2 h3 with q | q
    · simp at q
    · exact q
  exact ⟨⟨h.at0, fun i h1 h2 h3 => ⟨(dn i h1 h2 h3).tk, (dn i h1 h2 h3).nx⟩⟩, h.bd, h.nd, fun i h1 h2 h3 => (dn i h1 h2 h3).le, h.least, h.ub⟩
theorem FinP.congr {L : List (Nat × Nat)} {J : List Nat} {M : List (ByteArray × Nat)} (hG : FdG L J M) {k : Nat} (hk : k < (bgs L).length) {D E : List Int} {need : Int} (h : FinP L J k D need) (he : ∀ i, bAt L k ≤ i → i < bAt L (k + 1) → E.getD i (-1) = D.getD i (-1)) : FinP L J k E need := by
  refine ⟨⟨by rw [he _ (Nat.le_refl _) (bAt_lt hk)]; exact h.sol.at0, fun i h1 h2 h3 => ?_⟩, fun i h1 h2 => by rw [he i h1 h2]; exact h.bd i h1 h2, h.nd, fun i h1 h2 h3 => ?_, fun D' hS i h1 h2 h3 => ?_, fun M' hM hU => h.ub M' hM fun i h1 h2 h3 => ?_⟩
  · rw [he i h1 h2] at h3 ⊢
    refine ⟨(h.sol.ok i h1 h2 h3).1, fun j hj => ?_⟩
    have := nxt_in hG hk h1 h2 hj
    rw [he j (Nat.le_of_lt this.1) this.2]
    exact (h.sol.ok i h1 h2 h3).2 j hj
  · rw [he i h1 h2] at h3 ⊢
    exact h.le i h1 h2 h3
  · rw [he i h1 h2] at h3 ⊢
    exact h.least D' hS i h1 h2 h3
  · have := hU i h1 h2 (by rw [he i h1 h2]; exact h3)
    rw [he i h1 h2] at this
    exact this
/-- how many have no depth -/
def unr (D : List Int) (b e : Nat) : Nat := (List.range' b (e - b)).countP fun i => decide (D.getD i (-1) < 0)
theorem unr_set {D : List Int} {b e j : Nat} {v : Int} (h1 : b ≤ j) (h2 : j < e) (hl : j < D.length) (hj : D.getD j (-1) = -1) (hv : 0 ≤ v) : unr (D.set j v) b e + 1 ≤ unr D b e := by
  unfold unr
  have hsp : List.range' b (e - b) = List.range' b (j - b) ++ j :: List.range' (j + 1) (e - (j + 1)) := by
    rw [show e - b = (j - b) + ((e - (j + 1)) + 1) by omega, ← List.range'_append_1, List.range'_succ, show b + (j - b) = j by omega]
  have le : ∀ l : List Nat, l.countP (fun i => decide ((D.set j v).getD i (-1) < 0)) ≤ l.countP (fun i => decide (D.getD i (-1) < 0)) := fun l => by
    refine List.countP_mono_left fun i _ hi => ?_
    rw [getD_set hl] at hi
    by_cases e : i = j
    · rw [if_pos e] at hi
      have := of_decide_eq_true hi
      omega
    · rw [if_neg e] at hi
      exact hi
  rw [hsp, List.countP_append, List.countP_append, List.countP_cons, List.countP_cons]
  have a1 := le (List.range' b (j - b))
  have a2 := le (List.range' (j + 1) (e - (j + 1)))
  have b1 : decide ((D.set j v).getD j (-1) < 0) = false := by rw [getD_set hl, if_pos rfl]; exact decide_eq_false (by omega)
  have b2 : decide (D.getD j (-1) < 0) = true := by rw [hj]; rfl
  rw [b1, b2]
  simp
  simp at a1 a2
  omega
end Go.Proofs.YtgbpfejodpplbaaGreatDoor
namespace Go.Proofs.YtgbpfejodpplbaaGreatDoor
open Go.RowKit Go.WideShapes Go.Shelf
set_option maxRecDepth 100000

abbrev infoV (op : Nat) : Value := .agg #[.string (opWd op), .int .i64 (opWi op), .int .u32 (opMo op), .int .i64 (opTa op), .int .i64 (opGi op), .int .u8 (opKi op)]
/-- a chart in memory -/
structure ChS (w : World) (kc pp : Nat) (ta : Option Addr) (tc : Nat) (ao : Option Addr) (cap : Nat) (L : List (Nat × Nat)) (J : List Nat) : Prop where
  obj : w.heap[kc]? = some (.cells #[.slice ao L.length cap, .pointer (some ⟨pp, 0, none⟩), .slice ta (bgs L).length tc] 118 (0, 0))
  prs : ∃ B p1 g1 p2 g2 lv A C, PrS w B pp p1 g1 p2 g2 L.length lv (prL L) A C
  code : CRd w ao L w.heap.size
  tgt : ∃ bt ot, ta = some ⟨bt, ot, none⟩ ∧ bt < w.heap.size ∧ ∀ k, k < (bgs L).length → ∃ a c, w.cell? ⟨bt, ot + k, none⟩ = some (.slice a (tgs L J k).length c) ∧ JRd w a (tgs L J k) w.heap.size
theorem JRd.mono {w : World} {ao : Option Addr} {J : List Nat} {B C : Nat} (h : JRd w ao J B) (hb : B ≤ C) : JRd w ao J C := fun q => by
  obtain ⟨b, o, e1, e2, e3⟩ := h q
  exact ⟨b, o, e1, Nat.lt_of_lt_of_le e2 hb, e3⟩
theorem ChS.below {w w' : World} {kc pp : Nat} {ta : Option Addr} {tc : Nat} {ao : Option Addr} {cap : Nat} {L : List (Nat × Nat)} {J : List Nat} (h : ChS w kc pp ta tc ao cap L J) (hb : Below w.heap.size w w') : ChS w' kc pp ta tc ao cap L J := by
  refine ⟨(hb.block kc (Array.getElem?_eq_some_iff.1 h.obj).1).trans h.obj, ?_, CRd.mono (CRd.below h.code hb) hb.size, ?_⟩
  · obtain ⟨B, p1, g1, p2, g2, lv, A, C, hp⟩ := h.prs
    exact ⟨B, p1, g1, p2, g2, lv, A, C, hp.below hb⟩
  · obtain ⟨bt, ot, e, hlt, hx⟩ := h.tgt
    refine ⟨bt, ot, e, Nat.lt_of_lt_of_le hlt hb.size, fun k hk => ?_⟩
    obtain ⟨a, c, h1, h2⟩ := hx k hk
    exact ⟨a, c, (hb.cell (p := ⟨bt, ot + k, none⟩) hlt).trans h1, (h2.below hb).mono hb.size⟩
theorem ChS.c0 {w : World} {kc pp : Nat} {ta : Option Addr} {tc : Nat} {ao : Option Addr} {cap : Nat} {L : List (Nat × Nat)} {J : List Nat} (h : ChS w kc pp ta tc ao cap L J) : w.cell? ⟨kc, 0, none⟩ = some (.slice ao L.length cap) := obj_cell h.obj 0
theorem ChS.c1 {w : World} {kc pp : Nat} {ta : Option Addr} {tc : Nat} {ao : Option Addr} {cap : Nat} {L : List (Nat × Nat)} {J : List Nat} (h : ChS w kc pp ta tc ao cap L J) : w.cell? ⟨kc, 1, none⟩ = some (.pointer (some ⟨pp, 0, none⟩)) := obj_cell h.obj 1
theorem ChS.c2 {w : World} {kc pp : Nat} {ta : Option Addr} {tc : Nat} {ao : Option Addr} {cap : Nat} {L : List (Nat × Nat)} {J : List Nat} (h : ChS w kc pp ta tc ao cap L J) : w.cell? ⟨kc, 2, none⟩ = some (.slice ta (bgs L).length tc) := obj_cell h.obj 2
theorem infoOI : (Tryz.prog.info? 101).map (·.size) = some 6 := by kernel_rfl
theorem undOI : ∃ fs, Tryz.prog.underlying 101 = some (.struct fs) := by
  have h : (match Tryz.prog.underlying 101 with | some (.struct _) => true | _ => false) = true := by kernel_rfl
  split at h
  · exact ⟨_, by assumption⟩
  · cases h
theorem six_all (s : ByteArray) (a b c d e : Int) : (#[Value.string s, .int .i64 a, .int .u32 b, .int .i64 c, .int .i64 d, .int .u8 e].all fun x => x.oneCell') = true := by simp [Value.oneCell']
theorem heap_thru {A B : World} {k : Nat} {o : Obj} (hb : Below A.heap.size A B) (h : A.heap[k]? = some o) : B.heap[k]? = some o := (hb.block k (Array.getElem?_eq_some_iff.1 h).1).trans h
set_option maxHeartbeats 1000000 in
theorem cinfo_any {w : World} {kc pp : Nat} {ta : Option Addr} {tc : Nat} {ao : Option Addr} {cap : Nat} {L : List (Nat × Nat)} {J : List Nat} (h : ChS w kc pp ta tc ao cap L J) (i : Nat) (hi : i < L.length) (hop : opL L i < 256) :
    Calls Tryz.prog 83 #[.pointer (some ⟨kc, 0, none⟩), .int .u32 i] w fun e w' => e = .returned (infoV (opL L i)) ∧ Below w.heap.size w w' := by
  obtain ⟨b, off, rfl, hb, hc⟩ := h.code (by omega)
  have HV : Hid (∀ o, (w.alloc o).cell? ⟨kc, 0, none⟩ = some (.slice (some ⟨b, off, none⟩) L.length cap) ∧ (w.alloc o).cell? ⟨b, off + i * 2, none⟩ = some (.int .u8 (opL L i : Nat))) := hidS (fun o => ⟨(h.below (belP (Below.refl _ _))).c0, ((Below.refl w.heap.size w).alloc (Nat.le_refl _) o |>.cell (p := ⟨b, off + i * 2, none⟩) hb).trans (hc i hi).1⟩)
  have k0 := fun o => (HV.out o).1
  have k1 := fun o => (HV.out o).2
  have HI := hidS (fun W => info_any (opL L i) W hop)
  have hiI : (i : Int) < (L.length : Int) := by omega
  have hz : Below w.heap.size w w := Below.refl _ _
  generalize opL L i = op at *
  clear hc h
  go_enter Tryz.func83, Tryz.ntmps83
  go_wp2_with (first
    | (go_at_call 40; with_reducible refine (HI.out _).mono ?_; rintro e w1 ⟨rfl, hb1⟩; have hO := heap_thru hb1 (heap_alloc_new w (Obj.cells #[.string ⟨#[]⟩, .int .i64 0, .int .u32 0, .int .i64 0, .int .i64 0, .int .u8 0] 101)))
    | (refine Go.wpList_store_row rfl _ _ _ rfl w.heap.size _ rfl rfl 101 #[.string ⟨#[]⟩, .int .i64 0, .int .u32 0, .int .i64 0, .int .i64 0, .int .u8 0] ((Below.heap_alloc _ _ _ (by exact (Array.getElem?_eq_some_iff.1 hO).1)).trans hO) infoOI rfl (six_all _ _ _ _ _ _) ?_))
  obtain ⟨fs, hu⟩ := undOI
  exact bodyPost_ret (results_cell_row (p := 4) (ty := 101) (by kernel_rfl) _ _ w.heap.size 101 #[.string (opWd op), .int .i64 (opWi op), .int .u32 (opMo op), .int .i64 (opTa op), .int .i64 (opGi op), .int .u8 (opKi op)] (0, 0) _ rfl (setRow_heap _ _ _ _ _ _ ((Below.heap_alloc _ _ _ (by exact (Array.getElem?_eq_some_iff.1 hO).1)).trans hO)) hu rfl infoOI) rfl ⟨rfl, below_setRow (belP (btP (belP (Below.refl _ _)) hb1)) (Nat.le_refl _) _⟩
theorem op_small : ∀ op, op < 256 → opTa op ≤ 16 ∧ opGi op ≤ 16 := fun op h => by
  have := List.all_eq_true.1 (show ((List.range 256).all fun k => decide (opTa k ≤ 16 ∧ opGi k ≤ 16)) = true by kernel_rfl) op (List.mem_range.2 h)
  exact of_decide_eq_true this
set_option maxHeartbeats 1000000 in
theorem taken_any (op : Nat) (d : Int) (w : World) (hop : op < 256) (hd : -1 ≤ d ∧ d ≤ 64) :
    Calls Tryz.prog 84 #[infoV op, .int .i64 d] w fun e w' => e = .returned (.tuple #[.int .i64 (if tkE op d = 0 then restI op d else 0), .int .i64 (tkE op d : Nat)]) ∧ Below w.heap.size w w' := by
  have hs := op_small op hop
  unfold tkE restI infoV
  generalize opWd op = s0
  generalize opWi op = s1
  generalize opMo op = s2
  generalize opTa op = ta at *
  generalize opGi op = gi at *
  generalize hK : opKi op = ki
  have hta : (ta : Int) ≤ 16 := by omega
  have hgi : (gi : Int) ≤ 16 := by omega
  have hkk : (opKi op) < 256 := opKi_lt op hop
  rw [hK] at hkk
  clear hK hs hop
  by_cases h1 : d < (ta : Int)
  · simp only [if_pos h1]
    go_enter Tryz.func84, Tryz.ntmps84
    go_wp2
    exact bodyPost_ret (v := .tuple #[.int .i64 0, .int .i64 140]) (by simp [results, Tryz.f84, go_sem]) rfl ⟨rfl, belP (Below.refl _ _)⟩
  · simp only [if_neg h1]
    by_cases h2 : 64 < d - (ta : Int) + gi
    · simp only [if_pos h2]
      go_enter Tryz.func84, Tryz.ntmps84
      go_wp2
      exact bodyPost_ret (v := .tuple #[.int .i64 0, .int .i64 141]) (by simp [results, Tryz.f84, go_sem]) rfl ⟨rfl, belP (Below.refl _ _)⟩
    · simp only [if_neg h2]
      by_cases h7 : ki = 7
      · subst h7
        rw [show ((7 : Nat) : Int) = 7 from rfl]
        by_cases hd1 : d = 1
        · have e1 : (if (7 : Nat) = 7 ∧ d ≠ 1 then 143 else 0) = 0 := if_neg (fun q => q.2 hd1)
          rw [e1, if_pos rfl]
          subst hd1
          clear e1
          go_enter Tryz.func84, Tryz.ntmps84
          go_wp2
          exact bodyPost_ret (v := .tuple #[.int .i64 (1 - ta + gi), .int .i64 0]) (by simp [results, Tryz.f84, go_sem]) rfl ⟨rfl, belP (Below.refl _ _)⟩
        · have hd2 : (d != 1) = true := by simp [hd1]
          have e1 : (if (7 : Nat) = 7 ∧ d ≠ 1 then 143 else 0) = 143 := if_pos ⟨rfl, hd1⟩
          rw [e1, if_neg (by decide)]
          clear e1
          go_enter Tryz.func84, Tryz.ntmps84
          go_wp2
          exact bodyPost_ret (v := .tuple #[.int .i64 0, .int .i64 143]) (by simp [results, Tryz.f84, go_sem]) rfl ⟨rfl, belP (Below.refl _ _)⟩
      · have h7I : ((ki : Int) == 7) = false := beq_eq_false_iff_ne.2 (by omega)
        have e1 : (if ki = 7 ∧ d ≠ 1 then 143 else 0) = 0 := if_neg (fun q => h7 q.1)
        rw [e1, if_pos rfl]
        clear e1
        go_enter Tryz.func84, Tryz.ntmps84
        go_wp2
        exact bodyPost_ret (v := .tuple #[.int .i64 (d - ta + gi), .int .i64 0]) (by simp [results, Tryz.f84, go_sem]) rfl ⟨rfl, belP (Below.refl _ _)⟩
end Go.Proofs.YtgbpfejodpplbaaGreatDoor
