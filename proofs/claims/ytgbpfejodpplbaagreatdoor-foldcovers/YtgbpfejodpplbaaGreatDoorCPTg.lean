import Derived.Test.YtgbpfejodpplbaaGreatDoorCVCl
import Derived.Test.YtgbpfejodpplbaaGreatDoorCPIn
import Derived.Laws.CopyOwn
import Derived.Laws.ResultCell
namespace Go.Proofs.YtgbpfejodpplbaaGreatDoor
open Go.RowKit Go.WideShapes Go.Shelf
set_option maxRecDepth 100000
attribute [local go_sem] Oper.semAt_some

theorem Tryz.infoD : (Tryz.prog.info? 25).map (fun i => (i.zero, i.size, i.bytes)) = some (some (.int .u32 0), 1, 4) := by kernel_rfl
/-- words as values -/
def dv (J : List Nat) : List Value := J.map fun (z : Nat) => Value.int .u32 (z : Int)
theorem dv_snoc (J : List Nat) (x : Nat) : dv (J ++ [x]) = dv J ++ [.int .u32 (x : Int)] := by simp [dv]
set_option maxHeartbeats 1000000 in
theorem ptargets_in {B pp p1 g1 p2 g2 n : Nat} {lv : Value} {Ps : List (Nat × Nat × Nat)} {A C : List Nat} (i : Nat) (w : World) (hi : i < Ps.length) (hn : n ≤ 16384) (hPe : (Ps.getD i (0, 0, 0)).1 ≤ n ∧ (Ps.getD i (0, 0, 0)).2.1 ≤ n) (hT : TabW w) (h : PrS w B pp p1 g1 p2 g2 n lv Ps A C) :
    Calls Tryz.prog 52 #[.pointer (some ⟨pp, 0, none⟩), .int .i64 i] w fun e w' => ∃ v, e = .returned v ∧ w'.ownsRow w.heap.size 25 1 v (rng (hasW C) (Ps.getD i (0, 0, 0)).1 (Ps.getD i (0, 0, 0)).2.1).length (dv (rng (hasW C) (Ps.getD i (0, 0, 0)).1 (Ps.getD i (0, 0, 0)).2.1)) ∧ Below w.heap.size w w' := by
  have HPR := pproc_in i w hi h
  obtain ⟨pb, pe, pf, hq⟩ : ∃ pb pe pf, Ps.getD i (0, 0, 0) = (pb, pe, pf) := ⟨_, _, _, rfl⟩
  rw [hq] at HPR hPe ⊢
  simp only at HPR hPe ⊢
  clear hq
  have HH : Hid (∀ W, Below w.heap.size w W → Calls Tryz.prog 71 #[.pointer (some ⟨p2, 0, none⟩)] W fun e w' => e = .returned (.slice (some ⟨g2, 0, none⟩) C.length C.length) ∧ w' = W) := hidS (fun W hW => held_any p2 g2 n _ C W (h.below hW).s2)
  have HC3 : Hid (∀ W, Below w.heap.size w W → W.cell? ⟨pp, 3, none⟩ = some (.pointer (some ⟨p2, 0, none⟩))) := hidS (fun W hW => (h.below hW).c3)
  have hp : 0 < w.heap.size := hT.pos
  have HWS : Hid (∀ W, Below w.heap.size w W → Ws W (some ⟨g2, 0, none⟩) C w.heap.size ∧ TabW W) := hidS (fun W hW => ⟨fun _ => ⟨g2, 0, rfl, h.s2.ltg, fun j hj => by rw [Nat.zero_add]; exact (h.below hW).s2.word hj⟩, hT.below hW hp⟩)
  have HCl := hidS h.s2.len
  have hCw := h.s2.wf
  clear h hT
  refine (callsIn_wide (n := 30)).1 ?_
  refine callsIn_of_wp_marks Tryz.func52 rfl trivial ?_ rfl
  simp only [Tryz.ntmps52, List.size_toArray, List.length_cons, List.length_nil, Nat.reduceAdd, Nat.reduceSub, Array.replicate_succ, Array.replicate_zero, List.push_toArray, List.append_toArray, List.nil_append, List.cons_append]
  gi_wp2_with ((first | refine ⟨trivial, fun _ => by omega, ?_⟩ | refine ⟨trivial, ?_⟩); gi_at_call 79; refine (callsIn_wide.2 HPR).mono ?_; rintro en w1 ⟨rfl, hb1⟩)
  obtain ⟨W2, hW2⟩ : ∃ W, (w1.alloc (Obj.cells #[.int .u32 (pb : Int), .int .u32 (pe : Int), .int .u32 (pf : Int), .int .i64 0] 94)).alloc (Obj.cells #[.slice none 0 0] 23) = W := ⟨_, rfl⟩
  have hbW : Below w.heap.size w W2 := by rw [← hW2]; exact belP (belP hb1)
  have bT : Boxed W2 (w1.heap.size + 1) 23 (.slice none 0 0) := by
    have := Boxed.new (w1.alloc (Obj.cells #[.int .u32 (pb : Int), .int .u32 (pe : Int), .int .u32 (pf : Int), .int .i64 0] 94)) 23 (.slice none 0 0)
    rw [World.size_alloc, hW2] at this
    exact this
  have oP : W2.heap[w1.heap.size]? = some (Obj.cells #[.int .u32 (pb : Int), .int .u32 (pe : Int), .int .u32 (pf : Int), .int .i64 0] 94) := by
    rw [← hW2, Below.heap_alloc _ _ _ (by simp)]
    exact heap_alloc_new _ _
  have hz2 : W2.heap.size = w1.heap.size + 2 := by rw [← hW2]; simp
  rw [hW2]
  obtain ⟨kP, hkP⟩ : ∃ k, w1.heap.size = k := ⟨_, rfl⟩
  have hz1 := hb1.size
  rw [hkP] at bT oP hz2 hz1 ⊢
  have HZ2 := hidS hz2
  have HK1 : Hid (W2.heap.size = kP + 2) := hidS hz2
  clear hW2 hkP hb1 HPR hz2
  have c0 := (obj_cell oP 0).trans rfl
  have c1 := (obj_cell oP 1).trans rfl
  have c3 := HC3.out W2 hbW
  refine with_tmpsP fun T0 hT0 => ?_
  have HT0 := hidS hT0
  clear hT0
  refine wpIn_mono (Q := fun e a V => e = .normal ∧ ∃ Wd : World, Below W2.heap.size W2 Wd ∧ V = ((Wd.alloc (.cells #[.slice (some ⟨g2, 0, none⟩) C.length C.length] 143)).alloc (.cells #[.int .i64 (pb : Int)] 3)).alloc (.cells #[.int .i64 (pe : Int)] 3) ∧
    a = { tmps := (((((((((((T0.setIfInBounds 17 (.pointer (some ⟨pp, 0, none⟩))).setIfInBounds 18 (.pointer (some ⟨pp, 0, none⟩))).setIfInBounds 19 (.pointer (some ⟨pp, 3, none⟩))).setIfInBounds 20 (.pointer (some ⟨p2, 0, none⟩))).setIfInBounds 21 (.slice (some ⟨g2, 0, none⟩) C.length C.length)).setIfInBounds 22 (.pointer (some ⟨kP, 0, none⟩))).setIfInBounds 23 (.int .u32 (pb : Int))).setIfInBounds 24 (.int .i64 (pb : Int))).setIfInBounds 25 (.pointer (some ⟨kP, 1, none⟩))).setIfInBounds 26 (.int .u32 (pe : Int))).setIfInBounds 27 (.int .i64 (pe : Int))).setIfInBounds 28 (.func (.func 96) #[] #[.pointer (some ⟨Wd.heap.size, 0, none⟩), .pointer (some ⟨Wd.heap.size + 1, 0, none⟩), .pointer (some ⟨Wd.heap.size + 2, 0, none⟩)]), defers := [] }) ?region ?rest
  case region =>
    rw [HT0.out]
    refine wpIn_wide.2 ?_
    have hAw := hidS (fun (W : World) => withinuint32_any (some ⟨g2, 0, none⟩) C.length C.length (pb : Int) (pe : Int) W)
    have hpb : pb < 4294967296 := by omega
    have hpe : pe < 4294967296 := by omega
    have hwb : IntKind.i64.wrap (pb : Int) = (pb : Int) := by rw [IntKind.wrap_i64]; omega
    have hwe : IntKind.i64.wrap (pe : Int) = (pe : Int) := by rw [IntKind.wrap_i64]; omega
    have HW := hidS (And.intro hwb hwe)
    clear hwb hwe
    have HHd : Hid (Calls Tryz.prog 71 #[.pointer (some ⟨p2, 0, none⟩)] W2.drew fun e w' => e = .returned (.slice (some ⟨g2, 0, none⟩) C.length C.length) ∧ w' = W2.drew) := hidS (HH.out W2.drew (below_drewN hbW 1))
    have HBd : Hid (Below W2.heap.size W2 W2.drew) := hidS (below_drewN (Below.refl _ _) 1)
    have HKS : Hid (∀ V, Below W2.heap.size W2 V → V.cell? ⟨pp, 3, none⟩ = some (.pointer (some ⟨p2, 0, none⟩)) ∧ V.cell? ⟨kP, 0, none⟩ = some (.int .u32 (pb : Int)) ∧ V.cell? ⟨kP, 1, none⟩ = some (.int .u32 (pe : Int))) := hidS (fun V hV => ⟨HC3.out V (btP hbW hV), (hV.cell (p := ⟨kP, 0, none⟩) (Array.getElem?_eq_some_iff.1 oP).1).trans c0, (hV.cell (p := ⟨kP, 1, none⟩) (Array.getElem?_eq_some_iff.1 oP).1).trans c1⟩)
    go_region_held3 (fun V => V.cell? ⟨pp, 3, none⟩ = some (.pointer (some ⟨p2, 0, none⟩)) ∧ V.cell? ⟨kP, 0, none⟩ = some (.int .u32 (pb : Int)) ∧ V.cell? ⟨kP, 1, none⟩ = some (.int .u32 (pe : Int))) (first | exact HKS.out _ HBd.out | exact HKS.out _ (below_drewN (belP (belP (belP (Below.refl _ _)))) 1)) (first
      | (go_at_call 71; with_reducible refine HHd.out.mono ?_; rintro e w3 ⟨rfl, hw3⟩; subst hw3)
      | (go_at_call 72; rw [HW.out.1, HW.out.2]; with_reducible refine (hAw.out _).mono ?_; rintro e w4 ⟨rfl, hw4⟩))
    all_goals exact ⟨rfl, W2.drew, HBd.out, rfl, rfl⟩
  case rest =>
    rintro e a V ⟨rfl, Wd, hbd, rfl, rfl⟩
    obtain ⟨i0, hi0, hy0, hy1, hy2⟩ := info_parts Tryz.infoD
    rw [HT0.out]
    simp only [List.setIfInBounds_toArray, List.set_cons_succ, List.set_cons_zero]
    gi_wp2
    obtain ⟨W4, hW4⟩ : ∃ W, ((Wd.alloc (.cells #[.slice (some ⟨g2, 0, none⟩) C.length C.length] 143)).alloc (.cells #[.int .i64 (pb : Int)] 3)).alloc (.cells #[.int .i64 (pe : Int)] 3) = W := ⟨_, rfl⟩
    have hd4 : Below W2.heap.size W2 W4 := by rw [← hW4]; exact belP (belP (belP hbd))
    have hb4 : Below w.heap.size w W4 := btP hbW hd4
    have hz4 : W4.heap.size = Wd.heap.size + 3 := by rw [← hW4]; simp
    have bT4 := box_thru hd4 bT
    have HI4 : InP C Wd.heap.size (Wd.heap.size + 1) (Wd.heap.size + 2) (some ⟨g2, 0, none⟩) C.length pb pe w.heap.size W4 := by
      refine ⟨?_, ?_, ?_, (HWS.out W4 hb4).1, (HWS.out W4 hb4).2⟩
      · rw [← hW4]
        exact ((Boxed.new Wd _ _).alloc _).alloc _
      · have := (Boxed.new (Wd.alloc (.cells #[.slice (some ⟨g2, 0, none⟩) C.length C.length] 143)) 3 (.int .i64 (pb : Int))).alloc (.cells #[.int .i64 (pe : Int)] 3)
        rw [World.size_alloc, hW4] at this
        exact this
      · have := Boxed.new ((Wd.alloc (.cells #[.slice (some ⟨g2, 0, none⟩) C.length C.length] 143)).alloc (.cells #[.int .i64 (pb : Int)] 3)) 3 (.int .i64 (pe : Int))
        rw [World.size_alloc, World.size_alloc, hW4] at this
        exact this
    rw [hW4]
    obtain ⟨Bw, hBw⟩ : ∃ k, Wd.heap.size = k := ⟨_, rfl⟩
    have hzd := hbd.size
    have hz22 := HZ2.out
    rw [hBw] at HI4 hz4 hzd ⊢
    clear hW4 hBw hbd
    have hCl := HCl.out
    have hlC : C.length ≤ 16384 := by omega
    have h64 : n ≤ 64 * C.length := by omega
    have HIN : Hid (∀ V, Kp (fun k => k = kP + 1) W4 V → InP C Bw (Bw + 1) (Bw + 2) (some ⟨g2, 0, none⟩) C.length pb pe w.heap.size V) := hidS (fun V hk => by
      have hbv : Below w.heap.size w V := hb4.trans (hk.below hb4.size (fun i e => by omega))
      refine ⟨(hk.block Bw HI4.bw.lt (by omega)).trans HI4.bw, (hk.block (Bw + 1) HI4.bf.lt (by omega)).trans HI4.bf, (hk.block (Bw + 2) HI4.be.lt (by omega)).trans HI4.be, (HWS.out V hbv).1, (HWS.out V hbv).2⟩)
    have HSQ : Hid (SeqOwn Fence.wide (30 - 1) Tryz.prog 96 #[.pointer (some ⟨Bw, 0, none⟩), .pointer (some ⟨Bw + 1, 0, none⟩), .pointer (some ⟨Bw + 2, 0, none⟩)] encuint32 (KeP C Bw (Bw + 1) (Bw + 2) (some ⟨g2, 0, none⟩) C.length pb pe w.heap.size) (fun ys => ys = rng (hasW C) pb pe) (fun pre => pre <+: rng (hasW C) pb pe) 1048577 W4) := hidS (sequint32 (30 - 1) (by decide) Bw (Bw + 1) (Bw + 2) w.heap.size (some ⟨g2, 0, none⟩) C.length pb pe C W4 hlC hCw (by omega) (by omega) HI4 hb4.size (by omega))
    have hrl : (rng (hasW C) pb pe).length ≤ 16384 := Nat.le_trans (rng_len _ _ _) (by omega)
    refine with_tmpsP fun T hT2 => ?_
    have HT := hidS hT2
    clear hT2 hCl
    refine range_outer (F := Fence.wide) rfl (by decide) (gf := 96) (lb := #[.pointer (some ⟨Bw, 0, none⟩), .pointer (some ⟨Bw + 1, 0, none⟩), .pointer (some ⟨Bw + 2, 0, none⟩)]) (by rw [HT.out]; rfl) trivial (enters_of Tryz.func96 (by kernel_rfl) rfl)
      HSQ.out KeP_t (KeP_b (w := W4)) (Below.refl _ _) (fun _ => rfl)
      (fun pre U => Kp (fun k => k = kP + 1) W4 U ∧ ∃ lv, Boxed U (kP + 1) 23 lv ∧ U.ownsRow W4.heap.size 25 1 lv pre.length (dv pre))
      (fun c pre U => False)
      (fun s A C row h hg hr => by
        obtain ⟨g1, lv, g2, g3⟩ := h
        refine ⟨g1.trans (Kp.ofGrown (S := fun k => W4.heap.size ≤ k) hg (fun i e _ => (hr i e).1)) (fun i hi e => by omega), lv, low_kept g2 (by omega) hg hr, (Kp.ofGrown (S := fun k => row = some k) hg (fun i e _ => e)).own g3 (fun k e q => ?_)⟩
        obtain ⟨_, o, ho, hc⟩ := hr k q
        rcases g3.2 with hn | ⟨g', cap', cur', e1, e2, e3, e4⟩
        · rw [hn.1] at e
          cases e
        · rw [e1] at e
          cases e
          rw [e3] at ho
          cases ho
          cases hc)
      (fun c s A C row h hg hr => h)
      ⟨Kp.refl _ _, .slice none 0 0, bT4, World.ownsRow_nil _ _ _ _⟩
      (fun x a' U => a' = { tmps := ((((#[29] : Array Tmp).zip (encuint32 x)).foldl (fun t (p, v) => t.setIfInBounds p v) T).setIfInBounds 8 (.int .u32 x)), defers := [] })
      (fun x a' => Own.from (fun t A C row h hg hr => h) _)
      ?assign ?body ?done (fun D c pre W _ _ h _ => h.elim)
    case assign =>
      intro l0 pre x V K hI hK
      have HF := hidS (fun a' (ha : _) => hK a' V (Upon.refl _ V) (fun y => y) hI ha)
      clear hK hI
      rw [HT.out]
      gi_wp2
      exact HF.out _ (by rw [HT.out]; simp)
    case body =>
      rintro l0 pre x a' U hl0 hrec ⟨h1, lv, h2, h3⟩ rfl hln hsp
      have hpl : pre.length + 1 ≤ 16384 := by
        have := hsp.length_le
        simp at this
        omega
      obtain ⟨la, lc, hlv⟩ : ∃ la lc, lv = .slice la pre.length lc := by
        rcases h3.2 with ⟨hn, hz⟩ | ⟨g', cap', cur', e1, e2⟩
        · exact ⟨none, 0, by rw [hn, hz]⟩
        · exact ⟨_, _, e1⟩
      subst hlv
      have cT := h2.cell
      have cT' := fun o => (h2.alloc o).cell
      have H1 := hidS h1
      have H2 := hidS h2
      have H3 := hidS h3
      clear h1 h2 hrec hln hsp
      rw [HT.out]
      gi_wp2_with (gi_at_builtin; refine wpListIn_append_own _ rfl _ _ 23 rfl W4.heap.size 25 i0 (.int .u32 0) 1 4 Tryz.underlying23 hi0 hy0 hy1 hy2 rfl (by decide) _ _ _ rfl (h3.alloc _) ⟨_, 0, none⟩ 1 1 [.int .u32 x] rfl rfl ?g1 ?g2 ?g3 ?g4 ?g5 ?_)
      case g1 =>
        intro j u hj
        match j, hj with
        | 0, hj => simp at hj; subst hj; simp [Addr.add]
      case g2 => intro u hu; simp at hu; subst hu; rfl
      case g3 => unfold maxLen; omega
      case g4 => omega
      case g5 => have := H1.out.size; simp; omega
      intro v' W1 own1 hg1 _
      obtain ⟨g, gc, hv'⟩ : ∃ g gc, v' = .slice (some ⟨g, 0, none⟩) (pre.length + 1) gc := by
        rcases own1.2 with ⟨_, hz⟩ | ⟨g', cap', cur', e1, _⟩
        · omega
        · exact ⟨_, _, e1⟩
      subst hv'
      have hkW : Kp (fun k => (Value.slice la pre.length lc).ownBlock = some k) U W1 := (Kp.alloc U _).trans (Kp.ofGrown (S := fun k => (Value.slice la pre.length lc).ownBlock = some k) hg1 (fun i e _ => e)) (fun _ _ q => q)
      have hlo : ∀ k, (Value.slice la pre.length lc).ownBlock = some k → W4.heap.size ≤ k ∧ ∃ o : Obj, U.heap[k]? = some o ∧ o.isCells = true := fun k e => by
        refine ⟨(H3.out.lt k e).1, ?_⟩
        rcases H3.out.2 with hn | ⟨g', cap', cur', e1, e2, e3, e4⟩
        · rw [hn.1] at e
          cases e
        · rw [e1] at e
          cases e
          exact ⟨_, e3, rfl⟩
      have lT : kP + 1 < W4.heap.size := by omega
      have bT1 : Boxed W1 (kP + 1) 23 (.slice la pre.length lc) := (hkW.block (kP + 1) H2.out.lt (fun e => by have := (hlo _ e).1; omega)).trans H2.out
      have c4 := bT1.cell
      have f4 := bT1.frozen
      have HKW := hidS (And.intro hkW hlo)
      have HO1 := hidS (And.intro own1 bT1)
      clear hkW hlo own1 hg1 cT cT'
      gi_wp2
      have hk2 : Kp (fun k => k = kP + 1) W4 (W1.setCell ⟨kP + 1, 0, none⟩ (.slice (some ⟨g, 0, none⟩) (pre.length + 1) gc)) := (H1.out.trans HKW.out.1 (fun i hi e => by have := (HKW.out.2 i e).1; omega)).trans (Kp.setCell (S := fun k => k = kP + 1) _ _ _ rfl) (fun _ _ q => q)
      have upV : Upon W4.heap.size U W1 := ⟨HKW.out.1.size, fun k o _ hk hc => (HKW.out.1.block k (Array.getElem?_eq_some_iff.1 hk).1 (fun e => by
        obtain ⟨_, o2, e2, e3⟩ := HKW.out.2 k e
        rw [hk] at e2
        cases e2
        rw [hc] at e3
        cases e3)).trans hk⟩
      refine ⟨upV.trans (Upon.setCell _ _ _), fun _ => HIN.out _ hk2, hk2, _, HO1.out.2.set _, ?_⟩
      rw [List.length_append, dv_snoc, hz4]
      exact ownsRow_setCell_below (a := ⟨kP + 1, 0, none⟩) HO1.out.1 (by show kP + 1 < _; omega) _
    case done =>
      rintro D1 xs U hD hS ⟨h1, lv2, h2, h3⟩ hd
      subst hS
      obtain ⟨la, lc, hlv⟩ : ∃ la lc, lv2 = .slice la (rng (hasW C) pb pe).length lc := by
        rcases h3.2 with ⟨hn, hz⟩ | ⟨g', cap', cur', e1, e2⟩
        · exact ⟨none, 0, by rw [hn, hz]⟩
        · exact ⟨_, _, e1⟩
      subst hlv
      have cT := h2.cell
      have H1 := hidS h1
      have H3 := hidS h3
      have HD := hidS (And.intro hd hD)
      clear h1 h2 h3 hd hD
      rw [HT.out]
      gi_wp2
      refine ⟨by simp, .inl ⟨_, _, rfl, run_takeDeferred HD.out.1, ?_⟩⟩
      have hkp : Kp (fun k => W4.heap.size ≤ k ∧ ∃ o : Obj, U.heap[k]? = some o ∧ o.isCells = false) U (U.putObj D1 (.deferred none)) := Kp.ofGrown (grownBy_putObj' _ D1 (.deferred none)) (fun i e _ => by cases e; exact ⟨HD.out.2, _, HD.out.1, rfl⟩)
      refine ⟨.slice la (rng (hasW C) pb pe).length lc, ?_, _, rfl, own_base (hkp.own H3.out (fun k e q => ?_)) hb4.size, ?_⟩
      · simp [results, Tryz.f52, go_sem]
      · obtain ⟨_, o, ho, hc⟩ := q
        rcases H3.out.2 with hn | ⟨g', cap', cur', e1, e2, e3, e4⟩
        · rw [hn.1] at e
          cases e
        · rw [e1] at e
          cases e
          rw [e3] at ho
          cases ho
          cases hc
      · have hk := H1.out.trans hkp (fun i hi e => by omega)
        exact hb4.trans (hk.below hb4.size (fun i e => by omega))
end Go.Proofs.YtgbpfejodpplbaaGreatDoor
namespace Go.Proofs.YtgbpfejodpplbaaGreatDoor
open Go.RowKit Go.WideShapes
set_option maxRecDepth 100000
theorem wpList_store_rowV {P : Program} {ops : Array Oper} {Q : Exit → Act → World → Prop} {rest : List Oper} {o : Oper} {a : Act} {w : World} (hg : o.guard = none) (t : TypeId) (p q : Operand) (ho : o.op = .store t p q)
    (b : Nat) (cs cs' : Array Value) (h0 : a.eval p = .pointer (some ⟨b, 0, none⟩)) (h1 : a.eval q = .agg cs') (hb : w.heap[b]? = some (.cells cs t)) (hi : (P.info? t).map (·.size) = some cs'.size) (hs : cs.size = cs'.size) (h2 : cs'.all (·.oneCell') = true)
    (h : wpList P ops Q rest (a.put o.dst undef) (w.setRow b cs')) : wpList P ops Q (o :: rest) a w := by
  refine wpList_plain hg fun _ hK => ?_
  have := run_storeVar_row (P := P) w b t t cs cs' hb hi hs h2
  unfold Oper.wp
  have hr : (execOp a.eval o).run P w = .ok .skip (w.setRow b cs') := by
    simp only [execOp, ho, h0, h1, Instr.storeAt, Instr.sureAddr, Sem.run_bind, Sem.run_pure, Result.andThen, this]
  rw [hr]
  exact hK _ _ h

theorem sizeVIm : (Tryz.prog.info? 28).map (·.size) = some 6 := by kernel_rfl
theorem undVIm : ∃ fs, Tryz.prog.underlying 28 = some (.struct fs) := by
  have h : (match Tryz.prog.underlying 28 with | some (.struct _) => true | _ => false) = true := by kernel_rfl
  split at h
  · exact ⟨_, by assumption⟩
  · cases h
theorem resVIm {fn : Func} {p : Tmp} (hf : fn.results = #[.cell p 28]) (W : World) (b : Nat) (cs : Array Value) (hs : cs.size = 6) (hb : W.heap[b]? = some (.cells cs 28)) (tmps : Array Value) (h2 : tmps.getD p undef = .pointer (some ⟨b, 0, none⟩)) :
    (results fn tmps).run Tryz.prog W = .ok (.agg cs) W := by
  obtain ⟨fs, hu⟩ := undVIm
  exact results_cell_row (p := p) (ty := 28) hf tmps W b 28 cs (0, 0) _ h2 hb hu rfl (by rw [sizeVIm, hs])

theorem sizeVPd : (Tryz.prog.info? 57).map (·.size) = some 2 := by kernel_rfl
theorem undVPd : ∃ fs, Tryz.prog.underlying 57 = some (.struct fs) := by
  have h : (match Tryz.prog.underlying 57 with | some (.struct _) => true | _ => false) = true := by kernel_rfl
  split at h
  · exact ⟨_, by assumption⟩
  · cases h
theorem resVPd {fn : Func} {p : Tmp} (hf : fn.results = #[.cell p 57]) (W : World) (b : Nat) (cs : Array Value) (hs : cs.size = 2) (hb : W.heap[b]? = some (.cells cs 57)) (tmps : Array Value) (h2 : tmps.getD p undef = .pointer (some ⟨b, 0, none⟩)) :
    (results fn tmps).run Tryz.prog W = .ok (.agg cs) W := by
  obtain ⟨fs, hu⟩ := undVPd
  exact results_cell_row (p := p) (ty := 57) hf tmps W b 57 cs (0, 0) _ h2 hb hu rfl (by rw [sizeVPd, hs])

theorem sizeVPr : (Tryz.prog.info? 94).map (·.size) = some 4 := by kernel_rfl
theorem undVPr : ∃ fs, Tryz.prog.underlying 94 = some (.struct fs) := by
  have h : (match Tryz.prog.underlying 94 with | some (.struct _) => true | _ => false) = true := by kernel_rfl
  split at h
  · exact ⟨_, by assumption⟩
  · cases h
theorem resVPr {fn : Func} {p : Tmp} (hf : fn.results = #[.cell p 94]) (W : World) (b : Nat) (cs : Array Value) (hs : cs.size = 4) (hb : W.heap[b]? = some (.cells cs 94)) (tmps : Array Value) (h2 : tmps.getD p undef = .pointer (some ⟨b, 0, none⟩)) :
    (results fn tmps).run Tryz.prog W = .ok (.agg cs) W := by
  obtain ⟨fs, hu⟩ := undVPr
  exact results_cell_row (p := p) (ty := 94) hf tmps W b 94 cs (0, 0) _ h2 hb hu rfl (by rw [sizeVPr, hs])

theorem sizeVIn : (Tryz.prog.info? 43).map (·.size) = some 2 := by kernel_rfl
theorem undVIn : ∃ fs, Tryz.prog.underlying 43 = some (.struct fs) := by
  have h : (match Tryz.prog.underlying 43 with | some (.struct _) => true | _ => false) = true := by kernel_rfl
  split at h
  · exact ⟨_, by assumption⟩
  · cases h
theorem resVIn {fn : Func} {p : Tmp} (hf : fn.results = #[.cell p 43]) (W : World) (b : Nat) (cs : Array Value) (hs : cs.size = 2) (hb : W.heap[b]? = some (.cells cs 43)) (tmps : Array Value) (h2 : tmps.getD p undef = .pointer (some ⟨b, 0, none⟩)) :
    (results fn tmps).run Tryz.prog W = .ok (.agg cs) W := by
  obtain ⟨fs, hu⟩ := undVIn
  exact results_cell_row (p := p) (ty := 43) hf tmps W b 43 cs (0, 0) _ h2 hb hu rfl (by rw [sizeVIn, hs])

theorem resWIm {fn : Func} {p u : Tmp} (hf : fn.results = #[.cell p 28, .tmp u]) (t2 : Value) (W : World) (b : Nat) (cs : Array Value) (hs : cs.size = 6) (hb : W.heap[b]? = some (.cells cs 28)) (tmps : Array Value) (h2 : tmps.getD p undef = .pointer (some ⟨b, 0, none⟩)) (h3 : tmps.getD u undef = t2) :
    (results fn tmps).run Tryz.prog W = .ok (.tuple #[.agg cs, t2]) W := by
  obtain ⟨fs, hu⟩ := undVIm
  rw [results_cell_tmp hf, h2, h3]
  have := run_loadVar_row (P := Tryz.prog) W b 28 28 cs (0, 0) _ hb hu rfl (by rw [sizeVIm, hs])
  simp only [asAddr, Sem.run_pure, Result.andThen, this]

theorem resWPd {fn : Func} {p u : Tmp} (hf : fn.results = #[.cell p 57, .tmp u]) (t2 : Value) (W : World) (b : Nat) (cs : Array Value) (hs : cs.size = 2) (hb : W.heap[b]? = some (.cells cs 57)) (tmps : Array Value) (h2 : tmps.getD p undef = .pointer (some ⟨b, 0, none⟩)) (h3 : tmps.getD u undef = t2) :
    (results fn tmps).run Tryz.prog W = .ok (.tuple #[.agg cs, t2]) W := by
  obtain ⟨fs, hu⟩ := undVPd
  rw [results_cell_tmp hf, h2, h3]
  have := run_loadVar_row (P := Tryz.prog) W b 57 57 cs (0, 0) _ hb hu rfl (by rw [sizeVPd, hs])
  simp only [asAddr, Sem.run_pure, Result.andThen, this]

theorem resWPr {fn : Func} {p u : Tmp} (hf : fn.results = #[.cell p 94, .tmp u]) (t2 : Value) (W : World) (b : Nat) (cs : Array Value) (hs : cs.size = 4) (hb : W.heap[b]? = some (.cells cs 94)) (tmps : Array Value) (h2 : tmps.getD p undef = .pointer (some ⟨b, 0, none⟩)) (h3 : tmps.getD u undef = t2) :
    (results fn tmps).run Tryz.prog W = .ok (.tuple #[.agg cs, t2]) W := by
  obtain ⟨fs, hu⟩ := undVPr
  rw [results_cell_tmp hf, h2, h3]
  have := run_loadVar_row (P := Tryz.prog) W b 94 94 cs (0, 0) _ hb hu rfl (by rw [sizeVPr, hs])
  simp only [asAddr, Sem.run_pure, Result.andThen, this]

theorem resWIn {fn : Func} {p u : Tmp} (hf : fn.results = #[.cell p 43, .tmp u]) (t2 : Value) (W : World) (b : Nat) (cs : Array Value) (hs : cs.size = 2) (hb : W.heap[b]? = some (.cells cs 43)) (tmps : Array Value) (h2 : tmps.getD p undef = .pointer (some ⟨b, 0, none⟩)) (h3 : tmps.getD u undef = t2) :
    (results fn tmps).run Tryz.prog W = .ok (.tuple #[.agg cs, t2]) W := by
  obtain ⟨fs, hu⟩ := undVIn
  rw [results_cell_tmp hf, h2, h3]
  have := run_loadVar_row (P := Tryz.prog) W b 43 43 cs (0, 0) _ hb hu rfl (by rw [sizeVIn, hs])
  simp only [asAddr, Sem.run_pure, Result.andThen, this]

end Go.Proofs.YtgbpfejodpplbaaGreatDoor
