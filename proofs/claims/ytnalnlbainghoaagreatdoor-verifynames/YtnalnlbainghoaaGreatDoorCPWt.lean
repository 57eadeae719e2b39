import Derived.Test.YtnalnlbainghoaaGreatDoorCPSm
namespace Go.Proofs.YtnalnlbainghoaaGreatDoor
open Go.RowKit Go.WideShapes Go.Shelf
set_option maxRecDepth 100000
attribute [local go_sem] Oper.semAt_some

theorem Tryz.infoD : (Tryz.prog.info? 29).map (fun i => (i.zero, i.size, i.bytes)) = some (some (.int .u32 0), 1, 4) := by kernel_rfl
/-- words as values -/
def dv (J : List Nat) : List Value := J.map fun (z : Nat) => Value.int .u32 (z : Int)
theorem dv_snoc (J : List Nat) (x : Nat) : dv (J ++ [x]) = dv J ++ [.int .u32 (x : Int)] := by simp [dv]
set_option maxHeartbeats 1000000 in
theorem ptargets_in {B pp p1 g1 p2 g2 n : Nat} {lv : Value} {Ps : List (Nat × Nat × Nat)} {A C : List Nat} (i : Nat) (w : World) (hi : i < Ps.length) (hn : n ≤ 16384) (hPe : (Ps.getD i (0, 0, 0)).1 ≤ n ∧ (Ps.getD i (0, 0, 0)).2.1 ≤ n) (hT : TabW w) (h : PrS w B pp p1 g1 p2 g2 n lv Ps A C) :
    Calls Tryz.prog 71 #[.pointer (some ⟨pp, 0, none⟩), .int .i64 i] w fun e w' => ∃ v, e = .returned v ∧ w'.ownsRow w.heap.size 29 1 v (rng (hasW C) (Ps.getD i (0, 0, 0)).1 (Ps.getD i (0, 0, 0)).2.1).length (dv (rng (hasW C) (Ps.getD i (0, 0, 0)).1 (Ps.getD i (0, 0, 0)).2.1)) ∧ Below w.heap.size w w' := by
  have HPR := pproc_in i w hi h
  obtain ⟨pb, pe, pf, hq⟩ : ∃ pb pe pf, Ps.getD i (0, 0, 0) = (pb, pe, pf) := ⟨_, _, _, rfl⟩
  rw [hq] at HPR hPe ⊢
  simp only at HPR hPe ⊢
  clear hq
  have HH : Hid (∀ W, Below w.heap.size w W → Calls Tryz.prog 100 #[.pointer (some ⟨p2, 0, none⟩)] W fun e w' => e = .returned (.slice (some ⟨g2, 0, none⟩) C.length C.length) ∧ w' = W) := hidS (fun W hW => held_any p2 g2 n _ C W (h.below hW).s2)
  have HC3 : Hid (∀ W, Below w.heap.size w W → W.cell? ⟨pp, 3, none⟩ = some (.pointer (some ⟨p2, 0, none⟩))) := hidS (fun W hW => (h.below hW).c3)
  have hp : 2 < w.heap.size := hT.pos
  have HWS : Hid (∀ W, Below w.heap.size w W → Ws W (some ⟨g2, 0, none⟩) C w.heap.size ∧ TabW W) := hidS (fun W hW => ⟨fun _ => ⟨g2, 0, rfl, h.s2.ltg, fun j hj => by rw [Nat.zero_add]; exact (h.below hW).s2.word hj⟩, hT.below hW hp⟩)
  have HCl := hidS h.s2.len
  have hCw := h.s2.wf
  clear h hT
  refine (callsIn_wide (n := 30)).1 ?_
  refine callsIn_of_wp_marks Tryz.func71 rfl trivial ?_ rfl
  simp only [Tryz.ntmps71, List.size_toArray, List.length_cons, List.length_nil, Nat.reduceAdd, Nat.reduceSub, Array.replicate_succ, Array.replicate_zero, List.push_toArray, List.append_toArray, List.nil_append, List.cons_append]
  gi_wp2_with ((first | refine ⟨trivial, fun _ => by omega, ?_⟩ | refine ⟨trivial, ?_⟩); gi_at_call 107; refine (callsIn_wide.2 HPR).mono ?_; rintro en w1 ⟨rfl, hb1⟩)
  obtain ⟨W2, hW2⟩ : ∃ W, (w1.alloc (Obj.cells #[.int .u32 (pb : Int), .int .u32 (pe : Int), .int .u32 (pf : Int), .int .i64 0] 39)).alloc (Obj.cells #[.slice none 0 0] 27) = W := ⟨_, rfl⟩
  have hbW : Below w.heap.size w W2 := by rw [← hW2]; exact belP (belP hb1)
  have bT : Boxed W2 (w1.heap.size + 1) 27 (.slice none 0 0) := by
    have := Boxed.new (w1.alloc (Obj.cells #[.int .u32 (pb : Int), .int .u32 (pe : Int), .int .u32 (pf : Int), .int .i64 0] 39)) 27 (.slice none 0 0)
    rw [World.size_alloc, hW2] at this
    exact this
  have oP : W2.heap[w1.heap.size]? = some (Obj.cells #[.int .u32 (pb : Int), .int .u32 (pe : Int), .int .u32 (pf : Int), .int .i64 0] 39) := by
    rw [← hW2, Below.heap_alloc _ _ _ (by simp)]
    exact heap_alloc_new _ _
  have hz2 : W2.heap.size = w1.heap.size + 2 := by rw [← hW2]; simp
  rw [hW2]
  obtain ⟨kP, hkP⟩ : ∃ k, w1.heap.size = k := ⟨_, rfl⟩
  have hz1 := hb1.size
  rw [hkP] at bT oP hz2 hz1 ⊢
  have HZ2 := hidS hz2
  have HK1 : Hid (W2.heap.size = kP + 2) := hidS hz2
  clear hW2 hkP hb1 HPR hz2
  have c0 := (obj_cell oP 0).trans rfl
  have c1 := (obj_cell oP 1).trans rfl
  have c3 := HC3.out W2 hbW
  refine with_tmpsP fun T0 hT0 => ?_
  have HT0 := hidS hT0
  clear hT0
  refine wpIn_mono (Q := fun e a V => e = .normal ∧ ∃ Wd : World, Below W2.heap.size W2 Wd ∧ V = ((Wd.alloc (.cells #[.slice (some ⟨g2, 0, none⟩) C.length C.length] 161)).alloc (.cells #[.int .i64 (pb : Int)] 3)).alloc (.cells #[.int .i64 (pe : Int)] 3) ∧
    a = { tmps := (((((((((((T0.setIfInBounds 17 (.pointer (some ⟨pp, 0, none⟩))).setIfInBounds 18 (.pointer (some ⟨pp, 0, none⟩))).setIfInBounds 19 (.pointer (some ⟨pp, 3, none⟩))).setIfInBounds 20 (.pointer (some ⟨p2, 0, none⟩))).setIfInBounds 21 (.slice (some ⟨g2, 0, none⟩) C.length C.length)).setIfInBounds 22 (.pointer (some ⟨kP, 0, none⟩))).setIfInBounds 23 (.int .u32 (pb : Int))).setIfInBounds 24 (.int .i64 (pb : Int))).setIfInBounds 25 (.pointer (some ⟨kP, 1, none⟩))).setIfInBounds 26 (.int .u32 (pe : Int))).setIfInBounds 27 (.int .i64 (pe : Int))).setIfInBounds 28 (.func (.func 133) #[] #[.pointer (some ⟨Wd.heap.size, 0, none⟩), .pointer (some ⟨Wd.heap.size + 1, 0, none⟩), .pointer (some ⟨Wd.heap.size + 2, 0, none⟩)]), defers := [] }) ?region ?rest
  case region =>
    rw [HT0.out]
    refine wpIn_wide.2 ?_
    have hAw := hidS (fun (W : World) => withinuint32_any (some ⟨g2, 0, none⟩) C.length C.length (pb : Int) (pe : Int) W)
    have hpb : pb < 4294967296 := by omega
    have hpe : pe < 4294967296 := by omega
    have hwb : IntKind.i64.wrap (pb : Int) = (pb : Int) := by rw [IntKind.wrap_i64]; omega
    have hwe : IntKind.i64.wrap (pe : Int) = (pe : Int) := by rw [IntKind.wrap_i64]; omega
    have HW := hidS (And.intro hwb hwe)
    clear hwb hwe
    have HHd : Hid (Calls Tryz.prog 100 #[.pointer (some ⟨p2, 0, none⟩)] W2.drew fun e w' => e = .returned (.slice (some ⟨g2, 0, none⟩) C.length C.length) ∧ w' = W2.drew) := hidS (HH.out W2.drew (below_drewN hbW 1))
    have HBd : Hid (Below W2.heap.size W2 W2.drew) := hidS (below_drewN (Below.refl _ _) 1)
    have HKS : Hid (∀ V, Below W2.heap.size W2 V → V.cell? ⟨pp, 3, none⟩ = some (.pointer (some ⟨p2, 0, none⟩)) ∧ V.cell? ⟨kP, 0, none⟩ = some (.int .u32 (pb : Int)) ∧ V.cell? ⟨kP, 1, none⟩ = some (.int .u32 (pe : Int))) := hidS (fun V hV => ⟨HC3.out V (btP hbW hV), (hV.cell (p := ⟨kP, 0, none⟩) (Array.getElem?_eq_some_iff.1 oP).1).trans c0, (hV.cell (p := ⟨kP, 1, none⟩) (Array.getElem?_eq_some_iff.1 oP).1).trans c1⟩)
    go_region_held3 (fun V => V.cell? ⟨pp, 3, none⟩ = some (.pointer (some ⟨p2, 0, none⟩)) ∧ V.cell? ⟨kP, 0, none⟩ = some (.int .u32 (pb : Int)) ∧ V.cell? ⟨kP, 1, none⟩ = some (.int .u32 (pe : Int))) (first | exact HKS.out _ HBd.out | exact HKS.out _ (below_drewN (belP (belP (belP (Below.refl _ _)))) 1)) (first
      | (go_at_call 100; with_reducible refine HHd.out.mono ?_; rintro e w3 ⟨rfl, hw3⟩; subst hw3)
      | (go_at_call 101; rw [HW.out.1, HW.out.2]; with_reducible refine (hAw.out _).mono ?_; rintro e w4 ⟨rfl, hw4⟩))
    all_goals exact ⟨rfl, W2.drew, HBd.out, rfl, rfl⟩
  case rest =>
    rintro e a V ⟨rfl, Wd, hbd, rfl, rfl⟩
    obtain ⟨i0, hi0, hy0, hy1, hy2⟩ := info_parts Tryz.infoD
    rw [HT0.out]
    simp only [List.setIfInBounds_toArray, List.set_cons_succ, List.set_cons_zero]
    gi_wp2
    obtain ⟨W4, hW4⟩ : ∃ W, ((Wd.alloc (.cells #[.slice (some ⟨g2, 0, none⟩) C.length C.length] 161)).alloc (.cells #[.int .i64 (pb : Int)] 3)).alloc (.cells #[.int .i64 (pe : Int)] 3) = W := ⟨_, rfl⟩
    have hd4 : Below W2.heap.size W2 W4 := by rw [← hW4]; exact belP (belP (belP hbd))
    have hb4 : Below w.heap.size w W4 := btP hbW hd4
    have hz4 : W4.heap.size = Wd.heap.size + 3 := by rw [← hW4]; simp
    have bT4 := box_thru hd4 bT
    have HI4 : InP C Wd.heap.size (Wd.heap.size + 1) (Wd.heap.size + 2) (some ⟨g2, 0, none⟩) C.length pb pe w.heap.size W4 := by
      refine ⟨?_, ?_, ?_, (HWS.out W4 hb4).1, (HWS.out W4 hb4).2⟩
      · rw [← hW4]
        exact ((Boxed.new Wd _ _).alloc _).alloc _
      · have := (Boxed.new (Wd.alloc (.cells #[.slice (some ⟨g2, 0, none⟩) C.length C.length] 161)) 3 (.int .i64 (pb : Int))).alloc (.cells #[.int .i64 (pe : Int)] 3)
        rw [World.size_alloc, hW4] at this
        exact this
      · have := Boxed.new ((Wd.alloc (.cells #[.slice (some ⟨g2, 0, none⟩) C.length C.length] 161)).alloc (.cells #[.int .i64 (pb : Int)] 3)) 3 (.int .i64 (pe : Int))
        rw [World.size_alloc, World.size_alloc, hW4] at this
        exact this
    rw [hW4]
    obtain ⟨Bw, hBw⟩ : ∃ k, Wd.heap.size = k := ⟨_, rfl⟩
    have hzd := hbd.size
    have hz22 := HZ2.out
    rw [hBw] at HI4 hz4 hzd ⊢
    clear hW4 hBw hbd
    have hCl := HCl.out
    have hlC : C.length ≤ 16384 := by omega
    have h64 : n ≤ 64 * C.length := by omega
    have HIN : Hid (∀ V, Kp (fun k => k = kP + 1) W4 V → InP C Bw (Bw + 1) (Bw + 2) (some ⟨g2, 0, none⟩) C.length pb pe w.heap.size V) := hidS (fun V hk => by
      have hbv : Below w.heap.size w V := hb4.trans (hk.below hb4.size (fun i e => by omega))
      refine ⟨(hk.block Bw HI4.bw.lt (by omega)).trans HI4.bw, (hk.block (Bw + 1) HI4.bf.lt (by omega)).trans HI4.bf, (hk.block (Bw + 2) HI4.be.lt (by omega)).trans HI4.be, (HWS.out V hbv).1, (HWS.out V hbv).2⟩)
    have HSQ : Hid (SeqOwn Fence.wide (30 - 1) Tryz.prog 133 #[.pointer (some ⟨Bw, 0, none⟩), .pointer (some ⟨Bw + 1, 0, none⟩), .pointer (some ⟨Bw + 2, 0, none⟩)] encuint32 (KeP C Bw (Bw + 1) (Bw + 2) (some ⟨g2, 0, none⟩) C.length pb pe w.heap.size) (fun ys => ys = rng (hasW C) pb pe) (fun pre => pre <+: rng (hasW C) pb pe) 1048577 W4) := hidS (sequint32 (30 - 1) (by decide) Bw (Bw + 1) (Bw + 2) w.heap.size (some ⟨g2, 0, none⟩) C.length pb pe C W4 hlC hCw (by omega) (by omega) HI4 hb4.size (by omega))
    have hrl : (rng (hasW C) pb pe).length ≤ 16384 := Nat.le_trans (rng_len _ _ _) (by omega)
    refine with_tmpsP fun T hT2 => ?_
    have HT := hidS hT2
    clear hT2 hCl
    refine range_outer (F := Fence.wide) rfl (by decide) (gf := 133) (lb := #[.pointer (some ⟨Bw, 0, none⟩), .pointer (some ⟨Bw + 1, 0, none⟩), .pointer (some ⟨Bw + 2, 0, none⟩)]) (by rw [HT.out]; rfl) trivial (enters_of Tryz.func133 (by kernel_rfl) rfl)
      HSQ.out KeP_t (KeP_b (w := W4)) (Below.refl _ _) (fun _ => rfl)
      (fun pre U => Kp (fun k => k = kP + 1) W4 U ∧ ∃ lv, Boxed U (kP + 1) 27 lv ∧ U.ownsRow W4.heap.size 29 1 lv pre.length (dv pre))
      (fun c pre U => False)
      (fun s A C row h hg hr => by
        obtain ⟨g1, lv, g2, g3⟩ := h
        refine ⟨g1.trans (Kp.ofGrown (S := fun k => W4.heap.size ≤ k) hg (fun i e _ => (hr i e).1)) (fun i hi e => by omega), lv, low_kept g2 (by omega) hg hr, (Kp.ofGrown (S := fun k => row = some k) hg (fun i e _ => e)).own g3 (fun k e q => ?_)⟩
        obtain ⟨_, o, ho, hc⟩ := hr k q
        rcases g3.2 with hn | ⟨g', cap', cur', e1, e2, e3, e4⟩
        · rw [hn.1] at e
          cases e
        · rw [e1] at e
          cases e
          rw [e3] at ho
          cases ho
          cases hc)
      (fun c s A C row h hg hr => h)
      ⟨Kp.refl _ _, .slice none 0 0, bT4, World.ownsRow_nil _ _ _ _⟩
      (fun x a' U => a' = { tmps := ((((#[29] : Array Tmp).zip (encuint32 x)).foldl (fun t (p, v) => t.setIfInBounds p v) T).setIfInBounds 8 (.int .u32 x)), defers := [] })
      (fun x a' => Own.from (fun t A C row h hg hr => h) _)
      ?assign ?body ?done (fun D c pre W _ _ h _ => h.elim)
    case assign =>
      intro l0 pre x V K hI hK
      have HF := hidS (fun a' (ha : _) => hK a' V (Upon.refl _ V) (fun y => y) hI ha)
      clear hK hI
      rw [HT.out]
      gi_wp2
      exact HF.out _ (by rw [HT.out]; simp)
    case body =>
      rintro l0 pre x a' U hl0 hrec ⟨h1, lv, h2, h3⟩ rfl hln hsp
      have hpl : pre.length + 1 ≤ 16384 := by
        have := hsp.length_le
        simp at this
        omega
      obtain ⟨la, lc, hlv⟩ : ∃ la lc, lv = .slice la pre.length lc := by
        rcases h3.2 with ⟨hn, hz⟩ | ⟨g', cap', cur', e1, e2⟩
        · exact ⟨none, 0, by rw [hn, hz]⟩
        · exact ⟨_, _, e1⟩
      subst hlv
      have cT := h2.cell
      have cT' := fun o => (h2.alloc o).cell
      have H1 := hidS h1
      have H2 := hidS h2
      have H3 := hidS h3
      clear h1 h2 hrec hln hsp
      rw [HT.out]
      gi_wp2_with (gi_at_builtin; refine wpListIn_append_own _ rfl _ _ 27 rfl W4.heap.size 29 i0 (.int .u32 0) 1 4 Tryz.underlying27 hi0 hy0 hy1 hy2 rfl (by decide) _ _ _ rfl (h3.alloc _) ⟨_, 0, none⟩ 1 1 [.int .u32 x] rfl rfl ?g1 ?g2 ?g3 ?g4 ?g5 ?_)
      case g1 =>
        intro j u hj
        match j, hj with
        | 0, hj => simp at hj; subst hj; simp [Addr.add]
      case g2 => intro u hu; simp at hu; subst hu; rfl
      case g3 => unfold maxLen; omega
      case g4 => omega
      case g5 => have := H1.out.size; simp; omega
      intro v' W1 own1 hg1 _
      obtain ⟨g, gc, hv'⟩ : ∃ g gc, v' = .slice (some ⟨g, 0, none⟩) (pre.length + 1) gc := by
        rcases own1.2 with ⟨_, hz⟩ | ⟨g', cap', cur', e1, _⟩
        · omega
        · exact ⟨_, _, e1⟩
      subst hv'
      have hkW : Kp (fun k => (Value.slice la pre.length lc).ownBlock = some k) U W1 := (Kp.alloc U _).trans (Kp.ofGrown (S := fun k => (Value.slice la pre.length lc).ownBlock = some k) hg1 (fun i e _ => e)) (fun _ _ q => q)
      have hlo : ∀ k, (Value.slice la pre.length lc).ownBlock = some k → W4.heap.size ≤ k ∧ ∃ o : Obj, U.heap[k]? = some o ∧ o.isCells = true := fun k e => by
        refine ⟨(H3.out.lt k e).1, ?_⟩
        rcases H3.out.2 with hn | ⟨g', cap', cur', e1, e2, e3, e4⟩
        · rw [hn.1] at e
          cases e
        · rw [e1] at e
          cases e
          exact ⟨_, e3, rfl⟩
      have lT : kP + 1 < W4.heap.size := by omega
      have bT1 : Boxed W1 (kP + 1) 27 (.slice la pre.length lc) := (hkW.block (kP + 1) H2.out.lt (fun e => by have := (hlo _ e).1; omega)).trans H2.out
      have c4 := bT1.cell
      have f4 := bT1.frozen
      have HKW := hidS (And.intro hkW hlo)
      have HO1 := hidS (And.intro own1 bT1)
      clear hkW hlo own1 hg1 cT cT'
      gi_wp2
      have hk2 : Kp (fun k => k = kP + 1) W4 (W1.setCell ⟨kP + 1, 0, none⟩ (.slice (some ⟨g, 0, none⟩) (pre.length + 1) gc)) := (H1.out.trans HKW.out.1 (fun i hi e => by have := (HKW.out.2 i e).1; omega)).trans (Kp.setCell (S := fun k => k = kP + 1) _ _ _ rfl) (fun _ _ q => q)
      have upV : Upon W4.heap.size U W1 := ⟨HKW.out.1.size, fun k o _ hk hc => (HKW.out.1.block k (Array.getElem?_eq_some_iff.1 hk).1 (fun e => by
        obtain ⟨_, o2, e2, e3⟩ := HKW.out.2 k e
        rw [hk] at e2
        cases e2
        rw [hc] at e3
        cases e3)).trans hk⟩
      refine ⟨upV.trans (Upon.setCell _ _ _), fun _ => HIN.out _ hk2, hk2, _, HO1.out.2.set _, ?_⟩
      rw [List.length_append, dv_snoc, hz4]
      exact ownsRow_setCell_below (a := ⟨kP + 1, 0, none⟩) HO1.out.1 (by show kP + 1 < _; omega) _
    case done =>
      rintro D1 xs U hD hS ⟨h1, lv2, h2, h3⟩ hd
      subst hS
      obtain ⟨la, lc, hlv⟩ : ∃ la lc, lv2 = .slice la (rng (hasW C) pb pe).length lc := by
        rcases h3.2 with ⟨hn, hz⟩ | ⟨g', cap', cur', e1, e2⟩
        · exact ⟨none, 0, by rw [hn, hz]⟩
        · exact ⟨_, _, e1⟩
      subst hlv
      have cT := h2.cell
      have H1 := hidS h1
      have H3 := hidS h3
      have HD := hidS (And.intro hd hD)
      clear h1 h2 h3 hd hD
      rw [HT.out]
      gi_wp2
      refine ⟨by simp, .inl ⟨_, _, rfl, run_takeDeferred HD.out.1, ?_⟩⟩
      have hkp : Kp (fun k => W4.heap.size ≤ k ∧ ∃ o : Obj, U.heap[k]? = some o ∧ o.isCells = false) U (U.putObj D1 (.deferred none)) := Kp.ofGrown (grownBy_putObj' _ D1 (.deferred none)) (fun i e _ => by cases e; exact ⟨HD.out.2, _, HD.out.1, rfl⟩)
      refine ⟨.slice la (rng (hasW C) pb pe).length lc, ?_, _, rfl, own_base (hkp.own H3.out (fun k e q => ?_)) hb4.size, ?_⟩
      · simp [results, Tryz.f71, go_sem]
      · obtain ⟨_, o, ho, hc⟩ := q
        rcases H3.out.2 with hn | ⟨g', cap', cur', e1, e2, e3, e4⟩
        · rw [hn.1] at e
          cases e
        · rw [e1] at e
          cases e
          rw [e3] at ho
          cases ho
          cases hc
      · have hk := H1.out.trans hkp (fun i hi e => by omega)
        exact hb4.trans (hk.below hb4.size (fun i e => by omega))
end Go.Proofs.YtnalnlbainghoaaGreatDoor
namespace Go.Proofs.YtnalnlbainghoaaGreatDoor
open Go.RowKit Go.WideShapes Go.Shelf
set_option maxRecDepth 100000

set_option maxHeartbeats 1000000 in
theorem plegal_any {B pp p1 g1 p2 g2 n : Nat} {lv : Value} {L : List (Nat × Nat)} {A C : List Nat} (x y : Nat) (w : World) (hy : y < 4294967296) (hL : L.length ≤ 16384) (hE : isEn L 0 = true) (h : PrS w B pp p1 g1 p2 g2 n lv (prL L) A C) :
    Calls Tryz.prog 91 #[.pointer (some ⟨pp, 0, none⟩), .int .u32 x, .int .u32 y] w fun e w' => e = .returned (.bool (hasW C y && (ofL L x == ofL L y))) ∧ Below w.heap.size w w' := by
  have hM := pmade_any pp w h.c0
  have c3 := h.c3
  have hH := has_any p2 g2 n y _ C w hy h.s2
  have HX := hidS (fun W hb => pof_any x W hL hE (h.below hb))
  have HY := hidS (fun W hb => pof_any y W hL hE (h.below hb))
  have hbX : Below w.heap.size w w := Below.refl _ _
  clear h
  cases hc : hasW C y with
  | false =>
    rw [hc] at hH
    go_enter Tryz.func91, Tryz.ntmps91
    go_wp2_with (first | (go_at_call 78; refine hM.mono ?_; rintro e w2 ⟨rfl, hw2⟩; subst hw2) | (go_at_call 79; refine hH.mono ?_; rintro e w2 ⟨rfl, hw2⟩; subst hw2))
    go_ret
    exact ⟨rfl, Below.refl _ _⟩
  | true =>
    rw [hc] at hH
    go_enter Tryz.func91, Tryz.ntmps91
    go_wp2_with (first | (go_at_call 78; refine hM.mono ?_; rintro e w2 ⟨rfl, hw2⟩; subst hw2) | (go_at_call 79; refine hH.mono ?_; rintro e w2 ⟨rfl, hw2⟩; subst hw2) | (go_at_call 70; with_reducible refine (HX.out _ hbX).mono ?_; rintro e w3 ⟨rfl, hb3⟩; clear HX; have hbX := btP hbX hb3) | (go_at_call 70; with_reducible refine (HY.out _ hbX).mono ?_; rintro e w4 ⟨rfl, hb4⟩; have hbX := btP hbX hb4))
    go_ret
    exact ⟨rfl, hbX⟩
theorem enc_each {L : List (Nat × Nat)} (h : encX L = 0) {i : Nat} (hi : i < L.length) : isOp (L.getD i (0, 0)).1 = true := by
  have hl := encX_len h
  unfold encX at h
  rw [if_neg (by omega)] at h
  by_cases ha : allOk L = true
  · have := List.all_eq_true.1 ha (L.getD i (0, 0)) (by rw [List.getD_eq_getElem?_getD, List.getElem?_eq_getElem hi]; exact List.getElem_mem hi)
    have h2 := eq_of_beq this
    unfold erV at h2
    by_cases hq : isOp (L.getD i (0, 0)).1 = false
    · rw [if_pos hq] at h2
      cases h2
    · simpa using hq
  · rw [if_neg ha] at h
    exfalso
    have hne : ∃ j, j < L.length ∧ okI (L.getD j (0, 0)) = false := by
      refine Classical.byContradiction fun hno => ha ?_
      refine allOk_of L fun j hj => ?_
      cases hq : okI (L.getD j (0, 0)) with
      | true => rfl
      | false => exact absurd ⟨j, hj, hq⟩ hno
    obtain ⟨j, hj, hq⟩ := hne
    have : ∀ m, m ≤ L.length → (∀ j, j < m → okI (L.getD j (0, 0)) = true) ∨ ∃ k, k < m ∧ okI (L.getD k (0, 0)) = false ∧ ∀ j, j < k → okI (L.getD j (0, 0)) = true := by
      intro m
      induction m with
      | zero => intro _; exact .inl (fun j hj => absurd hj (by omega))
      | succ m ih =>
        intro hm
        rcases ih (by omega) with h1 | ⟨k, h1, h2, h3⟩
        · cases hq2 : okI (L.getD m (0, 0)) with
          | true => exact .inl (fun j hj => by
              by_cases hjm : j < m
              · exact h1 j hjm
              · rw [show j = m by omega]; exact hq2)
          | false => exact .inr ⟨m, by omega, hq2, h1⟩
        · exact .inr ⟨k, by omega, h2, h3⟩
    rcases this L.length (Nat.le_refl _) with h1 | ⟨k, h1, h2, h3⟩
    · rw [h1 j hj] at hq
      cases hq
    · rw [(badAt_of L k h1 h3 h2).1] at h
      unfold okI at h2
      rw [h] at h2
      cases h2
theorem row5 {w3 : World} {cs : Array Value} {t : Nat} {v : Value} (h5 : cs[5]? = some v) {W : World} (hW : Below (w3.alloc (Obj.cells cs t)).heap.size (w3.alloc (Obj.cells cs t)) W) : W.cell? ⟨w3.heap.size, 5, none⟩ = some v :=
  (obj_cell ((hW.block w3.heap.size (by simp)).trans (heap_alloc_new w3 (Obj.cells cs t))) 5).trans h5
/-- control stays in its procedure -/
theorem within_i {L : List (Nat × Nat)} {J : List Nat} {M : List (ByteArray × Nat)} (hG : FdG L J M) {i : Nat} (hi : i < L.length) :
    isOp (L.getD i (0, 0)).1 = true ∧ (opKi (L.getD i (0, 0)).1 = 3 ∨ opKi (L.getD i (0, 0)).1 = 2 → ofL L (argL L i) = ofL L i ∧ isEn L (argL L i) = false) ∧ (endK (opKi (L.getD i (0, 0)).1) = false → ofL L (i + 1) = ofL L i) := by
  obtain ⟨q, hq, h1, h2⟩ := lies_in hG.fst hi
  rw [getD_anyP hq 0 L.length] at h1
  have hk := hG.ck q (by rw [prs_len]; exact hq)
  unfold OkP at hk
  rw [prL_get L hq] at hk
  have h3 := hk i h1 h2
  have e1 := at_in hq h1 h2
  unfold errP at h3
  generalize opKi (L.getD i (0, 0)).1 = kd at h3 ⊢
  refine ⟨enc_each hG.enc hi, fun hkd => ?_, fun hen => ?_⟩
  · have h4 : bAt L q < argL L i ∧ argL L i < bAt L (q + 1) := by
      unfold ckE at h3
      split at h3
      · cases h3
      · split at h3
        · cases h3
        · rename_i hz
          have : ((kd == 3 || kd == 2) = true) := by rcases hkd with e | e <;> simp [e]
          rw [this] at hz
          simp at hz
          exact hz
    have e2 := at_in hq (Nat.le_of_lt h4.1) h4.2
    exact ⟨by rw [e2.1, e1.1], by rw [e2.2]; exact decide_eq_false (by omega)⟩
  · have h4 : i + 1 < bAt L (q + 1) := by
      refine Nat.lt_of_le_of_ne h2 fun he => ?_
      unfold ckE at h3
      split at h3
      · cases h3
      · split at h3
        · cases h3
        · split at h3
          · cases h3
          · rename_i hz
            change i + 1 = bAt L (q + 1) at he
            simp [hen, he] at hz
    have e2 := at_in hq (k := i + 1) (Nat.le_trans h1 (Nat.le_succ i)) h4
    rw [e2.1, e1.1]
theorem jump_i {L : List (Nat × Nat)} {J : List Nat} {M : List (ByteArray × Nat)} (hG : FdG L J M) {y : Nat} (hy : y ∈ J) : isEn L y = false ∧ ¬ ofL L y < 0 := by
  obtain ⟨j, hj, he⟩ := List.getElem_of_mem hy
  have := hG.jm j hj
  unfold okJ at this
  rw [show J.getD j 0 = y by rw [List.getD_eq_getElem?_getD, List.getElem?_eq_getElem hj]; exact he] at this
  simp only [Bool.and_eq_true, decide_eq_true_eq, Bool.not_eq_true'] at this
  exact ⟨this.2.2, fun q => (ofL_neg hG.fst y).1 q this.2.1⟩
end Go.Proofs.YtnalnlbainghoaaGreatDoor
namespace Go.Proofs.YtnalnlbainghoaaGreatDoor
open Go.RowKit Go.WideShapes Go.Shelf
set_option maxRecDepth 100000

theorem ckR_det {L : List (Nat × Nat)} {Ps : List (Nat × Nat × Nat)} {i x i' x' : Nat} (h : CkR L Ps i x) (h' : CkR L Ps i' x') : i = i' ∧ x = x' := by
  rcases h with ⟨a1, a2, a3⟩ | ⟨a1, k, a2, a3, a4, a5, a6, a7⟩
  · rcases h' with ⟨b1, b2, b3⟩ | ⟨b1, k', b2, b3, b4, b5, b6, b7⟩
    · exact ⟨by omega, by omega⟩
    · exact absurd ((b5.symm.trans (a3 k' b2 i' b3 b4))) b1
  · rcases h' with ⟨b1, b2, b3⟩ | ⟨b1, k', b2, b3, b4, b5, b6, b7⟩
    · exact absurd ((a5.symm.trans (b3 k a2 i a3 a4))) a1
    · rcases Nat.lt_trichotomy k k' with h | h | h
      · exact absurd (a5.symm.trans (b7 k h i a3 a4)) a1
      · subst h
        rcases Nat.lt_trichotomy i i' with h | h | h
        · exact absurd (a5.symm.trans (b6 i a3 h)) a1
        · subst h
          exact ⟨rfl, a5.symm.trans b5⟩
        · exact absurd (b5.symm.trans (a6 i' b3 h)) b1
      · exact absurd (b5.symm.trans (a7 k' h i' b3 b4)) b1
theorem jmR_det {L : List (Nat × Nat)} {J : List Nat} {i x i' x' : Nat} (h : JmR L J i x) (h' : JmR L J i' x') : i = i' ∧ x = x' := by
  rcases h with ⟨a1, a2, a3⟩ | ⟨a1, a2, a3, a4⟩
  · rcases h' with ⟨b1, b2, b3⟩ | ⟨b1, b2, b3, b4⟩
    · exact ⟨by omega, by omega⟩
    · rw [a3 i' b2] at b3
      cases b3
  · rcases h' with ⟨b1, b2, b3⟩ | ⟨b1, b2, b3, b4⟩
    · rw [b3 i a2] at a3
      cases a3
    · rcases Nat.lt_trichotomy i i' with h | h | h
      · rw [b4 i h] at a3
        cases a3
      · exact ⟨h, by omega⟩
      · rw [a4 i' h] at b3
        cases b3
theorem nmR_det {L : List (Nat × Nat)} {M : List (ByteArray × Nat)} {i x i' x' : Nat} (h : NmR L M i x) (h' : NmR L M i' x') : i = i' ∧ x = x' := by
  rcases h with ⟨a1, a2, a3⟩ | ⟨a1, a2, a3, a4⟩
  · rcases h' with ⟨b1, b2, b3⟩ | ⟨b1, b2, b3, b4⟩
    · exact ⟨by omega, by omega⟩
    · rw [a3 i' b2] at b3
      cases b3
  · rcases h' with ⟨b1, b2, b3⟩ | ⟨b1, b2, b3, b4⟩
    · rw [b3 i a2] at a3
      cases a3
    · rcases Nat.lt_trichotomy i i' with h | h | h
      · rw [b4 i h] at a3
        cases a3
      · exact ⟨h, by omega⟩
      · rw [a4 i' h] at b3
        cases b3
/-- there is one first fault -/
theorem fdB_det {L : List (Nat × Nat)} {J : List Nat} {M : List (ByteArray × Nat)} {i x i' x' : Nat} (h : FdB L J M i x) (hx : x ≠ 0) (h' : FdB L J M i' x') (hx' : x' ≠ 0) : i = i' ∧ x = x' := by
  rcases h with ⟨a1, a2, a3⟩ | ⟨a1, a2, a3, a4⟩ | ⟨a1, a2, a3⟩ | ⟨a1, a2, a3, a4⟩ | ⟨a1, a2, a3, a4, a5⟩
  · rcases h' with ⟨b1, b2, b3⟩ | ⟨b1, _⟩ | ⟨b1, _⟩ | ⟨b1, _⟩ | ⟨b1, _⟩
    · exact ⟨by omega, by omega⟩
    all_goals exact absurd b1 a1
  · rcases h' with ⟨b1, _⟩ | ⟨b1, b2, b3, b4⟩ | ⟨_, b2, _⟩ | ⟨_, b2, _⟩ | ⟨_, b2, _⟩
    · exact absurd a1 b1
    · exact ⟨by omega, by omega⟩
    all_goals rw [a2] at b2; cases b2
  · rcases h' with ⟨b1, _⟩ | ⟨_, b2, _⟩ | ⟨_, _, b3⟩ | ⟨_, _, b3, _⟩ | ⟨_, _, b3, _⟩
    · exact absurd a1 b1
    · rw [a2] at b2; cases b2
    · exact ckR_det a3 b3
    all_goals exact absurd (ckR_det a3 b3).2 hx
  · rcases h' with ⟨b1, _⟩ | ⟨_, b2, _⟩ | ⟨_, _, b3⟩ | ⟨_, _, b3, b4⟩ | ⟨_, _, b3, b4, _⟩
    · exact absurd a1 b1
    · rw [a2] at b2; cases b2
    · exact absurd (ckR_det b3 a3).2 hx'
    · exact jmR_det a4 b4
    · exact absurd (jmR_det a4 b4).2 hx
  · rcases h' with ⟨b1, _⟩ | ⟨_, b2, _⟩ | ⟨_, _, b3⟩ | ⟨_, _, b3, b4⟩ | ⟨_, _, b3, b4, b5⟩
    · exact absurd a1 b1
    · rw [a2] at b2; cases b2
    · exact absurd (ckR_det b3 a3).2 hx'
    · exact absurd (jmR_det b4 a4).2 hx'
    · exact nmR_det a5 b5
end Go.Proofs.YtnalnlbainghoaaGreatDoor
