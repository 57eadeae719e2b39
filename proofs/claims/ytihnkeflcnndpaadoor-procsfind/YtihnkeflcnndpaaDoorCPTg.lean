import Derived.Test.YtihnkeflcnndpaaDoorCPFa
import Derived.Test.YtihnkeflcnndpaaDoorPCm
import Derived.Sort.QuietIn
namespace Go.Proofs.YtihnkeflcnndpaaDoor
open Go.RowKit Go.WideShapes Go.Shelf
set_option maxRecDepth 100000
attribute [local go_sem] Oper.semAt_some

theorem Tryd.infoD : (Tryd.prog.info? 32).map (fun i => (i.zero, i.size, i.bytes)) = some (some (.int .u32 0), 1, 4) := by kernel_rfl
/-- words as values -/
def dv (J : List Nat) : List Value := J.map fun (z : Nat) => Value.int .u32 (z : Int)
theorem dv_snoc (J : List Nat) (x : Nat) : dv (J ++ [x]) = dv J ++ [.int .u32 (x : Int)] := by simp [dv]
set_option maxHeartbeats 1000000 in
theorem ptargets_in {B pp p1 g1 p2 g2 n : Nat} {lv : Value} {Ps : List (Nat × Nat × Nat)} {A C : List Nat} (i : Nat) (w : World) (hi : i < Ps.length) (hn : n ≤ 16384) (hPe : (Ps.getD i (0, 0, 0)).1 ≤ n ∧ (Ps.getD i (0, 0, 0)).2.1 ≤ n) (hT : TabW w) (h : PrS w B pp p1 g1 p2 g2 n lv Ps A C) :
    Calls Tryd.prog 18 #[.pointer (some ⟨pp, 0, none⟩), .int .i64 i] w fun e w' => ∃ v, e = .returned v ∧ w'.ownsRow w.heap.size 32 1 v (rng (hasW C) (Ps.getD i (0, 0, 0)).1 (Ps.getD i (0, 0, 0)).2.1).length (dv (rng (hasW C) (Ps.getD i (0, 0, 0)).1 (Ps.getD i (0, 0, 0)).2.1)) ∧ Below w.heap.size w w' := by
  have HPR := pproc_in i w hi h
  obtain ⟨pb, pe, pf, hq⟩ : ∃ pb pe pf, Ps.getD i (0, 0, 0) = (pb, pe, pf) := ⟨_, _, _, rfl⟩
  rw [hq] at HPR hPe ⊢
  simp only at HPR hPe ⊢
  clear hq
  have HH : Hid (∀ W, Below w.heap.size w W → Calls Tryd.prog 45 #[.pointer (some ⟨p2, 0, none⟩)] W fun e w' => e = .returned (.slice (some ⟨g2, 0, none⟩) C.length C.length) ∧ w' = W) := hidS (fun W hW => held_any p2 g2 n _ C W (h.below hW).s2)
  have HC3 : Hid (∀ W, Below w.heap.size w W → W.cell? ⟨pp, 3, none⟩ = some (.pointer (some ⟨p2, 0, none⟩))) := hidS (fun W hW => (h.below hW).c3)
  have hp : 0 < w.heap.size := Nat.lt_of_le_of_lt (Nat.zero_le _) h.s2.ltp
  have HWS : Hid (∀ W, Below w.heap.size w W → Ws W (some ⟨g2, 0, none⟩) C w.heap.size ∧ TabW W) := hidS (fun W hW => ⟨fun _ => ⟨g2, 0, rfl, h.s2.ltg, fun j hj => by rw [Nat.zero_add]; exact (h.below hW).s2.word hj⟩, hT.below hW hp⟩)
  have HCl := hidS h.s2.len
  have hCw := h.s2.wf
  clear h hT
  refine (callsIn_wide (n := 30)).1 ?_
  refine callsIn_of_wp_marks Tryd.func18 rfl trivial ?_ rfl
  simp only [Tryd.ntmps18, List.size_toArray, List.length_cons, List.length_nil, Nat.reduceAdd, Nat.reduceSub, Array.replicate_succ, Array.replicate_zero, List.push_toArray, List.append_toArray, List.nil_append, List.cons_append]
  gi_wp2_with ((first | refine ⟨trivial, fun _ => by omega, ?_⟩ | refine ⟨trivial, ?_⟩); gi_at_call 13; refine (callsIn_wide.2 HPR).mono ?_; rintro en w1 ⟨rfl, hb1⟩)
  obtain ⟨W2, hW2⟩ : ∃ W, (w1.alloc (Obj.cells #[.int .u32 (pb : Int), .int .u32 (pe : Int), .int .u32 (pf : Int), .int .i64 0] 43)).alloc (Obj.cells #[.slice none 0 0] 23) = W := ⟨_, rfl⟩
  have hbW : Below w.heap.size w W2 := by rw [← hW2]; exact belP (belP hb1)
  have bT : Boxed W2 (w1.heap.size + 1) 23 (.slice none 0 0) := by
    have := Boxed.new (w1.alloc (Obj.cells #[.int .u32 (pb : Int), .int .u32 (pe : Int), .int .u32 (pf : Int), .int .i64 0] 43)) 23 (.slice none 0 0)
    rw [World.size_alloc, hW2] at this
    exact this
  have oP : W2.heap[w1.heap.size]? = some (Obj.cells #[.int .u32 (pb : Int), .int .u32 (pe : Int), .int .u32 (pf : Int), .int .i64 0] 43) := by
    rw [← hW2, Below.heap_alloc _ _ _ (by simp)]
    exact heap_alloc_new _ _
  have hz2 : W2.heap.size = w1.heap.size + 2 := by rw [← hW2]; simp
  rw [hW2]
  obtain ⟨kP, hkP⟩ : ∃ k, w1.heap.size = k := ⟨_, rfl⟩
  have hz1 := hb1.size
  rw [hkP] at bT oP hz2 hz1 ⊢
  have HZ2 := hidS hz2
  have HK1 : Hid (W2.heap.size = kP + 2) := hidS hz2
  clear hW2 hkP hb1 HPR hz2
  have c0 := (obj_cell oP 0).trans rfl
  have c1 := (obj_cell oP 1).trans rfl
  have c3 := HC3.out W2 hbW
  refine with_tmpsP fun T0 hT0 => ?_
  have HT0 := hidS hT0
  clear hT0
  refine wpIn_mono (Q := fun e a V => e = .normal ∧ ∃ Wd : World, Below W2.heap.size W2 Wd ∧ V = ((Wd.alloc (.cells #[.slice (some ⟨g2, 0, none⟩) C.length C.length] 99)).alloc (.cells #[.int .i64 (pb : Int)] 3)).alloc (.cells #[.int .i64 (pe : Int)] 3) ∧
    a = { tmps := (((((((((((T0.setIfInBounds 17 (.pointer (some ⟨pp, 0, none⟩))).setIfInBounds 18 (.pointer (some ⟨pp, 0, none⟩))).setIfInBounds 19 (.pointer (some ⟨pp, 3, none⟩))).setIfInBounds 20 (.pointer (some ⟨p2, 0, none⟩))).setIfInBounds 21 (.slice (some ⟨g2, 0, none⟩) C.length C.length)).setIfInBounds 22 (.pointer (some ⟨kP, 0, none⟩))).setIfInBounds 23 (.int .u32 (pb : Int))).setIfInBounds 24 (.int .i64 (pb : Int))).setIfInBounds 25 (.pointer (some ⟨kP, 1, none⟩))).setIfInBounds 26 (.int .u32 (pe : Int))).setIfInBounds 27 (.int .i64 (pe : Int))).setIfInBounds 28 (.func (.func 60) #[] #[.pointer (some ⟨Wd.heap.size, 0, none⟩), .pointer (some ⟨Wd.heap.size + 1, 0, none⟩), .pointer (some ⟨Wd.heap.size + 2, 0, none⟩)]), defers := [] }) ?region ?rest
  case region =>
    rw [HT0.out]
    refine wpIn_wide.2 ?_
    have hAw := hidS (fun (W : World) => withinuint32_any (some ⟨g2, 0, none⟩) C.length C.length (pb : Int) (pe : Int) W)
    have hpb : pb < 4294967296 := by omega
    have hpe : pe < 4294967296 := by omega
    have hwb : IntKind.i64.wrap (pb : Int) = (pb : Int) := by rw [IntKind.wrap_i64]; omega
    have hwe : IntKind.i64.wrap (pe : Int) = (pe : Int) := by rw [IntKind.wrap_i64]; omega
    have HW := hidS (And.intro hwb hwe)
    clear hwb hwe
    have HHd : Hid (Calls Tryd.prog 45 #[.pointer (some ⟨p2, 0, none⟩)] W2.drew fun e w' => e = .returned (.slice (some ⟨g2, 0, none⟩) C.length C.length) ∧ w' = W2.drew) := hidS (HH.out W2.drew (below_drewN hbW 1))
    have HBd : Hid (Below W2.heap.size W2 W2.drew) := hidS (below_drewN (Below.refl _ _) 1)
    have HKS : Hid (∀ V, Below W2.heap.size W2 V → V.cell? ⟨pp, 3, none⟩ = some (.pointer (some ⟨p2, 0, none⟩)) ∧ V.cell? ⟨kP, 0, none⟩ = some (.int .u32 (pb : Int)) ∧ V.cell? ⟨kP, 1, none⟩ = some (.int .u32 (pe : Int))) := hidS (fun V hV => ⟨HC3.out V (btP hbW hV), (hV.cell (p := ⟨kP, 0, none⟩) (Array.getElem?_eq_some_iff.1 oP).1).trans c0, (hV.cell (p := ⟨kP, 1, none⟩) (Array.getElem?_eq_some_iff.1 oP).1).trans c1⟩)
    go_region_held3 (fun V => V.cell? ⟨pp, 3, none⟩ = some (.pointer (some ⟨p2, 0, none⟩)) ∧ V.cell? ⟨kP, 0, none⟩ = some (.int .u32 (pb : Int)) ∧ V.cell? ⟨kP, 1, none⟩ = some (.int .u32 (pe : Int))) (first | exact HKS.out _ HBd.out | exact HKS.out _ (below_drewN (belP (belP (belP (Below.refl _ _)))) 1)) (first
      | (go_at_call 45; with_reducible refine HHd.out.mono ?_; rintro e w3 ⟨rfl, hw3⟩; subst hw3)
      | (go_at_call 44; rw [HW.out.1, HW.out.2]; with_reducible refine (hAw.out _).mono ?_; rintro e w4 ⟨rfl, hw4⟩))
    all_goals exact ⟨rfl, W2.drew, HBd.out, rfl, rfl⟩
  case rest =>
    rintro e a V ⟨rfl, Wd, hbd, rfl, rfl⟩
    obtain ⟨i0, hi0, hy0, hy1, hy2⟩ := info_parts Tryd.infoD
    rw [HT0.out]
    simp only [List.setIfInBounds_toArray, List.set_cons_succ, List.set_cons_zero]
    gi_wp2
    obtain ⟨W4, hW4⟩ : ∃ W, ((Wd.alloc (.cells #[.slice (some ⟨g2, 0, none⟩) C.length C.length] 99)).alloc (.cells #[.int .i64 (pb : Int)] 3)).alloc (.cells #[.int .i64 (pe : Int)] 3) = W := ⟨_, rfl⟩
    have hd4 : Below W2.heap.size W2 W4 := by rw [← hW4]; exact belP (belP (belP hbd))
    have hb4 : Below w.heap.size w W4 := btP hbW hd4
    have hz4 : W4.heap.size = Wd.heap.size + 3 := by rw [← hW4]; simp
    have bT4 := box_thru hd4 bT
    have HI4 : InP C Wd.heap.size (Wd.heap.size + 1) (Wd.heap.size + 2) (some ⟨g2, 0, none⟩) C.length pb pe w.heap.size W4 := by
      refine ⟨?_, ?_, ?_, (HWS.out W4 hb4).1, (HWS.out W4 hb4).2⟩
      · rw [← hW4]
        exact ((Boxed.new Wd _ _).alloc _).alloc _
      · have := (Boxed.new (Wd.alloc (.cells #[.slice (some ⟨g2, 0, none⟩) C.length C.length] 99)) 3 (.int .i64 (pb : Int))).alloc (.cells #[.int .i64 (pe : Int)] 3)
        rw [World.size_alloc, hW4] at this
        exact this
      · have := Boxed.new ((Wd.alloc (.cells #[.slice (some ⟨g2, 0, none⟩) C.length C.length] 99)).alloc (.cells #[.int .i64 (pb : Int)] 3)) 3 (.int .i64 (pe : Int))
        rw [World.size_alloc, World.size_alloc, hW4] at this
        exact this
    rw [hW4]
    obtain ⟨Bw, hBw⟩ : ∃ k, Wd.heap.size = k := ⟨_, rfl⟩
    have hzd := hbd.size
    have hz22 := HZ2.out
    rw [hBw] at HI4 hz4 hzd ⊢
    clear hW4 hBw hbd
    have hCl := HCl.out
    have hlC : C.length ≤ 16384 := by omega
    have h64 : n ≤ 64 * C.length := by omega
    have HIN : Hid (∀ V, Kp (fun k => k = kP + 1) W4 V → InP C Bw (Bw + 1) (Bw + 2) (some ⟨g2, 0, none⟩) C.length pb pe w.heap.size V) := hidS (fun V hk => by
      have hbv : Below w.heap.size w V := hb4.trans (hk.below hb4.size (fun i e => by omega))
      refine ⟨(hk.block Bw HI4.bw.lt (by omega)).trans HI4.bw, (hk.block (Bw + 1) HI4.bf.lt (by omega)).trans HI4.bf, (hk.block (Bw + 2) HI4.be.lt (by omega)).trans HI4.be, (HWS.out V hbv).1, (HWS.out V hbv).2⟩)
    have HSQ : Hid (SeqOwn Fence.wide (30 - 1) Tryd.prog 60 #[.pointer (some ⟨Bw, 0, none⟩), .pointer (some ⟨Bw + 1, 0, none⟩), .pointer (some ⟨Bw + 2, 0, none⟩)] encuint32 (KeP C Bw (Bw + 1) (Bw + 2) (some ⟨g2, 0, none⟩) C.length pb pe w.heap.size) (fun ys => ys = rng (hasW C) pb pe) (fun pre => pre <+: rng (hasW C) pb pe) 1048577 W4) := hidS (sequint32 (30 - 1) (by decide) Bw (Bw + 1) (Bw + 2) w.heap.size (some ⟨g2, 0, none⟩) C.length pb pe C W4 hlC hCw (by omega) (by omega) HI4 hb4.size (by omega))
    have hrl : (rng (hasW C) pb pe).length ≤ 16384 := Nat.le_trans (rng_len _ _ _) (by omega)
    refine with_tmpsP fun T hT2 => ?_
    have HT := hidS hT2
    clear hT2 hCl
    refine range_outer (F := Fence.wide) rfl (by decide) (gf := 60) (lb := #[.pointer (some ⟨Bw, 0, none⟩), .pointer (some ⟨Bw + 1, 0, none⟩), .pointer (some ⟨Bw + 2, 0, none⟩)]) (by rw [HT.out]; rfl) trivial (enters_of Tryd.func60 (by kernel_rfl) rfl)
      HSQ.out KeP_t (KeP_b (w := W4)) (Below.refl _ _) (fun _ => rfl)
      (fun pre U => Kp (fun k => k = kP + 1) W4 U ∧ ∃ lv, Boxed U (kP + 1) 23 lv ∧ U.ownsRow W4.heap.size 32 1 lv pre.length (dv pre))
      (fun c pre U => False)
      (fun s A C row h hg hr => by
        obtain ⟨g1, lv, g2, g3⟩ := h
        refine ⟨g1.trans (Kp.ofGrown (S := fun k => W4.heap.size ≤ k) hg (fun i e _ => (hr i e).1)) (fun i hi e => by omega), lv, low_kept g2 (by omega) hg hr, (Kp.ofGrown (S := fun k => row = some k) hg (fun i e _ => e)).own g3 (fun k e q => ?_)⟩
        obtain ⟨_, o, ho, hc⟩ := hr k q
        rcases g3.2 with hn | ⟨g', cap', cur', e1, e2, e3, e4⟩
        · rw [hn.1] at e
          cases e
        · rw [e1] at e
          cases e
          rw [e3] at ho
          cases ho
          cases hc)
      (fun c s A C row h hg hr => h)
      ⟨Kp.refl _ _, .slice none 0 0, bT4, World.ownsRow_nil _ _ _ _⟩
      (fun x a' U => a' = { tmps := ((((#[29] : Array Tmp).zip (encuint32 x)).foldl (fun t (p, v) => t.setIfInBounds p v) T).setIfInBounds 8 (.int .u32 x)), defers := [] })
      (fun x a' => Own.from (fun t A C row h hg hr => h) _)
      ?assign ?body ?done (fun D c pre W _ _ h _ => h.elim)
    case assign =>
      intro l0 pre x V K hI hK
      have HF := hidS (fun a' (ha : _) => hK a' V (Upon.refl _ V) (fun y => y) hI ha)
      clear hK hI
      rw [HT.out]
      gi_wp2
      exact HF.out _ (by rw [HT.out]; simp)
    case body =>
      rintro l0 pre x a' U hl0 hrec ⟨h1, lv, h2, h3⟩ rfl hln hsp
      have hpl : pre.length + 1 ≤ 16384 := by
        have := hsp.length_le
        simp at this
        omega
      obtain ⟨la, lc, hlv⟩ : ∃ la lc, lv = .slice la pre.length lc := by
        rcases h3.2 with ⟨hn, hz⟩ | ⟨g', cap', cur', e1, e2⟩
        · exact ⟨none, 0, by rw [hn, hz]⟩
        · exact ⟨_, _, e1⟩
      subst hlv
      have cT := h2.cell
      have cT' := fun o => (h2.alloc o).cell
      have H1 := hidS h1
      have H2 := hidS h2
      have H3 := hidS h3
      clear h1 h2 hrec hln hsp
      rw [HT.out]
      gi_wp2_with (gi_at_builtin; refine wpListIn_append_own _ rfl _ _ 23 rfl W4.heap.size 32 i0 (.int .u32 0) 1 4 Tryd.underlying23 hi0 hy0 hy1 hy2 rfl (by decide) _ _ _ rfl (h3.alloc _) ⟨_, 0, none⟩ 1 1 [.int .u32 x] rfl rfl ?g1 ?g2 ?g3 ?g4 ?g5 ?_)
      case g1 =>
        intro j u hj
        match j, hj with
        | 0, hj => simp at hj; subst hj; simp [Addr.add]
      case g2 => intro u hu; simp at hu; subst hu; rfl
      case g3 => unfold maxLen; omega
      case g4 => omega
      case g5 => have := H1.out.size; simp; omega
      intro v' W1 own1 hg1 _
      obtain ⟨g, gc, hv'⟩ : ∃ g gc, v' = .slice (some ⟨g, 0, none⟩) (pre.length + 1) gc := by
        rcases own1.2 with ⟨_, hz⟩ | ⟨g', cap', cur', e1, _⟩
        · omega
        · exact ⟨_, _, e1⟩
      subst hv'
      have hkW : Kp (fun k => (Value.slice la pre.length lc).ownBlock = some k) U W1 := (Kp.alloc U _).trans (Kp.ofGrown (S := fun k => (Value.slice la pre.length lc).ownBlock = some k) hg1 (fun i e _ => e)) (fun _ _ q => q)
      have hlo : ∀ k, (Value.slice la pre.length lc).ownBlock = some k → W4.heap.size ≤ k ∧ ∃ o : Obj, U.heap[k]? = some o ∧ o.isCells = true := fun k e => by
        refine ⟨(H3.out.lt k e).1, ?_⟩
        rcases H3.out.2 with hn | ⟨g', cap', cur', e1, e2, e3, e4⟩
        · rw [hn.1] at e
          cases e
        · rw [e1] at e
          cases e
          exact ⟨_, e3, rfl⟩
      have lT : kP + 1 < W4.heap.size := by omega
      have bT1 : Boxed W1 (kP + 1) 23 (.slice la pre.length lc) := (hkW.block (kP + 1) H2.out.lt (fun e => by have := (hlo _ e).1; omega)).trans H2.out
      have c4 := bT1.cell
      have f4 := bT1.frozen
      have HKW := hidS (And.intro hkW hlo)
      have HO1 := hidS (And.intro own1 bT1)
      clear hkW hlo own1 hg1 cT cT'
      gi_wp2
      have hk2 : Kp (fun k => k = kP + 1) W4 (W1.setCell ⟨kP + 1, 0, none⟩ (.slice (some ⟨g, 0, none⟩) (pre.length + 1) gc)) := (H1.out.trans HKW.out.1 (fun i hi e => by have := (HKW.out.2 i e).1; omega)).trans (Kp.setCell (S := fun k => k = kP + 1) _ _ _ rfl) (fun _ _ q => q)
      have upV : Upon W4.heap.size U W1 := ⟨HKW.out.1.size, fun k o _ hk hc => (HKW.out.1.block k (Array.getElem?_eq_some_iff.1 hk).1 (fun e => by
        obtain ⟨_, o2, e2, e3⟩ := HKW.out.2 k e
        rw [hk] at e2
        cases e2
        rw [hc] at e3
        cases e3)).trans hk⟩
      refine ⟨upV.trans (Upon.setCell _ _ _), fun _ => HIN.out _ hk2, hk2, _, HO1.out.2.set _, ?_⟩
      rw [List.length_append, dv_snoc, hz4]
      exact ownsRow_setCell_below (a := ⟨kP + 1, 0, none⟩) HO1.out.1 (by show kP + 1 < _; omega) _
    case done =>
      rintro D1 xs U hD hS ⟨h1, lv2, h2, h3⟩ hd
      subst hS
      obtain ⟨la, lc, hlv⟩ : ∃ la lc, lv2 = .slice la (rng (hasW C) pb pe).length lc := by
        rcases h3.2 with ⟨hn, hz⟩ | ⟨g', cap', cur', e1, e2⟩
        · exact ⟨none, 0, by rw [hn, hz]⟩
        · exact ⟨_, _, e1⟩
      subst hlv
      have cT := h2.cell
      have H1 := hidS h1
      have H3 := hidS h3
      have HD := hidS (And.intro hd hD)
      clear h1 h2 h3 hd hD
      rw [HT.out]
      gi_wp2
      refine ⟨by simp, .inl ⟨_, _, rfl, run_takeDeferred HD.out.1, ?_⟩⟩
      have hkp : Kp (fun k => W4.heap.size ≤ k ∧ ∃ o : Obj, U.heap[k]? = some o ∧ o.isCells = false) U (U.putObj D1 (.deferred none)) := Kp.ofGrown (grownBy_putObj' _ D1 (.deferred none)) (fun i e _ => by cases e; exact ⟨HD.out.2, _, HD.out.1, rfl⟩)
      refine ⟨.slice la (rng (hasW C) pb pe).length lc, ?_, _, rfl, own_base (hkp.own H3.out (fun k e q => ?_)) hb4.size, ?_⟩
      · simp [results, Tryd.f18, go_sem]
      · obtain ⟨_, o, ho, hc⟩ := q
        rcases H3.out.2 with hn | ⟨g', cap', cur', e1, e2, e3, e4⟩
        · rw [hn.1] at e
          cases e
        · rw [e1] at e
          cases e
          rw [e3] at ho
          cases ho
          cases hc
      · have hk := H1.out.trans hkp (fun i hi e => by omega)
        exact hb4.trans (hk.below hb4.size (fun i e => by omega))
end Go.Proofs.YtihnkeflcnndpaaDoor
namespace Go.Proofs.YtihnkeflcnndpaaDoor
open Go.RowKit Go.WideShapes Go.Shelf
set_option maxRecDepth 100000

set_option maxHeartbeats 1000000 in
theorem search_any (n g : Nat) (lb : Array Value) (pr : Nat → Bool) (w : World) (hn : n ≤ 1048576) (eg : ∀ args w, (callFunc g args).run Tryd.prog w = .ok (.enter g args) w)
    (hf : ∀ h : Nat, h < n → ∀ W, Below w.heap.size w W → Calls Tryd.prog g (#[.int .i64 (h : Int)] ++ lb) W fun e w' => e = .returned (.bool (pr h)) ∧ Below W.heap.size W w') :
    Calls Tryd.prog 39 #[.int .i64 (n : Int), .func (.func g) #[] lb] w fun e w' => (∃ i : Nat, e = .returned (.int .i64 i) ∧ i ≤ n ∧ (i = n ∨ pr i = true) ∧ (i = 0 ∨ pr (i - 1) = false)) ∧ Below w.heap.size w w' := by
  have HF := hidS hf
  clear hf
  go_enter Tryd.func39, Tryd.ntmps39
  go_wp2_with fail
  go_loopw [5, 6] (fun u v wr => ∃ i j : Nat, u = .int .i64 i ∧ v = .int .i64 j ∧ i ≤ j ∧ j ≤ n ∧ (j = n ∨ pr j = true) ∧ (i = 0 ∨ pr (i - 1) = false) ∧ Below w.heap.size w wr)
    (fun u v _ => (intOf v).toNat - (intOf u).toNat)
  case atStart => exact ⟨0, n, rfl, rfl, Nat.zero_le _, Nat.le_refl _, .inl rfl, .inl rfl, Below.refl _ _⟩
  case round =>
    obtain ⟨i, j, rfl, rfl, hij, hj, h1, h2, hb⟩ := hrel
    have H1 := hidS h1
    have H2 := hidS h2
    clear h1 h2
    by_cases hlt : i < j
    · have hltI : (i : Int) < (j : Int) := by omega
      have hC := HF.out ((i + j) / 2) (by omega) _ hb
      have hcast : ((((i + j) / 2 : Nat)) : Int) = ((i : Int) + (j : Int)) / 2 := by omega
      rw [hcast] at hC
      obtain ⟨m, hm⟩ : ∃ m : Nat, (i + j) / 2 = m := ⟨_, rfl⟩
      rw [hm] at hC
      have HM := hidS hm
      have hmI : ((i : Int) + (j : Int)) / 2 = (m : Int) := by omega
      rw [hmI] at hC
      clear hcast hm
      cases hp : pr m
      · rw [hp] at hC
        go_wp2_with fail
        with_reducible refine hC.mono ?_
        rintro e wq ⟨rfl, hq⟩
        go_wp2_with fail
        go_roundw
        case rel =>
          have := HM.out
          refine ⟨m + 1, j, by go_num, rfl, by omega, hj, H1.out, .inr (by simpa using hp), btP hb hq⟩
        case measure =>
          have := HM.out
          simp [intOf]; omega
      · rw [hp] at hC
        go_wp2_with fail
        with_reducible refine hC.mono ?_
        rintro e wq ⟨rfl, hq⟩
        go_wp2_with fail
        go_roundw
        case rel =>
          have := HM.out
          exact ⟨i, m, rfl, by go_num, by omega, by omega, .inr hp, H2.out, btP hb hq⟩
        case measure =>
          have := HM.out
          simp [intOf]; omega
    · obtain rfl : i = j := by omega
      have hltI : ¬ (i : Int) < (i : Int) := by omega
      go_wp2_with fail
      go_ret
      exact ⟨⟨i, rfl, hj, H1.out, H2.out⟩, hb⟩
end Go.Proofs.YtihnkeflcnndpaaDoor
namespace Go.Proofs.YtihnkeflcnndpaaDoor
open Go.RowKit Go.WideShapes Go.Shelf
set_option maxRecDepth 100000

theorem of1_any (Bi Bl x h cap : Nat) (ao : Option Addr) (Ps : List (Nat × Nat × Nat)) (w : World) (hi : w.cell? ⟨Bi, 0, none⟩ = some (.int .u32 x)) (hl : w.cell? ⟨Bl, 0, none⟩ = some (.slice ao Ps.length cap)) (hr : PRd w ao Ps w.heap.size) (hh : h < Ps.length) :
    Calls Tryd.prog 40 #[.int .i64 h, .pointer (some ⟨Bi, 0, none⟩), .pointer (some ⟨Bl, 0, none⟩)] w fun e w' => e = .returned (.bool (decide (x < (Ps.getD h (0, 0, 0)).2.1))) ∧ Below w.heap.size w w' := by
  obtain ⟨b, off, rfl, hb, hc⟩ := hr (by omega)
  have c1 := (hc h hh).2.1
  generalize (Ps.getD h (0, 0, 0)).2.1 = q at c1 ⊢
  have hI : (h : Int) < (Ps.length : Int) := by omega
  clear hc hr
  go_enter Tryd.func40, Tryd.ntmps40
  go_wp2
  go_quiet (fail)
  go_wp2
  go_ret
  exact ⟨by simp, below_drewN (Below.refl _ _) nq⟩
set_option maxHeartbeats 1000000 in
theorem pof_any {B pp p1 g1 p2 g2 n : Nat} {lv : Value} {L : List (Nat × Nat)} {A C : List Nat} (x : Nat) (w : World) (hL : L.length ≤ 16384) (hE : isEn L 0 = true) (h : PrS w B pp p1 g1 p2 g2 n lv (prs L (bgs L)) A C) :
    Calls Tryd.prog 14 #[.pointer (some ⟨pp, 0, none⟩), .int .u32 x] w fun e w' => e = .returned (.int .i64 (ofL L x)) ∧ Below w.heap.size w w' := by
  obtain ⟨ao, cap, rfl, hr⟩ := h.reads
  have hm : (prs L (bgs L)).length = (bgs L).length := prs_len _ _
  have hml : (bgs L).length ≤ 16384 := Nat.le_trans (els_le _ _) hL
  have HM := hidS (fun W hb => pheld_any pp _ W (h.below hb).c0 (h.below hb).c1)
  have HR : Hid (∀ W, Below w.heap.size w W → PRd W ao (prs L (bgs L)) w.heap.size) := hidS (fun W hb => hr.below hb)
  have HOf : Hid (∀ i : Nat, i ≤ (bgs L).length → (i = (bgs L).length ∨ decide (x < ((prs L (bgs L)).getD i (0, 0, 0)).2.1) = true) → (i = 0 ∨ decide (x < ((prs L (bgs L)).getD (i - 1) (0, 0, 0)).2.1) = false) → (if i = (bgs L).length then (-1 : Int) else (i : Int)) = ofL L x) := hidS (fun i hi h1 h2 => by
    refine of_eq hE hi ?_ ?_
    · rcases h1 with h1 | h1
      · exact .inl h1
      · by_cases he : i = (bgs L).length
        · exact .inl he
        · rw [prs_get L _ i (by omega)] at h1
          exact .inr (of_decide_eq_true h1)
    · rcases h2 with h2 | h2
      · exact .inl h2
      · by_cases he : i = 0
        · exact .inl he
        · rw [prs_get L _ (i - 1) (by omega)] at h2
          exact .inr (Nat.le_of_not_lt (of_decide_eq_false h2)))
  have HS : Hid (∀ (W : World) (Bi Bl : Nat), Below w.heap.size w W → Boxed W Bi 32 (.int .u32 x) → Boxed W Bl 71 (.slice ao (bgs L).length cap) → Calls Tryd.prog 39 #[.int .i64 ((bgs L).length : Nat), .func (.func 40) #[] #[.pointer (some ⟨Bi, 0, none⟩), .pointer (some ⟨Bl, 0, none⟩)]] W fun e w' => (∃ i : Nat, e = .returned (.int .i64 i) ∧ i ≤ (bgs L).length ∧ (i = (bgs L).length ∨ decide (x < ((prs L (bgs L)).getD i (0, 0, 0)).2.1) = true) ∧ (i = 0 ∨ decide (x < ((prs L (bgs L)).getD (i - 1) (0, 0, 0)).2.1) = false)) ∧ Below W.heap.size W w') := hidS (fun W Bi Bl hb b1 b2 =>
    search_any (bgs L).length 40 #[.pointer (some ⟨Bi, 0, none⟩), .pointer (some ⟨Bl, 0, none⟩)] (fun i => decide (x < ((prs L (bgs L)).getD i (0, 0, 0)).2.1)) W (by omega) (enters_of Tryd.func40 (by kernel_rfl) rfl) (fun hh hlt V hV => by
      have := of1_any Bi Bl x hh cap ao (prs L (bgs L)) V (box_thru hV b1).cell (by rw [hm]; exact (box_thru hV b2).cell) ((HR.out V (btP hb hV)).mono (btP hb hV).size) (by omega)
      exact this))
  rw [hm] at HM
  generalize hlen : (bgs L).length = m at HM HS HOf hml
  clear hr h hlen hm HR
  go_enter Tryd.func14, Tryd.ntmps14
  go_wp2_with (first | (go_at_call 38; refine (HM.out _ (belP (Below.refl _ _))).mono ?_; rintro e w2 ⟨rfl, hw2⟩; subst hw2) | (go_at_call 39; refine (HS.out _ _ _ (belP (belP (Below.refl _ _))) ((Boxed.new _ _ _).alloc _) (by have := Boxed.new (w.alloc (.cells #[.int .u32 (x : Int)] 32)) 71 (.slice ao m cap); rw [World.size_alloc] at this; exact this)).mono ?_; rintro e w2 ⟨⟨i, rfl, hi, h1, h2⟩, hw2⟩; have HI := hidS (HOf.out i hi h1 h2); clear h1 h2; have cL := (box_thru hw2 (by have := Boxed.new (w.alloc (.cells #[.int .u32 (x : Int)] 32)) 71 (.slice ao m cap); rw [World.size_alloc] at this; exact this)).cell))
  all_goals go_ret
  all_goals refine ⟨?_, btP (belP (belP (Below.refl _ _))) hw2⟩
  all_goals rw [← HI.out]
  · rename_i hq
    have : i = m := by have := eq_of_beq hq; omega
    rw [if_pos this]
    rfl
  · rename_i hq
    have : ¬ i = m := by have := ne_of_beq_false hq; omega
    rw [if_neg this]
    rfl
end Go.Proofs.YtihnkeflcnndpaaDoor
namespace Go.Proofs.YtihnkeflcnndpaaDoor
open Go.RowKit Go.WideShapes Go.Shelf
set_option maxRecDepth 100000

/-- words that are read -/
def JRd (w : World) (ao : Option Addr) (J : List Nat) (B : Nat) : Prop :=
  0 < J.length → ∃ b off, ao = some ⟨b, off, none⟩ ∧ b < B ∧ ∀ j, j < J.length → w.cell? ⟨b, off + j, none⟩ = some (.int .u32 (J.getD j 0 : Nat))
theorem JRd.below {w w' : World} {ao : Option Addr} {J : List Nat} {B : Nat} (h : JRd w ao J B) (hb : Below B w w') : JRd w' ao J B := by
  intro hl
  obtain ⟨b, off, e, hlt, hc⟩ := h hl
  exact ⟨b, off, e, hlt, fun j hj => (hb.cell (p := ⟨b, off + j, none⟩) hlt).trans (hc j hj)⟩
theorem PrS.putC {w w' : World} {B pp p1 g1 p2 g2 n : Nat} {lv : Value} {Ps : List (Nat × Nat × Nat)} {A C C' : List Nat} (h : PrS w B pp p1 g1 p2 g2 n lv Ps A C) (hs : SetS w' p2 g2 n C') (hk : Kp (fun k => k = p2 ∨ k = g2) w w') : PrS w' B pp p1 g1 p2 g2 n lv Ps A C' := by
  have hn := h.nd
  simp only [List.nodup_cons, List.mem_cons, List.not_mem_nil, or_false, not_or] at hn
  obtain ⟨⟨a1, a2, a3, a4⟩, ⟨b1, b2, b3⟩, ⟨c1, c2⟩, _⟩ := hn
  have hl := h.lt
  simp only [List.mem_cons, List.not_mem_nil, or_false, forall_eq_or_imp, forall_eq] at hl
  refine ⟨(hk.block pp (Array.getElem?_eq_some_iff.1 h.obj).1 (by omega)).trans h.obj, hk.own h.row (fun k e => ?_), h.s1.kept hk (by omega) (by omega), hs, h.nd, h.lt⟩
  have := (h.row.lt k e).1
  omega
/-- may a jump target stand there? -/
def okJ (L : List (Nat × Nat)) (J : List Nat) (i : Nat) : Bool := !(decide (0 < i) && decide (J.getD i 0 ≤ J.getD (i - 1) 0)) && (decide (J.getD i 0 < L.length) && !isEn L (J.getD i 0))
/-- what takeJumps answers -/
def JmR (L : List (Nat × Nat)) (J : List Nat) (i x : Nat) : Prop :=
  (i = 0 ∧ x = 0 ∧ ∀ j, j < J.length → okJ L J j = true) ∨ (x = 134 ∧ i < J.length ∧ okJ L J i = false ∧ ∀ j, j < i → okJ L J j = true)
theorem takeN (J : List Nat) (k : Nat) (h : k < J.length) : J.take (k + 1) = J.take k ++ [J.getD k 0] := by
  rw [List.take_add_one, List.getElem?_eq_getElem h]
  simp [List.getD_eq_getElem?_getD, List.getElem?_eq_getElem h]
set_option maxHeartbeats 2000000 in
theorem takej_any {B pp p1 g1 p2 g2 : Nat} {lv : Value} {L : List (Nat × Nat)} {A : List Nat} (B1 : Nat) (aj : Option Addr) (capj : Nat) (J : List Nat) (w : World) (hL : L.length ≤ 16384) (hE : isEn L 0 = true) (hA : ∀ x, hasW A x = isEn L x) (hn : J.length ≤ 9223372036854775807) (hJ : ∀ z ∈ J, z < 4294967296) (hr : JRd w aj J B1) (hB1 : B1 ≤ w.heap.size) (hlo : ∀ k ∈ [pp, p1, g1, p2, g2], B1 ≤ k)
    (h : PrS w B pp p1 g1 p2 g2 L.length lv (prs L (bgs L)) A (List.replicate ((L.length + 63) / 64) 0)) :
    Calls Tryd.prog 36 #[.pointer (some ⟨pp, 0, none⟩), .slice aj J.length capj] w fun e w' => ∃ i x : Nat, e = .returned (.tuple #[.int .i64 i, .int .i64 x]) ∧ JmR L J i x ∧ Below B1 w w' ∧ ∃ C, PrS w' B pp p1 g1 p2 g2 L.length lv (prs L (bgs L)) A C ∧ (x = 0 → ∀ y, hasW C y = decide (y ∈ J)) := by
  have HLO : Hid (B1 ≤ p2 ∧ B1 ≤ g2) := hidS ⟨hlo p2 (by simp), hlo g2 (by simp)⟩
  have HH := hidS h
  clear h hlo
  go_enter Tryd.func36, Tryd.ntmps36
  go_wp2
  go_loopw [10] (fun u wr => ∃ k : Nat, u = .int .i64 k ∧ k ≤ J.length ∧ (∀ j, j < k → okJ L J j = true) ∧ Below B1 w wr ∧ ∃ C, PrS wr B pp p1 g1 p2 g2 L.length lv (prs L (bgs L)) A C ∧ ∀ y, hasW C y = decide (y ∈ J.take k))
    (fun u _ => J.length - (intOf u).toNat)
  case atStart => exact ⟨0, rfl, Nat.zero_le _, fun j hj => absurd hj (by omega), Below.refl _ _, _, HH.out, fun y => by rw [hasW_zeros]; simp⟩
  case round =>
    clear HH
    obtain ⟨k, rfl, hk, hok, hbw, C, hP, hC⟩ := hrel
    have HOk := hidS hok
    have HC := hidS hC
    have HP := hidS hP
    have HBW := hidS hbw
    clear hok hC
    by_cases hlt : k < J.length
    · have hltI : (k : Int) < (J.length : Int) := by omega
      obtain ⟨b, off, rfl, hb, hc⟩ := hr (by omega)
      have v0 := (hbw.cell (p := ⟨b, off + k, none⟩) hb).trans (hc k hlt)
      have hz : J.getD k 0 < 4294967296 := hJ _ (getD_memP hlt)
      have HOF := pof_any (J.getD k 0) wr hL hE hP
      have HBG : Hid (∀ W, Below wr.heap.size wr W → Calls Tryd.prog 15 #[.pointer (some ⟨pp, 0, none⟩), .int .u32 (J.getD k 0 : Nat)] W fun e w' => e = .returned (.bool (isEn L (J.getD k 0))) ∧ w' = W) := hidS (fun W hW => by rw [← hA]; exact pbegins_any _ W hz (hP.below hW))
      have HAD : Hid (∀ W, Below wr.heap.size wr W → Calls Tryd.prog 56 #[.pointer (some ⟨p2, 0, none⟩), .int .u32 (J.getD k 0 : Nat)] W fun e w' => (∃ v, e = .returned v) ∧ PrS w' B pp p1 g1 p2 g2 L.length lv (prs L (bgs L)) A (putW L.length C (J.getD k 0)) ∧ Kp (fun i => i = p2 ∨ i = g2) W w') := hidS (fun W hW => by
        refine (add_any p2 g2 L.length (J.getD k 0) C W hz (hP.below hW).s2).mono ?_
        rintro e w' ⟨rfl, h2, h3, _⟩
        exact ⟨⟨_, rfl⟩, (hP.below hW).putC h2 h3, h3⟩)
      have HC3 : Hid (∀ W, Below wr.heap.size wr W → W.cell? ⟨pp, 3, none⟩ = some (.pointer (some ⟨p2, 0, none⟩))) := hidS (fun W hW => (hP.below hW).c3)
      have HON : Hid (ofL L (J.getD k 0) < 0 ↔ ¬ J.getD k 0 < L.length) := hidS (ofL_neg hE _)
      have HPC : Hid (J.getD k 0 < L.length → ∀ y, hasW (putW L.length C (J.getD k 0)) y = decide (y ∈ J.take (k + 1))) := hidS (fun hx y => by
        rw [has_putP hP.s2.len hx, HC.out, takeN J k hlt]
        by_cases h1 : y ∈ J.take k
        · simp [h1]
        · simp [h1])
      have hsp := hP.c0
      clear hP
      have HBP : Hid (∀ W V, Below wr.heap.size wr W → Kp (fun i => i = p2 ∨ i = g2) W V → Below B1 w V) := hidS (fun W V h1 h2 => by
        have h3 := HBW.out.trans (h1.mono (Nat.le_trans hB1 HBW.out.size))
        exact h3.trans (h2.below (Nat.le_trans hB1 h3.size) (fun i hi => by have := HLO.out; omega)))
      have HOKK : Hid (okJ L J k = (!(decide (0 < k) && decide (J.getD k 0 ≤ J.getD (k - 1) 0)) && (decide (J.getD k 0 < L.length) && !isEn L (J.getD k 0)))) := hidS rfl
      generalize J.getD k 0 = z at v0 hz HOF HBG HAD HON HPC HOKK
      generalize ofL L z = ofz at HOF HON
      by_cases hk0 : k = 0
      · subst hk0
        clear hc
        rw [show ((0 : Nat) : Int) = 0 from rfl] at hltI
        simp only [Nat.add_zero] at v0
        rw [show (Value.int .i64 ((0 : Nat) : Int)) = Value.int .i64 0 from rfl]
        by_cases hx : z < L.length
        · have hof : ¬ ofz < 0 := fun q => HON.out.1 q hx
          cases hen : isEn L z with
          | true =>
            rw [hen] at HBG
            go_wp2_with (first
              | (go_at_call 14; refine HOF.mono ?_; rintro e w2 ⟨rfl, hb2⟩; have HC4 := HC3.out w2 hb2)
              | (go_at_call 15; refine (HBG.out _ hb2).mono ?_; rintro e w3 ⟨rfl, hw3⟩; subst hw3)
              | (go_at_call 56; refine (HAD.out _ hb2).mono ?_; rintro e w4 ⟨⟨v, rfl⟩, hP4, hk4⟩))
            refine bodyPost_ret (results_tmp2 rfl _ _ _) rfl ?_
            exact ⟨0, 134, rfl, .inr ⟨rfl, hlt, by rw [HOKK.out, hen]; simp, HOk.out⟩, HBW.out.trans (hb2.mono (Nat.le_trans hB1 HBW.out.size)), C, HP.out.below hb2, fun q => absurd q (by decide)⟩
          | false =>
            rw [hen] at HBG
            go_wp2_with (first
              | (go_at_call 14; refine HOF.mono ?_; rintro e w2 ⟨rfl, hb2⟩; have HC4 := HC3.out w2 hb2)
              | (go_at_call 15; refine (HBG.out _ hb2).mono ?_; rintro e w3 ⟨rfl, hw3⟩; subst hw3)
              | (go_at_call 56; refine (HAD.out _ hb2).mono ?_; rintro e w4 ⟨⟨v, rfl⟩, hP4, hk4⟩))
            go_roundw
            case rel => exact ⟨0 + 1, by go_num, by omega, fun j hj => by
              by_cases hj2 : j < 0
              · exact HOk.out j hj2
              · rw [show j = 0 by omega, HOKK.out, hen]; simp [hx], HBP.out _ _ hb2 hk4, _, hP4, HPC.out hx⟩
            case measure => simp [intOf]; omega
        · have hof : ofz < 0 := HON.out.2 hx
          go_wp2_with (first
            | (go_at_call 14; refine HOF.mono ?_; rintro e w2 ⟨rfl, hb2⟩; have HC4 := HC3.out w2 hb2)
            | (go_at_call 15; refine (HBG.out _ hb2).mono ?_; rintro e w3 ⟨rfl, hw3⟩; subst hw3)
            | (go_at_call 56; refine (HAD.out _ hb2).mono ?_; rintro e w4 ⟨⟨v, rfl⟩, hP4, hk4⟩))
          refine bodyPost_ret (results_tmp2 rfl _ _ _) rfl ?_
          exact ⟨0, 134, rfl, .inr ⟨rfl, hlt, by rw [HOKK.out]; simp [hx], HOk.out⟩, HBW.out.trans (hb2.mono (Nat.le_trans hB1 HBW.out.size)), C, HP.out.below hb2, fun q => absurd q (by decide)⟩
      · obtain ⟨m, rfl⟩ : ∃ m, k = m + 1 := ⟨k - 1, by omega⟩
        have v1 := (hbw.cell (p := ⟨b, off + m, none⟩) hb).trans (hc m (by omega))
        have hsub : ((m + 1 : Nat) : Int) - 1 = (m : Int) := by omega
        have hmJ : (m : Int) < (J.length : Int) := by omega
        have hgt : (0 : Int) < ((m + 1 : Nat) : Int) := by omega
        rw [show m + 1 - 1 = m by omega] at HOKK
        generalize J.getD m 0 = y at v1 HOKK
        clear hc hk0
        by_cases hle : z ≤ y
        · have hleI : (z : Int) ≤ (y : Int) := by omega
          go_wp2_with (first
            | (go_at_call 14; refine HOF.mono ?_; rintro e w2 ⟨rfl, hb2⟩; have HC4 := HC3.out w2 hb2)
            | (go_at_call 15; refine (HBG.out _ hb2).mono ?_; rintro e w3 ⟨rfl, hw3⟩; subst hw3)
            | (go_at_call 56; refine (HAD.out _ hb2).mono ?_; rintro e w4 ⟨⟨v, rfl⟩, hP4, hk4⟩))
          refine bodyPost_ret (results_tmp2 rfl _ _ _) rfl ?_
          exact ⟨m + 1, 134, rfl, .inr ⟨rfl, hlt, by rw [HOKK.out]; simp [hle], HOk.out⟩, HBW.out, C, HP.out, fun q => absurd q (by decide)⟩
        · have hleI : ¬ (z : Int) ≤ (y : Int) := by omega
          by_cases hx : z < L.length
          · have hof : ¬ ofz < 0 := fun q => HON.out.1 q hx
            cases hen : isEn L z with
            | true =>
              rw [hen] at HBG
              go_wp2_with (first
                | (go_at_call 14; refine HOF.mono ?_; rintro e w2 ⟨rfl, hb2⟩; have HC4 := HC3.out w2 hb2)
                | (go_at_call 15; refine (HBG.out _ hb2).mono ?_; rintro e w3 ⟨rfl, hw3⟩; subst hw3)
                | (go_at_call 56; refine (HAD.out _ hb2).mono ?_; rintro e w4 ⟨⟨v, rfl⟩, hP4, hk4⟩))
              refine bodyPost_ret (results_tmp2 rfl _ _ _) rfl ?_
              exact ⟨m + 1, 134, rfl, .inr ⟨rfl, hlt, by rw [HOKK.out, hen]; simp, HOk.out⟩, HBW.out.trans (hb2.mono (Nat.le_trans hB1 HBW.out.size)), C, HP.out.below hb2, fun q => absurd q (by decide)⟩
            | false =>
              rw [hen] at HBG
              go_wp2_with (first
                | (go_at_call 14; refine HOF.mono ?_; rintro e w2 ⟨rfl, hb2⟩; have HC4 := HC3.out w2 hb2)
                | (go_at_call 15; refine (HBG.out _ hb2).mono ?_; rintro e w3 ⟨rfl, hw3⟩; subst hw3)
                | (go_at_call 56; refine (HAD.out _ hb2).mono ?_; rintro e w4 ⟨⟨v, rfl⟩, hP4, hk4⟩))
              go_roundw
              case rel => exact ⟨(m + 1) + 1, by go_num, by omega, fun j hj => by
                by_cases hj2 : j < (m + 1)
                · exact HOk.out j hj2
                · rw [show j = (m + 1) by omega, HOKK.out, hen]; simp [hx, hle], HBP.out _ _ hb2 hk4, _, hP4, HPC.out hx⟩
              case measure => simp [intOf]; omega
          · have hof : ofz < 0 := HON.out.2 hx
            go_wp2_with (first
              | (go_at_call 14; refine HOF.mono ?_; rintro e w2 ⟨rfl, hb2⟩; have HC4 := HC3.out w2 hb2)
              | (go_at_call 15; refine (HBG.out _ hb2).mono ?_; rintro e w3 ⟨rfl, hw3⟩; subst hw3)
              | (go_at_call 56; refine (HAD.out _ hb2).mono ?_; rintro e w4 ⟨⟨v, rfl⟩, hP4, hk4⟩))
            refine bodyPost_ret (results_tmp2 rfl _ _ _) rfl ?_
            exact ⟨m + 1, 134, rfl, .inr ⟨rfl, hlt, by rw [HOKK.out]; simp [hx], HOk.out⟩, HBW.out.trans (hb2.mono (Nat.le_trans hB1 HBW.out.size)), C, HP.out.below hb2, fun q => absurd q (by decide)⟩
    · have hke : k = J.length := by omega
      subst hke
      have hltI : ¬ (J.length : Int) < (J.length : Int) := by omega
      go_wp2
      refine bodyPost_ret (results_tmp2 rfl _ _ _) rfl ?_
      exact ⟨0, 0, rfl, .inl ⟨rfl, rfl, HOk.out⟩, hbw, C, HP.out, fun _ y => by rw [HC.out, List.take_length]⟩
end Go.Proofs.YtihnkeflcnndpaaDoor
