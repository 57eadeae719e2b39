import Derived.Test.YtgbpfejodpplbaaGreatDoorCPSu
import Derived.Lib.QuietBelowIn
import Derived.Test.YtgbpfejodpplbaaGreatDoorCPNk
import Derived.Test.YtgbpfejodpplbaaGreatDoorCPCl
namespace Go.Proofs.YtgbpfejodpplbaaGreatDoor
open Go.RowKit Go.Sort

/-- a region that only reads, its callees may lay blocks: in a round too -/
theorem region_qb_r {F : Fence} {n : Nat} {P : Program} {id : Nat} {Q : Exit → Act → World → Prop} {a : Act} {w : World} {l : List Oper} (hd : l.all noDefer = true) (hm : P.follows .mixedOrders = true) (hB : Region.lexB .any l.toArray = true)
    (h : wpQuietIn F.plain n P l.toArray (fun w' => ∃ p : Regrown, w' = grow (redrawn w p.d) p.os) (fun a' => ∀ w', (∃ p : Regrown, w' = grow (redrawn w p.d) p.os) → Q .normal a' w') l a) : (Code.region id l.toArray true).wpIn F n P Q a w := by
  simp only [Region.lexB, Bool.and_eq_true] at hB
  have hd' : ∀ (i : Nat) (o : Oper), l.toArray[i]? = some o → noDefer o = true := fun i o ho => List.all_eq_true.1 hd o (List.mem_of_getElem? (by simpa using ho))
  refine wpIn_region_any hm (any_plain hd' _ _ _ _ (wpAnyIn_of_quiet (F := F.plain) (C := fun w' => ∃ p : Regrown, w' = grow (redrawn w p.d) p.os) (Q := fun a' => ∀ w', (∃ p : Regrown, w' = grow (redrawn w p.d) p.os) → Q .normal a' w') rfl (fun _ w' hw' h => h w' hw') _ _ _ _ ⟨⟨w.drawn + 1, #[]⟩, by rw [grow_empty]; rfl⟩ ?_))
  have := wpAnyQIn_lex (F := F.plain) (n := n) (C := fun w' => ∃ p : Regrown, w' = grow (redrawn w p.d) p.os) (md := .any) hB.1 l 0 (Array.replicate l.toArray.size false) a (by simp) (by simpa using hB.2) h
  simpa using this
end Go.Proofs.YtgbpfejodpplbaaGreatDoor
namespace Go.Proofs.YtgbpfejodpplbaaGreatDoor
open Go.RowKit Go.WideShapes Go.Shelf Go.Sort
set_option maxRecDepth 100000
attribute [local go_sem] Oper.semAt_some

/-- what is wrong with an instruction of a procedure -/
def errP (L : List (Nat × Nat)) (p : Nat × Nat × Nat) (i : Nat) : Nat := ckE (opKi (L.getD i (0, 0)).1) (argL L i) i p.1 p.2.1 p.2.2
/-- a procedure in which nothing is wrong -/
def OkP (L : List (Nat × Nat)) (Ps : List (Nat × Nat × Nat)) (q : Nat) : Prop := ∀ j, (Ps.getD q (0, 0, 0)).1 ≤ j → j < (Ps.getD q (0, 0, 0)).2.1 → errP L (Ps.getD q (0, 0, 0)) j = 0
/-- what checkCode answers -/
def CkR (L : List (Nat × Nat)) (Ps : List (Nat × Nat × Nat)) (i x : Nat) : Prop :=
  (i = 0 ∧ x = 0 ∧ ∀ k, k < Ps.length → OkP L Ps k) ∨
  (x ≠ 0 ∧ ∃ k, k < Ps.length ∧ (Ps.getD k (0, 0, 0)).1 ≤ i ∧ i < (Ps.getD k (0, 0, 0)).2.1 ∧ errP L (Ps.getD k (0, 0, 0)) i = x ∧ (∀ j, (Ps.getD k (0, 0, 0)).1 ≤ j → j < i → errP L (Ps.getD k (0, 0, 0)) j = 0) ∧ ∀ q, q < k → OkP L Ps q)
theorem range_at {pre : List Nat} {x m : Nat} (h : pre ++ [x] <+: List.range m) : x = pre.length ∧ x < m := by
  obtain ⟨t, ht⟩ := h
  have h1 := congrArg (fun l : List Nat => l[pre.length]?) ht
  have h2 := congrArg List.length ht
  simp at h1 h2
  rw [List.getElem?_eq_getElem (by simp; omega)] at h1
  simp at h1
  omega
theorem cells_kept {A C : World} {row : Option Nat} {b : Nat} {cs : Array Value} {t : TypeId} {fr : Nat × Nat} (h : A.heap[b]? = some (.cells cs t fr)) (hg : A.grownBy C row) (hr : ∀ r, row = some r → ∃ o : Obj, A.heap[r]? = some o ∧ o.isCells = false) : C.heap[b]? = some (.cells cs t fr) :=
  (hg.block b (Array.getElem?_eq_some_iff.1 h).1 (fun e => by
    obtain ⟨o, ho, hc⟩ := hr b e.symm
    rw [h] at ho
    cases ho
    cases hc)).trans h
set_option maxHeartbeats 2000000 in
theorem checkc_any {B pp p1 g1 p2 g2 n : Nat} {lv : Value} {Ps : List (Nat × Nat × Nat)} {A C : List Nat} (ao : Option Addr) (cap : Nat) (L : List (Nat × Nat)) (w : World) (hl : L.length ≤ 16384) (hwf : ∀ j, j < L.length → (L.getD j (0, 0)).1 < 256 ∧ (L.getD j (0, 0)).2 < 4294967296) (hr : Cde w ao L w.heap.size) (hP : Ps.length ≤ 16384) (hPe : ∀ k, k < Ps.length → (Ps.getD k (0, 0, 0)).2.1 ≤ L.length) (h : PrS w B pp p1 g1 p2 g2 n lv Ps A C) :
    Calls Tryz.prog 25 #[.pointer (some ⟨pp, 0, none⟩), .slice ao L.length cap] w fun e w' => ∃ i x : Nat, e = .returned (.tuple #[.int .i64 i, .int .i64 x]) ∧ CkR L Ps i x ∧ Below w.heap.size w w' := by
  obtain ⟨al, capl, rfl, hrd⟩ := h.reads
  refine (callsIn_wide (n := 30)).1 ?_
  refine callsIn_of_wp_marks Tryz.func25 rfl trivial ?_ rfl
  simp only [Tryz.ntmps25, List.size_toArray, List.length_cons, List.length_nil, Nat.reduceAdd, Nat.reduceSub, Array.replicate_succ, Array.replicate_zero, List.push_toArray, List.append_toArray, List.nil_append, List.cons_append]
  have HA := hidS (fun W hb => pall_any pp Ps.length capl al W (h.below hb).c0 (h.below hb).c1)
  gi_wp2_with ((first | refine ⟨trivial, fun _ => by omega, ?_⟩ | refine ⟨trivial, ?_⟩); gi_at_call 35; refine (callsIn_wide.2 (HA.out _ (belP (belP (belP (Below.refl _ _)))))).mono ?_; rintro en w2 ⟨rfl, hw2⟩)
  have hB2 : Below w.heap.size w w2 := by rw [hw2]; exact belP (belP (belP (belP (Below.refl _ _))))
  have hs2 : w2.heap.size = w.heap.size + 4 := by rw [hw2]; simp only [World.size_alloc]
  have bC : Boxed w2 w.heap.size 22 (.slice ao L.length cap) := by rw [hw2]; exact (((Boxed.new _ _ _).alloc _).alloc _).alloc _
  have bI : Boxed w2 (w.heap.size + 1) 3 (.int .i64 0) := by
    have := ((Boxed.new (w.alloc (Obj.cells #[.slice ao L.length cap] 22)) 3 (.int .i64 0)).alloc (Obj.cells #[.int .i64 0] 30)).alloc (Obj.cells #[.slice al Ps.length capl] 55)
    rw [World.size_alloc] at this
    rw [hw2]
    exact this
  have bE : Boxed w2 (w.heap.size + 2) 30 (.int .i64 0) := by
    have := (Boxed.new ((w.alloc (Obj.cells #[.slice ao L.length cap] 22)).alloc (Obj.cells #[.int .i64 0] 3)) 30 (.int .i64 0)).alloc (Obj.cells #[.slice al Ps.length capl] 55)
    rw [World.size_alloc, World.size_alloc] at this
    rw [hw2]
    exact this
  have bL : Boxed w2 (w.heap.size + 3) 55 (.slice al Ps.length capl) := by
    have := Boxed.new (((w.alloc (Obj.cells #[.slice ao L.length cap] 22)).alloc (Obj.cells #[.int .i64 0] 3)).alloc (Obj.cells #[.int .i64 0] 30)) 55 (.slice al Ps.length capl)
    rw [World.size_alloc, World.size_alloc, World.size_alloc] at this
    rw [hw2]
    exact this
  have HIA : InA Ps (w.heap.size + 3) al capl w.heap.size w2 := ⟨bL, hrd.below hB2⟩
  rw [← hw2]
  simp only [Nat.add_assoc, Nat.reduceAdd]
  clear hw2 HA
  obtain ⟨kw, hkw⟩ : ∃ k, w.heap.size = k := ⟨_, rfl⟩
  rw [hkw] at bC bI bE bL hs2 HIA ⊢
  refine with_tmpsP fun T hT => ?_
  have HT := hidS hT
  clear hT
  refine range_outer (F := Fence.wide) rfl (by decide) (gf := 57) (lb := #[.pointer (some ⟨kw + 3, 0, none⟩)]) (by rw [HT.out]; rfl) trivial (enters_of Tryz.func57 (by kernel_rfl) rfl)
    (seqA (30 - 1) (by decide) (kw + 3) kw al capl Ps w2 hP HIA (by omega)) KeA_t (KeA_b (w := w2)) (Below.refl _ _) (fun _ => rfl)
    (fun pre U => Below w2.heap.size w2 U ∧ ∀ q, q < pre.length → OkP L Ps q)
    (fun c pre U => c = .ret ∧ Below w.heap.size w U ∧ ∃ i x : Nat, Boxed U (kw + 1) 3 (.int .i64 i) ∧ Boxed U (kw + 2) 30 (.int .i64 x) ∧ CkR L Ps i x)
    (fun s A C row h hg hr => ⟨h.1.grown hg h.1.size (fun k e => (hr k e).1), h.2⟩)
    (fun c s A C row h hg hr => ⟨h.1, h.2.1.grown hg h.2.1.size (fun k e => by have := (hr k e).1; omega), by
      obtain ⟨i, x, h1, h2, h3⟩ := h.2.2
      exact ⟨i, x, low_kept h1 (by omega) hg hr, low_kept h2 (by omega) hg hr, h3⟩⟩)
    ⟨Below.refl _ _, fun q hq => absurd hq (by simp)⟩
    (fun x a' U => ∃ kp, w2.heap.size ≤ kp ∧ a' = { tmps := ((((#[12, 13] : Array Tmp).zip (encP Ps x)).foldl (fun t (p, v) => t.setIfInBounds p v) T).setIfInBounds 7 (.pointer (some ⟨kp, 0, none⟩))), defers := [] } ∧ U.heap[kp]? = some (.cells #[.int .u32 ((Ps.getD x (0, 0, 0)).1 : Nat), .int .u32 ((Ps.getD x (0, 0, 0)).2.1 : Nat), .int .u32 ((Ps.getD x (0, 0, 0)).2.2 : Nat), .int .i64 0] 94 (0, 0)))
    (fun x a' s A C row h hg hr => by
      obtain ⟨kp, h1, h2, h3⟩ := h
      exact ⟨kp, h1, h2, cells_kept h3 hg (fun r e => (hr r e).2)⟩)
    ?assign ?body ?done ?stop
  case assign =>
    intro l0 pre x V K hI hK
    have HF := hidS (fun kp W' (a : Act) e1 e2 e3 (h1 : w2.heap.size ≤ kp) h2 h3 => hK a W' e1 e2 e3 ⟨kp, h1, h2, h3⟩)
    clear hK
    obtain ⟨pb, pe, pf, hq⟩ : ∃ pb pe pf, Ps.getD x (0, 0, 0) = (pb, pe, pf) := ⟨_, _, _, rfl⟩
    simp only [encP, hq] at HF ⊢
    rw [HT.out] at HF ⊢
    gi_wp2
    exact HF.out V.heap.size _ _ (Upon.alloc _ _ _) (fun h => h.step (World.grownBy_alloc _ _ none) (fun r e => by cases e)) ⟨hI.1.alloc hI.1.size _, hI.2⟩ hI.1.size (by simp) (heap_alloc_new V _)
  case body =>
    rintro l0 pre x a' U hl0 hrec ⟨h1, h2⟩ ⟨kp, hkp, rfl, hobj⟩ hln hsp
    obtain ⟨hxp, hxm⟩ := range_at hsp
    obtain ⟨pb, pe, pf, hq⟩ : ∃ pb pe pf, Ps.getD x (0, 0, 0) = (pb, pe, pf) := ⟨_, _, _, rfl⟩
    have hpe := hPe x hxm
    simp only [encP, hq] at hobj hpe ⊢
    have c0 := (obj_cell hobj 0).trans rfl
    have lkp := (Array.getElem?_eq_some_iff.1 hobj).1
    have HO := hidS hobj
    have H1 := hidS h1
    have H2 := hidS h2
    have HX := hidS (And.intro hq (And.intro hxp hxm))
    clear hobj h1 h2 hsp hq hxp hrec
    rw [HT.out]
    gi_wp2
    clear c0
    gi_loopw [8] (fun u wr => ∃ t : Nat, u = .int .u32 t ∧ pb ≤ t ∧ (t ≤ pe ∨ t = pb) ∧ Below U.heap.size U wr ∧ ∀ j, pb ≤ j → j < t → errP L (pb, pe, pf) j = 0)
      (fun u _ => pe - (intOf u).toNat)
    case atStart => exact ⟨pb, rfl, Nat.le_refl _, .inr rfl, Below.refl _ _, fun j h1 h2 => by omega⟩
    case round =>
      obtain ⟨t, rfl, ht1, ht2, hbw, hok⟩ := hrel
      have hobj := (hbw.block kp lkp).trans HO.out
      have c1 := (obj_cell hobj 1).trans rfl
      by_cases hlt : t < pe
      · have hltI : (t : Int) < (pe : Int) := by omega
        obtain ⟨b, off, rfl, hb, hc⟩ := hr (by omega)
        have hbe := H1.out.size
        have htL : t < L.length := by omega
        have htI : (t : Int) < (L.length : Int) := by omega
        have v0 : wr.cell? ⟨b, off + t * 2, none⟩ = some (.int .u8 ((L.getD t (0, 0)).1 : Nat)) := (hbw.cell (p := ⟨b, off + t * 2, none⟩) (by show b < U.heap.size; omega)).trans ((H1.out.cell (p := ⟨b, off + t * 2, none⟩) (by show b < w2.heap.size; omega)).trans ((hB2.cell (p := ⟨b, off + t * 2, none⟩) hb).trans (hc t htL).1))
        have v1 : wr.cell? ⟨b, off + t * 2 + 1, none⟩ = some (.int .u32 ((L.getD t (0, 0)).2 : Nat)) := (hbw.cell (p := ⟨b, off + t * 2 + 1, none⟩) (by show b < U.heap.size; omega)).trans ((H1.out.cell (p := ⟨b, off + t * 2 + 1, none⟩) (by show b < w2.heap.size; omega)).trans ((hB2.cell (p := ⟨b, off + t * 2 + 1, none⟩) hb).trans (hc t htL).2))
        have cC : wr.cell? ⟨kw, 0, none⟩ = some (.slice (some ⟨b, off, none⟩) L.length cap) := (hbw.cell (p := ⟨kw, 0, none⟩) (by show kw < U.heap.size; omega)).trans ((H1.out.cell (p := ⟨kw, 0, none⟩) (by show kw < w2.heap.size; omega)).trans bC.cell)
        have c0 := (obj_cell hobj 0).trans rfl
        have c2 := (obj_cell hobj 2).trans rfl
        have c3 := (obj_cell hobj 3).trans rfl
        have HCk : Hid (∀ W, Calls Tryz.prog 49 #[.agg #[.int .u8 ((L.getD t (0, 0)).1 : Nat), .int .u32 ((L.getD t (0, 0)).2 : Nat)], .int .u32 t, .agg #[.int .u32 pb, .int .u32 pe, .int .u32 pf, .int .i64 0]] W fun y w' => y = .returned (.int .i64 (errP L (pb, pe, pf) t : Nat)) ∧ Below W.heap.size W w') := hidS (fun W => by
          have := pchk_any (L.getD t (0, 0)).1 (L.getD t (0, 0)).2 t pb (pe - 1) pf 0 W (hwf t htL).1 (hwf t htL).2 (by omega)
          rw [show pe - 1 + 1 = pe by omega] at this
          exact this)
        have HE : Hid (errP L (pb, pe, pf) t = errP L (pb, pe, pf) t) := hidS rfl
        generalize (L.getD t (0, 0)).1 = op at v0 HCk
        generalize (L.getD t (0, 0)).2 = arg at v1 HCk
        generalize hex : errP L (pb, pe, pf) t = ex at HCk
        have HEx := hidS hex
        have HOk := hidS hok
        clear hex hok HE hc hobj
        gi_wp2
        have k0 := cell_regrown v0
        have k1 := cell_regrown v1
        have k2 := cell_regrown cC
        have k3 := cell_regrown c0
        have k4 := cell_regrown c1
        have k5 := cell_regrown c2
        have k6 := cell_regrown c3
        have cQ : ∀ d os, CallsIn Fence.wide (30 - 1 - 1 - 1) Tryz.prog 49 #[.agg #[.int .u8 (op : Int), .int .u32 (arg : Int)], .int .u32 (t : Int), .agg #[.int .u32 (pb : Int), .int .u32 (pe : Int), .int .u32 (pf : Int), .int .i64 0]] (grow (redrawn wr d) os) fun e w'' => e = .returned (.int .i64 (ex : Int)) ∧ ∃ p : Regrown, w'' = grow (redrawn wr p.d) p.os := fun d os => CallsIn.regrown_of (callsIn_wide.2 (HCk.out _))
        refine region_qb_r (by kernel_rfl) (by kernel_rfl) (by kernel_rfl) ?_
        repeat (first
          | quiet_step_in (fail)
          | (refine wpQuietIn_step (by unfold Oper.askedIn; intros; trivial) (fun K hK => ?_)
             go_simp
             apply Exists.intro
             refine ⟨fun _ => ?_, hK _ ?_⟩
             exact cQ _ _
             clear hK K))
        refine wpQuietIn_nil ?_
        intro _ hw'
        obtain ⟨⟨dq, osq⟩, hw''⟩ := hw'
        subst hw''
        have hbq := below_regrown wr dq osq
        have k7 := cell_regrown (((hbw.cell (p := ⟨kw + 1, 0, none⟩) (by show kw + 1 < U.heap.size; omega)).trans ((H1.out.cell (p := ⟨kw + 1, 0, none⟩) (by show kw + 1 < w2.heap.size; omega)).trans bI.cell))) dq osq
        clear k0 k1 k2 k3 k4 k5 k6 cQ v0 v1 cC c0 c1 c2 c3 HCk
        generalize grow (redrawn wr dq) osq = V at hbq k7 ⊢
        have hUV := btP hbw hbq
        have bIV : Boxed V (kw + 1) 3 (.int .i64 0) := (hUV.block _ (by omega)).trans ((H1.out.block _ (by omega)).trans bI)
        have bEV : Boxed V (kw + 2) 30 (.int .i64 0) := (hUV.block _ (by omega)).trans ((H1.out.block _ (by omega)).trans bE)
        by_cases hx0 : ex = 0
        · subst hx0
          rw [show ((0 : Nat) : Int) = 0 from rfl]
          gi_wp2
          go_roundw
          case rel => exact ⟨t + 1, by go_num, by omega, .inl (by omega), hUV, fun j h1 h2 => by
            by_cases hj : j < t
            · exact HOk.out j h1 hj
            · rw [show j = t by omega]
              exact HEx.out⟩
          case measure => simp [intOf]; omega
        · have hxI : ¬ (ex : Int) = 0 := by omega
          have cI := bIV.cell
          have fI := bIV.frozen
          have bI2 : Boxed (V.setCell ⟨kw + 1, 0, none⟩ (.int .i64 (t : Int))) (kw + 1) 3 (.int .i64 (t : Int)) := bIV.set _
          have bE2 : Boxed (V.setCell ⟨kw + 1, 0, none⟩ (.int .i64 (t : Int))) (kw + 2) 30 (.int .i64 0) := bEV.other (by omega) _
          have cE := bE2.cell
          have fE := bE2.frozen
          have HB2 := hidS (And.intro bI2 bE2)
          clear bI2 bE2
          gi_wp2
          refine ⟨((Upon.of_below hUV).trans (Upon.setCell _ _ _)).trans (Upon.setCell _ _ _), rfl, ?_, t, ex, HB2.out.1.other (by omega) _, HB2.out.2.set _, .inr ⟨hx0, x, HX.out.2.2, ?_⟩⟩
          · have hk : Kp (fun k => kw ≤ k) w (V.setCell ⟨kw + 1, 0, none⟩ (.int .i64 (t : Int))) := ((Kp.ofBelow (btP (btP hB2 H1.out) hUV)).trans (Kp.setCell (S := fun k => kw ≤ k) _ _ _ (by show kw ≤ kw + 1; omega)) (fun _ _ q => q))
            exact (hk.trans (Kp.setCell (S := fun k => kw ≤ k) _ _ _ (by show kw ≤ kw + 2; omega)) (fun _ _ q => q)).below (Nat.le_refl _) (fun i hi => by rw [hkw]; exact hi)
          · rw [HX.out.1]
            refine ⟨ht1, hlt, HEx.out, HOk.out, fun q hq => H2.out q (by rw [← HX.out.2.1]; exact hq)⟩
      · have hlI : ¬ (t : Int) < (pe : Int) := by omega
        have HOk := hidS hok
        clear hok
        gi_wp2
        refine ⟨Upon.of_below hbw, fun h => h.below hbw h.bl.lt (by have := H1.out.size; omega), by rw [← hs2]; exact btP H1.out hbw, fun q hq => ?_⟩
        rw [List.length_append, List.length_singleton] at hq
        by_cases he : q = pre.length
        · have hqx : q = x := by rw [he, HX.out.2.1]
          subst hqx
          unfold OkP
          rw [HX.out.1]
          exact fun j h1 h2 => HOk.out j h1 (Nat.lt_of_lt_of_le h2 (Nat.le_of_not_lt hlt))
        · exact H2.out q (by omega)
  case done =>
    rintro D1 xs U hD hS ⟨h1, h2⟩ hd
    subst hS
    have bIU : Boxed U (kw + 1) 3 (.int .i64 0) := (h1.block _ (by omega)).trans bI
    have bEU : Boxed U (kw + 2) 30 (.int .i64 0) := (h1.block _ (by omega)).trans bE
    have cI := bIU.cell
    have fI := bIU.frozen
    have bI2 : Boxed (U.setCell ⟨kw + 1, 0, none⟩ (.int .i64 0)) (kw + 1) 3 (.int .i64 0) := bIU.set _
    have bE2 : Boxed (U.setCell ⟨kw + 1, 0, none⟩ (.int .i64 0)) (kw + 2) 30 (.int .i64 0) := bEU.other (by omega) _
    have cE := bE2.cell
    have fE := bE2.frozen
    have HB2 := hidS (And.intro bI2 bE2)
    have H1 := hidS h1
    have H2 := hidS h2
    have HD1 := hidS (And.intro hd hD)
    clear h1 h2 hd hD bI2 bE2
    rw [HT.out]
    gi_wp2
    have hd2 : ((U.setCell ⟨kw + 1, 0, none⟩ (.int .i64 0)).setCell ⟨kw + 2, 0, none⟩ (.int .i64 0)).heap[D1]? = some (.deferred (some [])) := (Below.heap_setCell _ _ _ _ (by show D1 ≠ kw + 2; have := HD1.out.2; omega)).trans ((Below.heap_setCell _ _ _ _ (by show D1 ≠ kw + 1; have := HD1.out.2; omega)).trans HD1.out.1)
    refine ⟨by simp, .inl ⟨_, _, rfl, run_takeDeferred hd2, ?_⟩⟩
    have bI3 : Boxed (((U.setCell ⟨kw + 1, 0, none⟩ (.int .i64 0)).setCell ⟨kw + 2, 0, none⟩ (.int .i64 0)).putObj D1 (.deferred none)) (kw + 1) 3 (.int .i64 0) := (World.putObj_heap_other (by have := HD1.out.2; omega)).trans (HB2.out.1.other (by omega) _)
    have bE3 : Boxed (((U.setCell ⟨kw + 1, 0, none⟩ (.int .i64 0)).setCell ⟨kw + 2, 0, none⟩ (.int .i64 0)).putObj D1 (.deferred none)) (kw + 2) 30 (.int .i64 0) := (World.putObj_heap_other (by have := HD1.out.2; omega)).trans (HB2.out.2.set _)
    have c1 := bI3.cell
    have c2 := bE3.cell
    refine ⟨.tuple #[.int .i64 0, .int .i64 0], ?_, 0, 0, rfl, .inl ⟨rfl, rfl, fun k hk => H2.out k (by rw [List.length_range]; exact hk)⟩, ?_⟩
    · simp [results, Tryz.f25, go_sem, c1, c2]
    · have hk : Kp (fun k => kw ≤ k) w (U.setCell ⟨kw + 1, 0, none⟩ (.int .i64 0)) := ((Kp.ofBelow (btP hB2 H1.out)).trans (Kp.setCell (S := fun k => kw ≤ k) _ _ _ (by show kw ≤ kw + 1; omega)) (fun _ _ q => q))
      have hk2 := hk.trans (Kp.setCell (S := fun k => kw ≤ k) (U.setCell ⟨kw + 1, 0, none⟩ (.int .i64 0)) ⟨kw + 2, 0, none⟩ (.int .i64 0) (by show kw ≤ kw + 2; omega)) (fun _ _ q => q)
      exact (hk2.trans (Kp.ofGrown (S := fun k => kw ≤ k) (grownBy_putObj' _ D1 (.deferred none)) (fun i e _ => by cases e; have := HD1.out.2; omega)) (fun _ _ q => q)).below (Nat.le_refl _) (fun i hi => by rw [hkw]; exact hi)
  case stop =>
    rintro D1 c pre U hD hS ⟨rfl, hbU, i, x, b1, b2, hck⟩ hd
    have HB2 := hidS (And.intro b1 b2)
    have HD1 := hidS (And.intro hd hD)
    have HBU := hidS (And.intro hbU hck)
    clear b1 b2 hd hD hbU hck
    rw [HT.out]
    gi_wp2
    refine ⟨by simp, .inl ⟨_, _, rfl, run_takeDeferred HD1.out.1, ?_⟩⟩
    have bI3 : Boxed (U.putObj D1 (.deferred none)) (kw + 1) 3 (.int .i64 i) := (World.putObj_heap_other (by have := HD1.out.2; omega)).trans HB2.out.1
    have bE3 : Boxed (U.putObj D1 (.deferred none)) (kw + 2) 30 (.int .i64 x) := (World.putObj_heap_other (by have := HD1.out.2; omega)).trans HB2.out.2
    have c1 := bI3.cell
    have c2 := bE3.cell
    refine ⟨.tuple #[.int .i64 i, .int .i64 x], ?_, i, x, rfl, HBU.out.2, ?_⟩
    · simp [results, Tryz.f25, go_sem, c1, c2]
    · exact ((Kp.ofBelow HBU.out.1).trans (Kp.ofGrown (S := fun k => kw ≤ k) (grownBy_putObj' _ D1 (.deferred none)) (fun i e _ => by cases e; have := HD1.out.2; omega)) (fun _ _ q => q)).below (Nat.le_refl _) (fun i hi => by rw [hkw]; exact hi)
end Go.Proofs.YtgbpfejodpplbaaGreatDoor
