import Derived.Test.YtgfgdkeeonolcaaWWo
import Derived.Test.YtgfgdkeeonolcaaWQr
namespace Go.Proofs.Ytgfgdkeeonolcaa
open Go.RowKit Go.Shelf
attribute [local go_sem] Oper.semAt_some run_store_func wnilcmp

/-- a range within a round that is left by break alone -/
theorem range_inner_break {α : Type} {F : Fence} {n : Nat} {P : Program} {g : Operand} {ps : Array Tmp} {assign body : Code} {id : Nat} {Q : Exit → Act → World → Prop} {a : Act} {w : World} {l0 : Nat} {q0 : Loop} (hro : F.round = some l0) (hq0 : w.heap[l0]? = some (.loop q0)) (h1 : 1 ≤ n) {gf : Nat} {lb : Array Value} (hg : a.eval g = .func (.func gf) #[] lb) (hFg : F.fn gf) (eg : ∀ args w, (callFunc gf args).run P w = .ok (.enter gf args) w)
    {encs : α → Array Value} {Kp : World → World → Prop} {S Sp : List α → Prop} {N : Nat} {w0 : World} (hseq : SeqOwn F (n - 1) P gf lb encs Kp S Sp N w0)
    (hKt : ∀ {A B C : World}, Kp A B → Kp B C → Kp A C) (hKb : ∀ (W : World) (l : Nat) (o o' : Obj), w.heap.size ≤ l → W.heap[l]? = some o → o.isCells = false → o.isWalk = false → Kp W (W.putObj l o')) (hb0 : Below w0.heap.size w0 w) (hps : ∀ x, (encs x).size = ps.size)
    (I : List α → World → Prop) (Ib : List α → World → Prop) (hI : OwnFrom w.heap.size I) (hIb : OwnFrom w.heap.size Ib) (h0 : I [] w) (Ax : α → Act → World → Prop) (hAx : ∀ x a', OwnFrom w.heap.size (fun (_ : Unit) W => Ax x a' W))
    (hassign : ∀ (l : Nat) (pre : List α) (x : α) (W : World) (K : Act → World → Prop), I pre W → (∀ a' W', Upon w.heap.size W W' → Kp W W' → I pre W' → Ax x a' W' → K a' W') →
      assign.wpIn (F.inRound l) (n - 1 - 1) P (Exit.then K (fun _ _ _ => False)) { tmps := (ps.zip (encs x)).foldl (fun t (p, v) => t.setIfInBounds p v) a.tmps, defers := [] } W)
    (hbody : ∀ (l : Nat) (pre : List α) (x : α) (a' : Act) (W : World), w.heap.size ≤ l → (∃ r, W.heap[l]? = some (.loop r)) → I pre W → Ax x a' W → pre.length < N → Sp (pre ++ [x]) → body.wpIn (F.inRound l) (n - 1 - 1) P (uponPost w.heap.size Kp I (fun c pre W => c = .exit id ∧ Ib pre W) (pre ++ [x]) W) a' W)
    (hend : ∀ (pre : List α) (W : World), ((S pre ∧ I pre W) ∨ (Sp pre ∧ Ib pre W)) → Q .normal a W) :
    (Code.rangeFunc g ps assign body).wpIn F n P (Exit.inBlock id Q) a w :=
  range_inner hro hq0 h1 hg hFg eg hseq hKt hKb hb0 hps I (fun c pre W => c = .exit id ∧ Ib pre W) hI (fun c s A C row h hg hr => ⟨h.1, hIb s A C row h.2 hg hr⟩) h0 Ax hAx hassign hbody
    (fun xs W hS hi => hend xs W (.inl ⟨hS, hi⟩))
    (fun c pre W hS hi => by
      obtain ⟨rfl, hi⟩ := hi
      refine wpIn_exit ?_
      simp only [Exit.inBlock, if_true]
      exact hend pre W (.inr ⟨hS, hi⟩))
theorem upon_step {B : Nat} {V A C : World} {row : Option Nat} {m : Nat} (h : Upon B V A) (hm : V.heap.size ≤ m) (hg : A.grownBy C row) (hr : ∀ r, row = some r → m ≤ r) : Upon B V C :=
  ⟨Nat.le_trans h.size hg.size, fun k hB hk => (hg.block k (Nat.lt_of_lt_of_le hk h.size) (fun e => by have := hr k e.symm; omega)).trans (h.same k hB hk)⟩

set_option maxRecDepth 100000 in
set_option maxHeartbeats 1000000 in
theorem isawalk_any (ao : Option Addr) (cap : Nat) (zs : List Int) (lv : Int) (w : World) (hn : zs.length ≤ 140737488351232) (hwf : ∀ z ∈ zs, 0 ≤ z ∧ z ≤ 255) (hr : Reads w ao zs w.heap.size) (hl0 : -9223372036854775808 ≤ lv) (hl1 : lv ≤ 9223372036854775807) :
    Calls Try.prog 3 #[.slice ao zs.length cap, .int .i64 lv] w fun e w' => e = .returned (.bool true) ∧ Below w.heap.size w w' := by
  refine (callsIn_wide (n := 30)).1 ?_
  refine callsIn_of_wp_marks Try.func3 rfl trivial ?_ rfl
  simp only [Try.ntmps3, List.size_toArray, List.length_cons, List.length_nil, Nat.reduceAdd, Nat.reduceSub, Array.replicate_succ, Array.replicate_zero, List.push_toArray, List.append_toArray, List.nil_append, List.cons_append]
  have HWF := hid_of hwf
  have HR : Hid (∀ W, Below w.heap.size w W → Reads W ao zs W.heap.size) := hid_of (fun W hb => (hr.below hb).mono hb.size)
  clear hwf hr
  have HZ : Hid (zs = (zs ++ marks 0 64).take zs.length) := hid_of (by simp)
  gi_wp2_with (refine ⟨trivial, ?_⟩; first
    | (gi_at_call 4; refine (callsIn_wide.2 (rwalk_any _ _ zs _ (by omega) HWF.out (HR.out _ (bel (Below.refl _ _))))).mono ?_; rintro e w1 ⟨vp, vc, rfl, op1, oc1, hpc, hq1⟩; obtain ⟨pa, pc, rfl⟩ := own_any op1; obtain ⟨ca, cc, rfl⟩ := own_any oc1; have hB1 : Below w.heap.size w w1 := bt (bel (Below.refl _ _)) hq1)
    | (gi_at_call 5; refine (callsIn_wide.2 (lent_any _ _ zs _ hn (HR.out _ (bel (bel hB1))))).mono ?_; rintro e w2 ⟨vl, rfl, ol2, hq2⟩; obtain ⟨g, gc, rfl, hgc⟩ := own_form ol2 (by omega); have hB2 : Below w.heap.size w w2 := bt (bel (bel hB1)) hq2)
    | (gi_at_call 6; refine (callsIn_wide.2 (iwalk_any (some ⟨g, 0, none⟩) gc zs _ (by omega) (fun h => by cases h) (reads_own ol2 HZ.out))).mono ?_; rintro e w3 ⟨Bs, vh, rfl, hBs, bh3, oh3, hq3⟩; obtain ⟨ha, hc, rfl⟩ := own_any oh3; have hB3 : Below w.heap.size w w3 := bt hB2 hq3; have ol3 := own_below ol2 hq3)
    | (gi_at_call 7; refine (callsIn_wide.2 (kept_any ao cap zs g gc _ hn (HR.out _ (bel hB3)) (fun i hi => own_get (ol3.alloc _) (by simp [marks_len]; omega)))).mono ?_; rintro e w4 ⟨rfl, m4, hq4⟩; have HQ4 := hid_of hq4; clear hq4)
    | (gi_at_call 8; refine (callsIn_wide.2 (over_any g gc (zs.length + 64) (zs.length + 64) _ (zs ++ marks 0 64) _ (by omega) (Nat.le_refl _) (by simp [marks_len]) (by rw [HQ4.out]; exact ol3.alloc _))).mono ?_; rintro e w5 ⟨rfl, ol5, hq5, hsz5, hg5⟩; have bA5 : Boxed w5 w3.heap.size 30 (.func (.func 13) #[] #[.pointer (some ⟨Bs, 0, none⟩)]) := (hg5.block _ (by rw [HQ4.out]; simp) (by intro e; have := (ol3.lt g rfl).2; simp at e; omega)).trans (by rw [HQ4.out]; exact Boxed.new w3 30 _); have cA := fun o => (bA5.alloc o).cell; clear ol5))
  obtain ⟨W0, hW0⟩ : ∃ W0, w5.alloc (Obj.cells #[.int .i64 0] 3) = W0 := ⟨_, rfl⟩
  rw [hW0]
  have g0 : w1.heap.size + 2 ≤ g := by have := (ol2.lt g rfl).1; simpa using this
  have g1 : g < w2.heap.size := (ol2.lt g rfl).2
  have s1 : w.heap.size + 1 ≤ w1.heap.size := by have := hq1.size; simpa using this
  have s2 : w1.heap.size + 2 ≤ w2.heap.size := by omega
  have s3 : w2.heap.size ≤ w3.heap.size := hq3.size
  have s4 : w4.heap.size = w3.heap.size + 1 := by rw [HQ4.out]; simp
  have s0 : W0.heap.size = w3.heap.size + 2 := by rw [← hW0]; simp; omega
  -- whatever stood in w3, the lent row aside, stands
  have K3 : ∀ k o, k ≠ g → w3.heap[k]? = some o → W0.heap[k]? = some o := by
    intro k o hk ho
    have hlt := (Array.getElem?_eq_some_iff.1 ho).1
    have h4 : w4.heap[k]? = some o := by rw [HQ4.out]; exact (Below.heap_alloc _ _ _ hlt).trans ho
    have h5 : w5.heap[k]? = some o := (hg5.block k (by omega) (fun e => hk (by cases e; rfl))).trans h4
    rw [← hW0]
    exact (Below.heap_alloc _ _ _ (Array.getElem?_eq_some_iff.1 h5).1).trans h5
  have K1 : ∀ k o, k < w1.heap.size + 2 → ((w1.alloc (Obj.cells #[.slice pa (okItems zs).length pc] 23)).alloc (Obj.cells #[.slice ca (okItems zs).length cc] 24)).heap[k]? = some o → W0.heap[k]? = some o := fun k o hk ho =>
    K3 k o (by omega) ((hq3.block k (by omega)).trans ((hq2.block k (by simpa using hk)).trans ho))
  have K0 : ∀ k, k < w1.heap.size → W0.heap[k]? = w1.heap[k]? := fun k hk => by
    obtain ⟨o, ho⟩ : ∃ o, w1.heap[k]? = some o := ⟨_, Array.getElem?_eq_getElem hk⟩
    rw [ho]
    exact K1 k o (by omega) ((Below.heap_alloc _ _ _ (by simp; omega)).trans ((Below.heap_alloc _ _ _ hk).trans ho))
  have bR : Boxed W0 w.heap.size 4 (.bool false) := (K0 _ (by omega)).trans ((hq1.block _ (by simp)).trans (heap_alloc_last w _))
  have bP : Boxed W0 w1.heap.size 23 (.slice pa (okItems zs).length pc) := K1 _ _ (by omega) ((Below.heap_alloc _ _ _ (by simp)).trans (heap_alloc_last w1 _))
  have bC : Boxed W0 (w1.heap.size + 1) 24 (.slice ca (okItems zs).length cc) := K1 _ _ (by omega) (by have := heap_alloc_last (w1.alloc (Obj.cells #[.slice pa (okItems zs).length pc] 23)) (Obj.cells #[.slice ca (okItems zs).length cc] 24); rwa [World.size_alloc] at this)
  have bA : Boxed W0 w3.heap.size 30 (.func (.func 13) #[] #[.pointer (some ⟨Bs, 0, none⟩)]) := by rw [← hW0]; exact bA5.alloc _
  have bN : Boxed W0 w4.heap.size 3 (.int .i64 0) := by have := Boxed.new w5 3 (.int .i64 0); rwa [hsz5, hW0] at this
  have HBS := hid_of bh3.lt
  have HLN := hid_of (ok_len zs)
  have bH : Boxed W0 Bs 22 (.slice ha zs.length hc) := K3 _ _ (by omega) bh3
  have rH : Reads W0 ha zs w3.heap.size := by
    intro hp
    obtain ⟨gh, c', e, hle⟩ := own_form oh3 hp
    cases e
    have hl := oh3.lt gh rfl
    refine ⟨gh, 0, rfl, hl.2, fun j hj => ?_⟩
    rw [Nat.zero_add]
    obtain ⟨o, ho⟩ : ∃ o, w3.heap[gh]? = some o := ⟨_, Array.getElem?_eq_getElem hl.2⟩
    rw [World.cell?_of_block (w := w3) (a := ⟨gh, j, none⟩) ((K3 gh o (by omega) ho).trans ho.symm), own_get oh3 hj]
    try simp
  have hch : zs.length ≤ hc := by
    by_cases hp : 0 < zs.length
    · obtain ⟨gh, c', e, hle⟩ := own_form oh3 hp
      cases e
      exact hle
    · omega
  have HPl : Hid (∀ i x, (okItems zs)[i]? = some x → ∃ g, pa = some ⟨g, 0, none⟩ ∧ g < w1.heap.size ∧ W0.cell? ⟨g, i, none⟩ = some (.int .i64 (x.1 : Int))) := hid_of (fun i x hx => by
    obtain ⟨g, e, _, h2, h3⟩ := pl_own op1 rfl hx
    exact ⟨g, e, h2, (World.cell?_of_block (K0 _ h2)).trans h3⟩)
  have HCo : Hid (∀ i x, (okItems zs)[i]? = some x → ∃ g, ca = some ⟨g, 0, none⟩ ∧ g < w1.heap.size ∧ W0.cell? ⟨g, i * 2, none⟩ = some (.int .u8 (x.2.1 : Int)) ∧ W0.cell? ⟨g, i * 2 + 1, none⟩ = some (.int .u32 (x.2.2.1 : Int))) := hid_of (fun i x hx => by
    obtain ⟨g, e, _, h2, h3, h4⟩ := co_own oc1 rfl hx
    exact ⟨g, e, h2, (World.cell?_of_block (K0 _ h2)).trans h3, (World.cell?_of_block (K0 _ h2)).trans h4⟩)
  have hB0 : Below w.heap.size w W0 := by
    have h4 : Below w.heap.size w w4 := by rw [HQ4.out]; exact below_drewN (bel hB3) _
    have h5 : Below w.heap.size w w5 := h4.trans (hq5.mono (by simp; omega))
    rw [← hW0]
    exact bel h5
  clear K3 K1 K0 hq5 hg5 hsz5 bA5 cA HQ4 hq3 hq2 hq1 op1 oc1 hpc ol2 ol3 oh3 bh3 hB1 hB2 hB3 HZ HR hW0
  obtain ⟨kP, hkP⟩ : ∃ k, w1.heap.size = k := ⟨_, rfl⟩
  obtain ⟨kA, hkA⟩ : ∃ k, w3.heap.size = k := ⟨_, rfl⟩
  obtain ⟨kN, hkN⟩ : ∃ k, w4.heap.size = k := ⟨_, rfl⟩
  obtain ⟨len, hlen⟩ : ∃ k, (okItems zs).length = k := ⟨_, rfl⟩
  rw [hlen] at bP bC HLN
  rw [hkP] at bP bC HPl HCo s1 s2 g0
  rw [hkA] at bA rH s0 s3 s4
  rw [hkN] at bN s4
  rw [hkP, hkA, hkN, hlen]
  have hBN : Bs ≠ kN := by have := HBS.out; omega
  have s4' : kA < kN := by omega
  have s0' : kN < W0.heap.size := by omega
  clear hkP hkA hkN hBs s4 s0
  have HRH := hid_of rH
  have HC5 : Hid (∀ V, Agree W0 kN V → Kw ha zs kA W0 V) := hid_of (fun V hA y => hA.reads y (by omega))
  have HKW : Hid (∀ V V', Agree W0 kN V' → Kw ha zs kA V V') := hid_of (fun V V' hA _ => hA.reads HRH.out (by omega))
  have HSQ : Hid (∀ (n : Nat) (V : World), 4 ≤ n → Agree W0 kN V → Bs ≠ kN → SeqOwn Fence.wide n Try.prog 13 #[.pointer (some ⟨Bs, 0, none⟩)] encW (Kw ha zs kA) (fun ys => ys = okItems zs) (fun pre => pre <+: okItems zs) 16385 V) := hid_of (fun n V h4 hA hBs => walk1_own n h4 Bs kA ha hc zs V (by omega) hch HWF.out (hA.box bH hBs) (hA.reads rH (by omega)) (by have := hA.1; omega))
  refine with_tmps fun T hT => ?_
  have HT := hid_of hT
  clear hT
  refine range_outer (F := Fence.wide) rfl (by decide) (gf := 13) (lb := #[.pointer (some ⟨Bs, 0, none⟩)]) (by rw [HT.out]; rfl) trivial (enters_of Try.func13 (by kernel_rfl) rfl)
    (HSQ.out (30 - 1) W0 (by decide) (Agree.refl _ _) ?hbs) Kw_t (Kw_b (w := W0)) (Below.refl _ _) (fun _ => rfl)
    (fun pre V => Agree W0 kN V ∧ Boxed V kN 3 (.int .i64 pre.length) ∧ Below w.heap.size w V)
    (fun c pre V => False)
    (fun s A C row h hg hr => ⟨h.1.step hg (fun r e => (hr r e).2), boxed_step h.2.1 hg (fun r e => (hr r e).2), ownFrom_below (β := Unit) (B := W0.heap.size) (Nat.le_refl _) (by omega) () A C row h.2.2 hg hr⟩)
    (fun c t A B row h hg hr => h)
    ⟨Agree.refl _ _, bN, hB0⟩
    (fun x a' V => ∃ R, W0.heap.size ≤ R ∧ V.heap[R]? = some (Obj.cells #[.int .u8 x.2.1, .int .u32 x.2.2.1] 37) ∧ a' = { tmps := (((((#[47, 48] : Array Tmp).zip (encW x)).foldl (fun t (p, v) => t.setIfInBounds p v) T).setIfInBounds 12 (.int .i64 x.1)).setIfInBounds 13 (.pointer (some ⟨R, 0, none⟩))), defers := [] })
    (fun x a' => Own.from (fun t A C row h hg hr => by
      obtain ⟨R, h1, h2, h3⟩ := h
      exact ⟨R, h1, row_step h2 hg hr, h3⟩) _)
    ?assign ?body ?done ?stop
  case hbs => exact hBN
  case assign =>
    intro l pre x V K hI hK
    obtain ⟨h1, h2, h3⟩ := hI
    have hv := h1.1
    have hfin := fun a' (ha : _) => hK a' (V.alloc (.cells #[.int .u8 x.2.1, .int .u32 x.2.2.1] 37)) (Upon.alloc _ V _) (fun y => y.below ((Below.refl _ V).alloc (by omega) _)) ⟨h1.alloc _, h2.alloc _, bel h3⟩ ⟨V.heap.size, h1.1, heap_alloc_last V _, ha⟩
    have HF := hid_of hfin
    clear hfin hK h1 h2 h3
    rw [HT.out]
    gi_wp2
    exact HF.out _ (by rw [HT.out]; simp [encW])
  case body =>
    rintro l pre x a' V hl hrec ⟨h1, h2, h3⟩ ⟨R, hR, hRh, rfl⟩ hln hsp
    have hx : (okItems zs)[pre.length]? = some x := by obtain ⟨t, ht⟩ := hsp; rw [← ht]; simp
    have hlt : pre.length < len := by rw [← hlen]; exact (List.getElem?_eq_some_iff.1 hx).1
    obtain ⟨gp, rfl, hgp, p0⟩ := HPl.out _ _ hx
    obtain ⟨gq, rfl, hgq, q0, q1⟩ := HCo.out _ _ hx
    have cN := h2.cell; have fN := h2.frozen
    have cP := (h1.box bP (by omega)).cell
    have cC := (h1.box bC (by omega)).cell
    have vp := h1.cell p0 (by show gp ≠ kN; omega)
    have v0 := h1.cell q0 (by show gq ≠ kN; omega)
    have v1 := h1.cell q1 (by show gq ≠ kN; omega)
    obtain ⟨r0, r1⟩ := inCells hRh
    have ltI : (pre.length : Int) < (len : Int) := by omega
    have hd1 : decide (len ≤ pre.length) = false := by simp; omega
    have hw : wrap64 ((pre.length : Int) + 1) = (pre.length : Int) + 1 := wrap_small hln
    have H1 := hid_of h1
    have H3 := hid_of h3
    clear hx hsp h1 h3 p0 q0 q1 bP bC bA bH rH hrec
    rw [HT.out]
    gi_wp2
    refine region_quiet_r (by kernel_rfl) (by kernel_rfl) (by kernel_rfl) ?_
    repeat (gi_big_quiet_step (fail))
    refine wpQuietIn_nil ?_
    intro _ hw'
    obtain ⟨nq, hw''⟩ := hw'
    subst hw''
    have hA1 := H1.out.drewN nq
    have hN1 := Boxed.drewN h2 nq
    have hB1 := below_drewN H3.out nq
    have hU1 := Upon.drewN W0.heap.size V nq
    clear cN fN cP cC vp v0 v1 r0 r1 hRh H1 H3 h2
    generalize V.drewN nq = U at hA1 hN1 hB1 hU1 ⊢
    obtain ⟨k, hk⟩ : ∃ k : Nat, pre.length = k := ⟨_, rfl⟩
    have HK := hid_of hk
    rw [hk] at hN1 hw
    clear hk hln hlt ltI hd1
    have cN := hN1.cell; have fN := hN1.frozen
    gi_wp2
    have hA2 := hA1.set (.int .i64 ((k : Int) + 1))
    refine ⟨hU1.trans (Upon.setCell _ _ _ (by show kN < W0.heap.size; omega)), HKW.out _ _ hA2, hA2, ?_, hB1.setCell (by show w.heap.size ≤ kN; omega) _⟩
    rw [show ((pre ++ [x]).length : Int) = (k : Int) + 1 by simp [HK.out]]
    exact hN1.set _
  case done =>
    rintro D1 ys V hD1 hys ⟨h1, h2, h3⟩ hK1
    have hyl : ys.length = len := by rw [hys, hlen]
    rw [hyl] at h2
    clear hyl hys ys
    have cN := h2.cell; have fN := h2.frozen
    have cC := (h1.box bC (by omega)).cell
    have cA := (h1.box bA (by omega)).cell
    have hV : W0.heap.size ≤ V.heap.size := h1.1
    have n1 : ¬ kN = V.heap.size := by omega
    have n2 : ¬ V.heap.size = kN := by omega
    have n3 : ¬ kA = V.heap.size := by omega
    have n4 : ¬ kA = kN := by omega
    have hpk := pick_any lv ((len : Int) + 1) V hl0 hl1 (by omega) (by have := HLN.out; omega)
    obtain ⟨st, hst⟩ : ∃ st : Nat, lv % ((len : Int) + 1) = (st : Int) := ⟨(lv % ((len : Int) + 1)).toNat, (Int.toNat_of_nonneg (Int.emod_nonneg _ (by omega))).symm⟩
    have hsl : st ≤ len := by have := Int.emod_lt_of_pos lv (b := (len : Int) + 1) (by omega); omega
    rw [hst] at hpk
    have hw : wrap64 ((len : Int) + 1) = (len : Int) + 1 := by have := HLN.out; unfold wrap64; omega
    have cN2 := fun o => (h2.alloc o).cell
    have fN2 := fun o => (h2.alloc o).frozen
    have cA2 := fun o v => (((h1.box bA (by omega)).alloc o).other (B' := kN) (by omega) v).cell
    clear hst
    rw [HT.out]
    gi_wp2_with (refine ⟨trivial, ?_⟩; gi_at_call 9; refine (callsIn_wide.2 hpk).mono ?_; rintro e w' ⟨rfl, hw'⟩; subst hw')
    rename World => V
    have hA2 := (h1.alloc (Obj.cells #[.int .i64 st] 3)).set (.int .i64 0)
    have bN2 := (h2.alloc (Obj.cells #[.int .i64 st] 3)).set (.int .i64 0)
    have bS2 : Boxed ((V.alloc (Obj.cells #[.int .i64 st] 3)).setCell ⟨kN, 0, none⟩ (.int .i64 0)) V.heap.size 3 (.int .i64 st) := (Boxed.new V 3 (.int .i64 st)).other (by omega) _
    have hB2 : Below w.heap.size w ((V.alloc (Obj.cells #[.int .i64 st] 3)).setCell ⟨kN, 0, none⟩ (.int .i64 0)) := (bel h3).setCell (by show w.heap.size ≤ kN; omega) _
    have hDl : D1 < V.heap.size := (Array.getElem?_eq_some_iff.1 hK1).1
    have hK2 : ((V.alloc (Obj.cells #[.int .i64 st] 3)).setCell ⟨kN, 0, none⟩ (.int .i64 0)).heap[D1]? = some (.deferred (some [])) := (heap_set_ne (by omega)).trans ((Below.heap_alloc _ _ _ hDl).trans hK1)
    have hz2 : ((V.alloc (Obj.cells #[.int .i64 st] 3)).setCell ⟨kN, 0, none⟩ (.int .i64 0)).heap.size = V.heap.size + 1 := by simp
    obtain ⟨kS, hkS⟩ : ∃ k, V.heap.size = k := ⟨_, rfl⟩
    obtain ⟨W2, hW2⟩ : ∃ W2, ((V.alloc (Obj.cells #[.int .i64 st] 3)).setCell ⟨kN, 0, none⟩ (.int .i64 0)) = W2 := ⟨_, rfl⟩
    rw [hW2] at hA2 bN2 bS2 hB2 hK2 hz2 ⊢
    rw [hkS] at bS2 hz2 hDl hV ⊢
    have hNS : kN < kS := by omega
    have hzs : kS < W2.heap.size := by omega
    have hzd : D1 < W2.heap.size := by omega
    have HBN := hid_of hBN
    have hN1' : kP + 1 < kN := by omega
    clear h1 h2 h3 hK1 cN fN cC cA n1 n2 n3 n4 hpk cN2 fN2 cA2 hW2 hkS hz2 hDl hw hBN
    refine with_tmps fun T2 hT2 => ?_
    have HT2 := hid_of hT2
    clear hT2
    refine range_break (F := Fence.wide) (id := 2) rfl (by decide) (gf := 13) (lb := #[.pointer (some ⟨Bs, 0, none⟩)]) (by rw [HT2.out]; rfl) trivial (enters_of Try.func13 (by kernel_rfl) rfl)
      (HSQ.out (30 - 1) W2 (by decide) hA2 HBN.out) Kw_t (Kw_b (w := W2)) (Below.refl _ _) (fun _ => rfl)
      (fun pre U => Agree W0 kN U ∧ Boxed U kN 3 (.int .i64 pre.length) ∧ Boxed U kS 3 (.int .i64 st) ∧ pre.length ≤ st ∧ Below w.heap.size w U ∧ U.heap[D1]? = some (.deferred (some [])))
      (fun pre U => Agree W0 kN U ∧ Boxed U kN 3 (.int .i64 st) ∧ Boxed U kS 3 (.int .i64 st) ∧ Below w.heap.size w U ∧ U.heap[D1]? = some (.deferred (some [])))
      (fun s A C row h hg hr => ⟨h.1.step hg (fun r e => (hr r e).2), boxed_step h.2.1 hg (fun r e => (hr r e).2), boxed_step h.2.2.1 hg (fun r e => (hr r e).2), h.2.2.2.1, ownFrom_below (β := Unit) (B := W2.heap.size) (Nat.le_refl _) (by omega) () A C row h.2.2.2.2.1 hg hr, low_kept h.2.2.2.2.2 hzd hg hr⟩)
      (fun s A C row h hg hr => ⟨h.1.step hg (fun r e => (hr r e).2), boxed_step h.2.1 hg (fun r e => (hr r e).2), boxed_step h.2.2.1 hg (fun r e => (hr r e).2), ownFrom_below (β := Unit) (B := W2.heap.size) (Nat.le_refl _) (by omega) () A C row h.2.2.2.1 hg hr, low_kept h.2.2.2.2 hzd hg hr⟩)
      ⟨hA2, bN2, bS2, Nat.zero_le _, hB2, hK2⟩
      (fun x a' U => ∃ R, 0 ≤ R ∧ U.heap[R]? = some (Obj.cells #[.int .u8 x.2.1, .int .u32 x.2.2.1] 37) ∧ a' = { tmps := (((((#[81, 82] : Array Tmp).zip (encW x)).foldl (fun t (p, v) => t.setIfInBounds p v) T2).setIfInBounds 15 (.int .i64 x.1)).setIfInBounds 16 (.pointer (some ⟨R, 0, none⟩))), defers := [] })
      (fun x a' => Own.from (fun t A C row h hg hr => by
        obtain ⟨R, h1, h2, h3⟩ := h
        exact ⟨R, h1, row_step h2 hg hr, h3⟩) _)
      ?assign2 ?body2 ?end2
    case assign2 =>
      intro l pre x U K hI hK
      obtain ⟨h1, h2, h3, h4, h5, h6⟩ := hI
      have hv := h1.1
      have hfin := fun a' (ha : _) => hK a' (U.alloc (.cells #[.int .u8 x.2.1, .int .u32 x.2.2.1] 37)) (Upon.alloc _ U _) (fun y => y.below ((Below.refl _ U).alloc (by omega) _)) ⟨h1.alloc _, h2.alloc _, h3.alloc _, h4, bel h5, (Below.heap_alloc _ _ _ (Array.getElem?_eq_some_iff.1 h6).1).trans h6⟩ ⟨U.heap.size, Nat.zero_le _, heap_alloc_last U _, ha⟩
      have HF := hid_of hfin
      clear hfin hK h1 h2 h3 h5 h6
      rw [HT2.out]
      gi_wp2
      exact HF.out _ (by rw [HT2.out]; simp [encW])
    case body2 =>
      rintro l pre x a' U hl hrec ⟨h1, h2, h3, h4, h5, h6⟩ ⟨R, hR, hRh, rfl⟩ hln hsp
      by_cases hpe : pre.length = st
      · rw [hpe] at h2
        have cN := h2.cell
        have cS := h3.cell
        clear hpe hln hl hR
        rw [HT2.out]
        gi_wp2
        exact ⟨Upon.refl _ _, rfl, h1, h2, h3, h5, h6⟩
      · have hx : (okItems zs)[pre.length]? = some x := by obtain ⟨t, ht⟩ := hsp; rw [← ht]; simp
        have hlt : pre.length < len := by rw [← hlen]; exact (List.getElem?_eq_some_iff.1 hx).1
        obtain ⟨gp, rfl, hgp, p0⟩ := HPl.out _ _ hx
        obtain ⟨gq, rfl, hgq, q0, q1⟩ := HCo.out _ _ hx
        have cN := h2.cell
        have cS := h3.cell
        have cP := (h1.box bP (Nat.ne_of_lt (Nat.lt_of_succ_lt hN1'))).cell
        have cC := (h1.box bC (Nat.ne_of_lt hN1')).cell
        have vp := h1.cell p0 (Nat.ne_of_lt (Nat.lt_trans hgp (Nat.lt_of_succ_lt hN1')))
        have v0 := h1.cell q0 (Nat.ne_of_lt (Nat.lt_trans hgq (Nat.lt_of_succ_lt hN1')))
        have v1 := h1.cell q1 (Nat.ne_of_lt (Nat.lt_trans hgq (Nat.lt_of_succ_lt hN1')))
        obtain ⟨r0, r1⟩ := inCells hRh
        have ltI : (pre.length : Int) < (len : Int) := Int.ofNat_lt.2 hlt
        have hd1 : decide (st < pre.length) = false := decide_eq_false (Nat.not_lt.2 h4)
        have hw : wrap64 ((pre.length : Int) + 1) = (pre.length : Int) + 1 := wrap_small hln
        have hneI : ¬ (pre.length : Int) = (st : Int) := fun e => hpe (Int.ofNat_inj.1 e)
        have hl1 : pre.length + 1 ≤ st := Nat.lt_of_le_of_ne h4 hpe
        have H1 := hid_of h1
        have H3 := hid_of h5
        have H6 := hid_of h6
        have HL1 := hid_of hl1
        clear hx hsp h1 h5 h6 p0 q0 q1 bP bC bA bH rH hrec hl1 hln h4
        have HP1 := hid_of (And.intro ltI (And.intro hd1 (And.intro hw (And.intro hlt (And.intro vp (And.intro v0 (And.intro v1 (And.intro cP cC))))))))
        clear ltI hd1 hw hlt hl hR hgp hgq vp v0 v1 cP cC
        rw [HT2.out]
        gi_wp2
        obtain ⟨ltI, hd1, hw, hlt, vp, v0, v1, cP, cC⟩ := HP1.out
        refine region_quiet_r (by kernel_rfl) (by kernel_rfl) (by kernel_rfl) ?_
        repeat (gi_big_quiet_step (fail))
        refine wpQuietIn_nil ?_
        intro _ hw'
        obtain ⟨nq, hw''⟩ := hw'
        subst hw''
        have hA1 := H1.out.drewN nq
        have hN1 := Boxed.drewN h2 nq
        have hS1 := Boxed.drewN h3 nq
        have hB1 := below_drewN H3.out nq
        have hU1 := Upon.drewN W2.heap.size U nq
        have h61 : (U.drewN nq).heap[D1]? = some (.deferred (some [])) := H6.out
        obtain ⟨k, hk⟩ : ∃ k : Nat, pre.length = k := ⟨_, rfl⟩
        have HK := hid_of hk
        rw [hk] at hN1 hw
        clear cN cS cP cC vp v0 v1 r0 r1 hRh H1 H3 H6 h2 h3 hlt ltI hd1 hk hneI hpe
        generalize U.drewN nq = U1 at hA1 hN1 hS1 hB1 hU1 h61 ⊢
        have cN := hN1.cell; have fN := hN1.frozen
        gi_wp2
        have hA2' := hA1.set (.int .i64 ((k : Int) + 1))
        refine ⟨hU1.trans (Upon.setCell _ _ _ (by show kN < W2.heap.size; omega)), HKW.out _ _ hA2', hA2', ?_, hS1.other (by omega) _, by rw [List.length_append]; exact HL1.out, hB1.setCell (by show w.heap.size ≤ kN; omega) _, (heap_set_ne (by omega)).trans h61⟩
        rw [show ((pre ++ [x]).length : Int) = (k : Int) + 1 by simp [HK.out]]
        exact hN1.set _
    case end2 =>
      rintro D2 pre U hD2 hor hK3
      obtain ⟨h1, h2, h3, h5, h6⟩ : Agree W0 kN U ∧ Boxed U kN 3 (.int .i64 st) ∧ Boxed U kS 3 (.int .i64 st) ∧ Below w.heap.size w U ∧ U.heap[D1]? = some (.deferred (some [])) := by
        rcases hor with ⟨rfl, q1, q2, q3, q4, q5, q6⟩ | ⟨_, q⟩
        · have : (okItems zs).length = st := by omega
          rw [this] at q2
          exact ⟨q1, q2, q3, q5, q6⟩
        · exact q
      have cN := h2.cell; have fN := h2.frozen
      have cS := h3.cell
      have cA := (h1.box bA (by omega)).cell
      have cA2 := fun v => ((h1.box bA (by omega)).other (B' := kN) (by omega) v).cell
      clear hor
      rw [HT2.out]
      gi_wp2
      have hA3 := h1.set (.int .i64 0)
      have bN3 := h2.set (.int .i64 0)
      have hB3 : Below w.heap.size w (U.setCell ⟨kN, 0, none⟩ (.int .i64 0)) := h5.setCell (by show w.heap.size ≤ kN; omega) _
      have hD13 : (U.setCell ⟨kN, 0, none⟩ (.int .i64 0)).heap[D1]? = some (.deferred (some [])) := (heap_set_ne (by omega)).trans h6
      have hD23 : (U.setCell ⟨kN, 0, none⟩ (.int .i64 0)).heap[D2]? = some (.deferred (some [])) := (heap_set_ne (by omega)).trans hK3
      obtain ⟨W3, hW3⟩ : ∃ W3, U.setCell ⟨kN, 0, none⟩ (.int .i64 0) = W3 := ⟨_, rfl⟩
      rw [hW3] at hA3 bN3 hB3 hD13 hD23 ⊢
      have hV3 : W0.heap.size ≤ W3.heap.size := hA3.1
      have hl13 : D1 < W3.heap.size := (Array.getElem?_eq_some_iff.1 hD13).1
      have hl23 : D2 < W3.heap.size := (Array.getElem?_eq_some_iff.1 hD23).1
      clear h1 h2 h3 h5 h6 hK3 cN fN cS cA cA2 hW3 bS2 bN2 hB2 hK2
      refine with_tmps fun T3 hT3 => ?_
      have HT3 := hid_of hT3
      clear hT3
      refine range_break (F := Fence.wide) (id := 4) rfl (by decide) (gf := 13) (lb := #[.pointer (some ⟨Bs, 0, none⟩)]) (by rw [HT3.out]; rfl) trivial (enters_of Try.func13 (by kernel_rfl) rfl)
        (HSQ.out (30 - 1) W3 (by decide) hA3 HBN.out) Kw_t (Kw_b (w := W3)) (Below.refl _ _) (fun _ => rfl)
        (fun pre U => Agree W0 kN U ∧ Boxed U kN 3 (.int .i64 pre.length) ∧ Below w.heap.size w U ∧ U.heap[D1]? = some (.deferred (some [])) ∧ U.heap[D2]? = some (.deferred (some [])))
        (fun pre U => Agree W0 kN U ∧ Below w.heap.size w U ∧ U.heap[D1]? = some (.deferred (some [])) ∧ U.heap[D2]? = some (.deferred (some [])))
        (fun s A C row h hg hr => ⟨h.1.step hg (fun r e => (hr r e).2), boxed_step h.2.1 hg (fun r e => (hr r e).2), ownFrom_below (β := Unit) (B := W3.heap.size) (Nat.le_refl _) (by omega) () A C row h.2.2.1 hg hr, low_kept h.2.2.2.1 hl13 hg hr, low_kept h.2.2.2.2 hl23 hg hr⟩)
        (fun s A C row h hg hr => ⟨h.1.step hg (fun r e => (hr r e).2), ownFrom_below (β := Unit) (B := W3.heap.size) (Nat.le_refl _) (by omega) () A C row h.2.1 hg hr, low_kept h.2.2.1 hl13 hg hr, low_kept h.2.2.2 hl23 hg hr⟩)
        ⟨hA3, bN3, hB3, hD13, hD23⟩
        (fun x a' U => ∃ R, 0 ≤ R ∧ U.heap[R]? = some (Obj.cells #[.int .u8 x.2.1, .int .u32 x.2.2.1] 37) ∧ a' = { tmps := (((((#[111, 112] : Array Tmp).zip (encW x)).foldl (fun t (p, v) => t.setIfInBounds p v) T3).setIfInBounds 17 (.int .i64 x.1)).setIfInBounds 18 (.pointer (some ⟨R, 0, none⟩))), defers := [] })
        (fun x a' => Own.from (fun t A C row h hg hr => by
          obtain ⟨R, h1, h2, h3⟩ := h
          exact ⟨R, h1, row_step h2 hg hr, h3⟩) _)
        ?assign3 ?body3 ?end3
      case assign3 =>
        intro l pre x U K hI hK
        obtain ⟨h1, h2, h3, h4, h5⟩ := hI
        have hv := h1.1
        have hfin := fun a' (ha : _) => hK a' (U.alloc (.cells #[.int .u8 x.2.1, .int .u32 x.2.2.1] 37)) (Upon.alloc _ U _) (fun y => y.below ((Below.refl _ U).alloc (by omega) _)) ⟨h1.alloc _, h2.alloc _, bel h3, (Below.heap_alloc _ _ _ (Array.getElem?_eq_some_iff.1 h4).1).trans h4, (Below.heap_alloc _ _ _ (Array.getElem?_eq_some_iff.1 h5).1).trans h5⟩ ⟨U.heap.size, Nat.zero_le _, heap_alloc_last U _, ha⟩
        have HF := hid_of hfin
        clear hfin hK h1 h2 h3 h4 h5
        rw [HT3.out]
        gi_wp2
        exact HF.out _ (by rw [HT3.out]; simp [encW])
      case body3 =>
        rintro l pre x a' V3 hl hrec ⟨h1, h2, h3, h4, h5⟩ ⟨R, hR, hRh, rfl⟩ hln hsp
        have hx : (okItems zs)[pre.length]? = some x := by obtain ⟨t, ht⟩ := hsp; rw [← ht]; simp
        have hlt : pre.length < len := by rw [← hlen]; exact (List.getElem?_eq_some_iff.1 hx).1
        obtain ⟨gp, rfl, hgp, p0⟩ := HPl.out _ _ hx
        obtain ⟨gq, rfl, hgq, q0, q1⟩ := HCo.out _ _ hx
        have cN := h2.cell; have fN := h2.frozen
        have cP := (h1.box bP (Nat.ne_of_lt (Nat.lt_of_succ_lt hN1'))).cell
        have cC := (h1.box bC (Nat.ne_of_lt hN1')).cell
        have vp := h1.cell p0 (Nat.ne_of_lt (Nat.lt_trans hgp (Nat.lt_of_succ_lt hN1')))
        have v0 := h1.cell q0 (Nat.ne_of_lt (Nat.lt_trans hgq (Nat.lt_of_succ_lt hN1')))
        have v1 := h1.cell q1 (Nat.ne_of_lt (Nat.lt_trans hgq (Nat.lt_of_succ_lt hN1')))
        obtain ⟨r0, r1⟩ := inCells hRh
        have ltI : (pre.length : Int) < (len : Int) := Int.ofNat_lt.2 hlt
        have hd1 : decide (len ≤ pre.length) = false := decide_eq_false (Nat.not_le.2 hlt)
        have HW := hid_of (wrap_small hln)
        have H1 := hid_of h1
        have H3 := hid_of h3
        have H4 := hid_of h4
        have H5 := hid_of h5
        clear hx hsp h1 h3 h4 h5 p0 q0 q1
        rw [HT3.out]
        gi_wp2
        refine region_quiet_r (by kernel_rfl) (by kernel_rfl) (by kernel_rfl) ?_
        repeat (gi_big_quiet_step (fail))
        refine wpQuietIn_nil ?_
        intro _ hw'
        obtain ⟨nq, hw''⟩ := hw'
        subst hw''
        have hA1 := H1.out.drewN nq
        have hN1 := Boxed.drewN h2 nq
        have hB1 := below_drewN H3.out nq
        have hU1 := Upon.drewN W3.heap.size V3 nq
        have h61 : (V3.drewN nq).heap[D1]? = some (.deferred (some [])) := H4.out
        have h62 : (V3.drewN nq).heap[D2]? = some (.deferred (some [])) := H5.out
        obtain ⟨qr, hqr⟩ : ∃ r, (V3.drewN nq).heap[l]? = some (.loop r) := hrec
        clear cN fN cP cC vp v0 v1 r0 r1 hRh H1 H3 H4 H5 h2
        generalize V3.drewN nq = U1 at hA1 hN1 hB1 hU1 h61 h62 hqr ⊢
        have cA1 := fun o => ((hA1.box bA (Nat.ne_of_lt s4')).alloc o).cell
        gi_wp2
        clear cA1
        have hA4 := hA1.alloc (Obj.cells #[.int .i64 0] 3)
        have hN4 := hN1.alloc (Obj.cells #[.int .i64 0] 3)
        have hM4 := Boxed.new U1 3 (.int .i64 0)
        have hB4 := bel (o := Obj.cells #[.int .i64 0] 3) hB1
        have hU4 := hU1.trans (Upon.alloc W3.heap.size U1 (Obj.cells #[.int .i64 0] 3))
        have h64 : (U1.alloc (Obj.cells #[.int .i64 0] 3)).heap[D1]? = some (.deferred (some [])) := (Below.heap_alloc _ _ _ (Array.getElem?_eq_some_iff.1 h61).1).trans h61
        have h65 : (U1.alloc (Obj.cells #[.int .i64 0] 3)).heap[D2]? = some (.deferred (some [])) := (Below.heap_alloc _ _ _ (Array.getElem?_eq_some_iff.1 h62).1).trans h62
        have hq4 : (U1.alloc (Obj.cells #[.int .i64 0] 3)).heap[l]? = some (.loop qr) := (Below.heap_alloc _ _ _ (Array.getElem?_eq_some_iff.1 hqr).1).trans hqr
        obtain ⟨n, hnn⟩ : ∃ n : Nat, pre.length = n := ⟨_, rfl⟩
        rw [hnn] at hN4
        have HNN := hid_of hnn
        have hnl : n < len := by omega
        obtain ⟨kM, hkM⟩ : ∃ k, U1.heap.size = k := ⟨_, rfl⟩
        have hUM : W3.heap.size ≤ U1.heap.size := Nat.le_trans (Nat.le_of_lt_succ (Nat.lt_succ_of_lt (Nat.lt_of_le_of_lt hl (Array.getElem?_eq_some_iff.1 hqr).1))) (Nat.le_refl _)
        have hVU : V3.heap.size ≤ U1.heap.size := hU1.size
        obtain ⟨W4, hW4⟩ : ∃ W4, U1.alloc (Obj.cells #[.int .i64 0] 3) = W4 := ⟨_, rfl⟩
        have hz4 : W4.heap.size = kM + 1 := by rw [← hW4, ← hkM]; simp
        rw [hW4] at hA4 hN4 hM4 hB4 hU4 h64 h65 hq4 ⊢
        rw [hkM] at hM4 hUM hVU ⊢
        have hNM : kN < kM := by omega
        clear hA1 hN1 hB1 hU1 h61 h62 hqr hW4 hkM hnn hln hlt ltI hd1
        have HV := hid_of (And.intro hUM (And.intro hVU hz4))
        have hl44 : D1 < W4.heap.size := (Array.getElem?_eq_some_iff.1 h64).1
        have hl45 : D2 < W4.heap.size := (Array.getElem?_eq_some_iff.1 h65).1
        refine with_tmps fun T4 hT4 => ?_
        have HT4 := hid_of hT4
        clear hT4
        refine range_inner_break (F := Fence.wide.inRound l) (id := 6) rfl hq4 (by decide) (gf := 13) (lb := #[.pointer (some ⟨Bs, 0, none⟩)]) (by rw [HT4.out]; rfl) trivial (enters_of Try.func13 (by kernel_rfl) rfl)
          (seq_wide (n := 28) (HSQ.out 28 W4 (by decide) hA4 HBN.out)) Kw_t (Kw_b (w := W4)) (Below.refl _ _) (fun _ => rfl)
          (fun pre U => Agree W0 kN U ∧ Boxed U kN 3 (.int .i64 n) ∧ Boxed U kM 3 (.int .i64 pre.length) ∧ pre.length ≤ n + 1 ∧ Below w.heap.size w U ∧ U.heap[D1]? = some (.deferred (some [])) ∧ U.heap[D2]? = some (.deferred (some [])) ∧ Upon W3.heap.size V3 U)
          (fun pre U => Agree W0 kN U ∧ Boxed U kN 3 (.int .i64 n) ∧ Below w.heap.size w U ∧ U.heap[D1]? = some (.deferred (some [])) ∧ U.heap[D2]? = some (.deferred (some [])) ∧ Upon W3.heap.size V3 U)
          (fun s A C row h hg hr => ⟨h.1.step hg (fun r e => (hr r e).2), boxed_step h.2.1 hg (fun r e => (hr r e).2), boxed_step h.2.2.1 hg (fun r e => (hr r e).2), h.2.2.2.1, ownFrom_below (β := Unit) (B := W4.heap.size) (Nat.le_refl _) hB4.size () A C row h.2.2.2.2.1 hg hr, low_kept h.2.2.2.2.2.1 hl44 hg hr, low_kept h.2.2.2.2.2.2.1 hl45 hg hr, upon_step h.2.2.2.2.2.2.2 (m := W4.heap.size) (by omega) hg (fun r e => (hr r e).1)⟩)
          (fun s A C row h hg hr => ⟨h.1.step hg (fun r e => (hr r e).2), boxed_step h.2.1 hg (fun r e => (hr r e).2), ownFrom_below (β := Unit) (B := W4.heap.size) (Nat.le_refl _) hB4.size () A C row h.2.2.1 hg hr, low_kept h.2.2.2.1 hl44 hg hr, low_kept h.2.2.2.2.1 hl45 hg hr, upon_step h.2.2.2.2.2 (m := W4.heap.size) (by omega) hg (fun r e => (hr r e).1)⟩)
          ⟨hA4, hN4, hM4, Nat.zero_le _, hB4, h64, h65, hU4⟩
          (fun x a' U => ∃ R, 0 ≤ R ∧ U.heap[R]? = some (Obj.cells #[.int .u8 x.2.1, .int .u32 x.2.2.1] 37) ∧ a' = { tmps := (((((#[134, 135] : Array Tmp).zip (encW x)).foldl (fun t (p, v) => t.setIfInBounds p v) T4).setIfInBounds 20 (.int .i64 x.1)).setIfInBounds 21 (.pointer (some ⟨R, 0, none⟩))), defers := [] })
          (fun x a' => Own.from (fun t A C row h hg hr => by
            obtain ⟨R, h1, h2, h3⟩ := h
            exact ⟨R, h1, row_step h2 hg hr, h3⟩) _)
          ?assign4 ?body4 ?end4
        case assign4 =>
          intro l pre x U K hI hK
          obtain ⟨h1, h2, h3, h4, h5, h6, h7, h8⟩ := hI
          have hv := h1.1
          have hfin := fun a' (ha : _) => hK a' (U.alloc (.cells #[.int .u8 x.2.1, .int .u32 x.2.2.1] 37)) (Upon.alloc _ U _) (fun y => y.below ((Below.refl _ U).alloc (by omega) _)) ⟨h1.alloc _, h2.alloc _, h3.alloc _, h4, bel h5, (Below.heap_alloc _ _ _ (Array.getElem?_eq_some_iff.1 h6).1).trans h6, (Below.heap_alloc _ _ _ (Array.getElem?_eq_some_iff.1 h7).1).trans h7, h8.trans (Upon.alloc _ U _)⟩ ⟨U.heap.size, Nat.zero_le _, heap_alloc_last U _, ha⟩
          have HF := hid_of hfin
          clear hfin hK h1 h2 h3 h4 h5 h6 h7 h8
          rw [HT4.out]
          gi_wp2
          exact HF.out _ (by rw [HT4.out]; simp [encW])
        case body4 =>
          rintro l pre x a' U hl hrec ⟨h1, h2, h3, h4, h5, h6, h7, h8⟩ ⟨R, hR, hRh, rfl⟩ hln hsp
          have hx : (okItems zs)[pre.length]? = some x := by obtain ⟨t, ht⟩ := hsp; rw [← ht]; simp
          have hlt : pre.length < len := by rw [← hlen]; exact (List.getElem?_eq_some_iff.1 hx).1
          obtain ⟨gp', e1, hgp', p0⟩ := HPl.out _ _ hx
          obtain ⟨gq', e2, hgq', q0, q1⟩ := HCo.out _ _ hx
          cases e1
          cases e2
          have hw := wrap_small hln
          obtain ⟨m, hm⟩ : ∃ m : Nat, pre.length = m := ⟨_, rfl⟩
          have HMM := hid_of hm
          rw [hm] at h3 h4 p0 q0 q1 hlt hw
          have cN := h2.cell
          have cM := h3.cell
          by_cases hgt : n < m
          · have hd0 : decide (n < m) = true := decide_eq_true hgt
            have hgI : (n : Int) < (m : Int) := Int.ofNat_lt.2 hgt
            clear hx hsp hw hm hln hlt p0 q0 q1 hgp hgq hl hR
            rw [HT4.out]
            gi_wp2
            exact ⟨Upon.refl _ _, rfl, h1, h2, h5, h6, h7, h8⟩
          · have cP := (h1.box bP (Nat.ne_of_lt (Nat.lt_of_succ_lt hN1'))).cell
            have cC := (h1.box bC (Nat.ne_of_lt hN1')).cell
            have vp := h1.cell p0 (Nat.ne_of_lt (Nat.lt_trans hgp (Nat.lt_of_succ_lt hN1')))
            have v0 := h1.cell q0 (Nat.ne_of_lt (Nat.lt_trans hgq (Nat.lt_of_succ_lt hN1')))
            have v1 := h1.cell q1 (Nat.ne_of_lt (Nat.lt_trans hgq (Nat.lt_of_succ_lt hN1')))
            obtain ⟨r0, r1⟩ := inCells hRh
            have ltI : (m : Int) < (len : Int) := Int.ofNat_lt.2 hlt
            have hd0 : decide (n < m) = false := decide_eq_false hgt
            have hdI : ¬ (n : Int) < (m : Int) := fun e => hgt (Int.ofNat_lt.1 e)
            have H1 := hid_of h1
            have H5 := hid_of h5
            have H6 := hid_of h6
            have H7 := hid_of h7
            have H8 := hid_of h8
            have HG := hid_of hgt
            have HWR := hid_of hw
            have HP1 := hid_of (And.intro ltI (And.intro vp (And.intro v0 (And.intro v1 (And.intro cP cC)))))
            clear hx hsp hw hm hln hlt p0 q0 q1 hgp hgq hl hR h1 h4 h5 h6 h7 h8 ltI vp v0 v1 cP cC hgt
            rw [HT4.out]
            gi_wp2
            obtain ⟨ltI, vp, v0, v1, cP, cC⟩ := HP1.out
            refine region_quiet_r (by kernel_rfl) (by kernel_rfl) (by kernel_rfl) ?_
            repeat (gi_big_quiet_step (fail))
            refine wpQuietIn_nil ?_
            intro _ hw'
            obtain ⟨nq, hw''⟩ := hw'
            subst hw''
            have hA1 := H1.out.drewN nq
            have hN1 := Boxed.drewN h2 nq
            have hM1 := Boxed.drewN h3 nq
            have hB1 := below_drewN H5.out nq
            have hU1 := Upon.drewN W4.heap.size U nq
            have h61 : (U.drewN nq).heap[D1]? = some (.deferred (some [])) := H6.out
            have h62 : (U.drewN nq).heap[D2]? = some (.deferred (some [])) := H7.out
            have h81 := H8.out.trans (Upon.drewN W3.heap.size U nq)
            have hw := HWR.out
            clear cN cM cP cC vp v0 v1 r0 r1 hRh H1 H5 H6 H7 H8 h2 h3 ltI hd0 hdI
            generalize U.drewN nq = U5 at hA1 hN1 hM1 hB1 hU1 h61 h62 h81 ⊢
            have cM := hM1.cell; have fM := hM1.frozen
            gi_wp2
            obtain ⟨v1, v2, v3⟩ := HV.out
            have hA2' := hA1.high (b := kM) (by omega) (.int .i64 ((m : Int) + 1))
            refine ⟨hU1.trans (Upon.setCell _ _ _ (by show kM < W4.heap.size; omega)), HKW.out _ _ hA2', hA2', hN1.other (by omega) _, ?_, by rw [List.length_append, HMM.out]; have := HG.out; simp; omega, hB1.setCell (by show w.heap.size ≤ kM; omega) _, (heap_set_ne (by omega)).trans h61, (heap_set_ne (by omega)).trans h62, ⟨by simp; exact h81.size, fun k hB hk => (heap_set_ne (by omega)).trans (h81.same k hB hk)⟩⟩
            rw [show ((pre ++ [x]).length : Int) = (m : Int) + 1 by simp [HMM.out]]
            exact hM1.set _
        case end4 =>
          rintro pre2 U hor
          obtain ⟨h1, h2, h5, h6, h7, h8⟩ : Agree W0 kN U ∧ Boxed U kN 3 (.int .i64 n) ∧ Below w.heap.size w U ∧ U.heap[D1]? = some (.deferred (some [])) ∧ U.heap[D2]? = some (.deferred (some [])) ∧ Upon W3.heap.size V3 U := by
            rcases hor with ⟨_, q1, q2, q3, q4, q5, q6, q7, q8⟩ | ⟨_, q⟩
            · exact ⟨q1, q2, q5, q6, q7, q8⟩
            · exact q
          have cN := h2.cell; have fN := h2.frozen
          clear hor
          have HNL := hid_of hnl
          have hw : wrap64 ((n : Int) + 1) = (n : Int) + 1 := by rw [← HNN.out]; exact HW.out
          have hN9 := h2.set (.int .i64 ((n : Int) + 1))
          have cN9 := hN9.cell
          clear hnl
          rw [HT4.out]
          have hA9 := h1.set (.int .i64 ((n : Int) + 1))
          have hU9 : Upon W3.heap.size V3 (U.setCell ⟨kN, 0, none⟩ (.int .i64 ((n : Int) + 1))) := h8.trans (Upon.setCell _ _ _ (by show kN < W3.heap.size; omega))
          have hB9 := h5.setCell (p := ⟨kN, 0, none⟩) (by show w.heap.size ≤ kN; omega) (.int .i64 ((n : Int) + 1))
          have h69 : (U.setCell ⟨kN, 0, none⟩ (.int .i64 ((n : Int) + 1))).heap[D1]? = some (.deferred (some [])) := (heap_set_ne (by omega)).trans h6
          have h79 : (U.setCell ⟨kN, 0, none⟩ (.int .i64 ((n : Int) + 1))).heap[D2]? = some (.deferred (some [])) := (heap_set_ne (by omega)).trans h7
          have hln9 : ((pre ++ [x]).length : Int) = (n : Int) + 1 := by simp [HNN.out]
          have HL9 := hid_of hln9
          clear hln9
          by_cases h40 : 40 < n + 1
          · have hgI : (40 : Int) < (n : Int) + 1 := by omega
            gi_wp2
            exact ⟨hU9, rfl, hA9, hB9, h69, h79⟩
          · have hgI : ¬ (40 : Int) < (n : Int) + 1 := by omega
            gi_wp2
            refine ⟨hU9, HKW.out _ _ hA9, hA9, ?_, hB9, h69, h79⟩
            rw [HL9.out]
            exact hN9
      case end3 =>
        rintro D3 pre U hD3 hor hK4
        obtain ⟨h1, h5, h6, h7⟩ : Agree W0 kN U ∧ Below w.heap.size w U ∧ U.heap[D1]? = some (.deferred (some [])) ∧ U.heap[D2]? = some (.deferred (some [])) := by
          rcases hor with ⟨_, q1, q2, q3, q4, q5⟩ | ⟨_, q⟩
          · exact ⟨q1, q3, q4, q5⟩
          · exact q
        have br := h1.box bR (by omega)
        have cr := br.cell; have fr := br.frozen
        have HBR := hid_of br
        have HBW := hid_of h5
        have hw0 : w.heap.size ≤ W0.heap.size := by omega
        have HD1 := hid_of (Nat.le_trans hw0 hD1)
        have HD2 := hid_of (Nat.le_trans hw0 (Nat.le_trans hA2.1 hD2))
        have HD3 := hid_of (Nat.le_trans hw0 (Nat.le_trans hV3 hD3))
        have HN12 := hid_of (show D1 ≠ D2 from Nat.ne_of_lt (Nat.lt_of_lt_of_le hzd hD2))
        have HN13 := hid_of (show D1 ≠ D3 from Nat.ne_of_lt (Nat.lt_of_lt_of_le hl13 hD3))
        have HN23 := hid_of (show D2 ≠ D3 from Nat.ne_of_lt (Nat.lt_of_lt_of_le hl23 hD3))
        clear hor
        rw [HT3.out]
        gi_wp2
        have x3 := (KeepsOthers.setCell U ⟨w.heap.size, 0, none⟩ (.bool true)).same D3 _ hK4 rfl
        have x2 := (KeepsOthers.setCell U ⟨w.heap.size, 0, none⟩ (.bool true)).same D2 _ h7 rfl
        have x1 := (KeepsOthers.setCell U ⟨w.heap.size, 0, none⟩ (.bool true)).same D1 _ h6 rfl
        have bz := HBR.out.set (.bool true)
        have hz := HBW.out.setCell (p := ⟨w.heap.size, 0, none⟩) (Nat.le_refl _) (.bool true)
        obtain ⟨Z, hZ⟩ : ∃ Z, U.setCell ⟨w.heap.size, 0, none⟩ (.bool true) = Z := ⟨_, rfl⟩
        rw [hZ] at x1 x2 x3 bz hz ⊢
        have x2' : (Z.putObj D3 (.deferred none)).heap[D2]? = some (.deferred (some [])) := (World.putObj_heap_other HN23.out).trans x2
        have x1' : ((Z.putObj D3 (.deferred none)).putObj D2 (.deferred none)).heap[D1]? = some (.deferred (some [])) := (World.putObj_heap_other HN12.out).trans ((World.putObj_heap_other HN13.out).trans x1)
        have bz1 := boxed_step bz (grownBy_putObj' _ D3 (.deferred none)) (fun r e => by cases e; exact ⟨_, x3, rfl⟩)
        have bz2 := boxed_step bz1 (grownBy_putObj' _ D2 (.deferred none)) (fun r e => by cases e; exact ⟨_, x2', rfl⟩)
        have bz3 := (boxed_step bz2 (grownBy_putObj' _ D1 (.deferred none)) (fun r e => by cases e; exact ⟨_, x1', rfl⟩)).cell
        have hz1 := hz.trans (belowK_b (w := w) (Nat.le_refl _) _ D3 _ (.deferred none) HD3.out x3 rfl rfl)
        have hz2 := hz1.trans (belowK_b (w := w) (Nat.le_refl _) _ D2 _ (.deferred none) HD2.out x2' rfl rfl)
        have hz3 := hz2.trans (belowK_b (w := w) (Nat.le_refl _) _ D1 _ (.deferred none) HD1.out x1' rfl rfl)
        refine ⟨by simp, .inl ⟨_, _, rfl, run_takeDeferred x3, ?_⟩⟩
        refine ⟨by simp, .inl ⟨_, _, rfl, run_takeDeferred x2', ?_⟩⟩
        refine ⟨by simp, .inl ⟨_, _, rfl, run_takeDeferred x1', ?_⟩⟩
        refine ⟨.bool true, ?_, rfl, hz3⟩
        simp [results, Try.f3, go_sem, bz3]
  case stop =>
    rintro D c pre V hD hpre hF hK
    exact hF.elim
end Go.Proofs.Ytgfgdkeeonolcaa
