import Derived.Test.YtihnkeflcnndpaaDoorCQRa
import Derived.Test.YtihnkeflcnndpaaDoorCPAl
import Derived.Sort.BigQuietIn
import Derived.Test.YtihnkeflcnndpaaDoorCPSm
import Derived.Test.YtihnkeflcnndpaaDoorQWd
import Derived.Test.YtihnkeflcnndpaaDoorCPTg
namespace Go.Proofs.YtihnkeflcnndpaaDoor
open Go.RowKit Go.WideShapes Go.Shelf Go.Sort
set_option maxRecDepth 100000
attribute [local go_sem] Oper.semAt_some run_store_funcP
theorem nileqP2 (b : Nat) (w : World) : (Op.equal 107 (.func (.func 67) #[] #[.pointer (some ⟨b, 0, none⟩)]) .nilFunc).run Tryd.prog w = .ok false w := by
  have hu := run_underlying (P := Tryd.prog) (w := w) Tryd.underlying107
  unfold Op.equal
  obtain ⟨d, hd⟩ : ∃ d, Op.maxDepth = d + 1 := ⟨_, rfl⟩
  rw [hd, Op.equalIn]
  simp only [Sem.run_bind, hu, Result.andThen]
  rfl
@[local go_sem] theorem nilcmpP2 (b : Nat) (w : World) : (binOp .eql 107 (.func (.func 67) #[] #[.pointer (some ⟨b, 0, none⟩)]) .nilFunc).run Tryd.prog w = .ok (.bool false) w := by
  have h := nileqP2 b w
  have e : binOp .eql 107 (.func (.func 67) #[] #[.pointer (some ⟨b, 0, none⟩)]) .nilFunc = (do pure (.bool (← Op.equal 107 (.func (.func 67) #[] #[.pointer (some ⟨b, 0, none⟩)]) .nilFunc))) := rfl
  rw [e, Sem.run_bind, h]
  rfl

/-- a range within a round that is left by break alone -/
theorem range_inner_break {α : Type} {F : Fence} {n : Nat} {P : Program} {g : Operand} {ps : Array Tmp} {assign body : Code} {id : Nat} {Q : Exit → Act → World → Prop} {a : Act} {w : World} {l0 : Nat} {q0 : Loop} (hro : F.round = some l0) (hq0 : w.heap[l0]? = some (.loop q0)) (h1 : 1 ≤ n) {gf : Nat} {lb : Array Value} (hg : a.eval g = .func (.func gf) #[] lb) (hFg : F.fn gf) (eg : ∀ args w, (callFunc gf args).run P w = .ok (.enter gf args) w)
    {encs : α → Array Value} {Kp : World → World → Prop} {S Sp : List α → Prop} {N : Nat} {w0 : World} (hseq : SeqOwn F (n - 1) P gf lb encs Kp S Sp N w0)
    (hKt : ∀ {A B C : World}, Kp A B → Kp B C → Kp A C) (hKb : ∀ (W : World) (l : Nat) (o o' : Obj), w.heap.size ≤ l → W.heap[l]? = some o → o.isCells = false → o.isWalk = false → Kp W (W.putObj l o')) (hb0 : Below w0.heap.size w0 w) (hps : ∀ x, (encs x).size = ps.size)
    (I : List α → World → Prop) (Ib : List α → World → Prop) (hI : OwnFrom w.heap.size I) (hIb : OwnFrom w.heap.size Ib) (h0 : I [] w) (Ax : α → Act → World → Prop) (hAx : ∀ x a', OwnFrom w.heap.size (fun (_ : Unit) W => Ax x a' W))
    (hassign : ∀ (l : Nat) (pre : List α) (x : α) (W : World) (K : Act → World → Prop), I pre W → (∀ a' W', Upon w.heap.size W W' → Kp W W' → I pre W' → Ax x a' W' → K a' W') →
      assign.wpIn (F.inRound l) (n - 1 - 1) P (Exit.then K (fun _ _ _ => False)) { tmps := (ps.zip (encs x)).foldl (fun t (p, v) => t.setIfInBounds p v) a.tmps, defers := [] } W)
    (hbody : ∀ (l : Nat) (pre : List α) (x : α) (a' : Act) (W : World), w.heap.size ≤ l → (∃ r, W.heap[l]? = some (.loop r)) → I pre W → Ax x a' W → pre.length < N → Sp (pre ++ [x]) → body.wpIn (F.inRound l) (n - 1 - 1) P (uponPost w.heap.size Kp I (fun c pre W => c = .exit id ∧ Ib pre W) (pre ++ [x]) W) a' W)
    (hend : ∀ (pre : List α) (W : World), ((S pre ∧ I pre W) ∨ (Sp pre ∧ Ib pre W)) → Q .normal a W) :
    (Code.rangeFunc g ps assign body).wpIn F n P (Exit.inBlock id Q) a w :=
  range_inner hro hq0 h1 hg hFg eg hseq hKt hKb hb0 hps I (fun c pre W => c = .exit id ∧ Ib pre W) hI (fun c s A C row h hg hr => ⟨h.1, hIb s A C row h.2 hg hr⟩) h0 Ax hAx hassign hbody
    (fun xs W hS hi => hend xs W (.inl ⟨hS, hi⟩))
    (fun c pre W hS hi => by
      obtain ⟨rfl, hi⟩ := hi
      refine wpIn_exit ?_
      simp only [Exit.inBlock, if_true]
      exact hend pre W (.inr ⟨hS, hi⟩))
theorem calls_wide {n m l0 : Nat} {P : Program} {f : FuncId} {args : Array Value} {w : World} {R : Ending → World → Prop} (h : CallsIn Fence.wide n P f args w R) : CallsIn (Fence.wide.inRound l0) m P f args w R :=
  ⟨trivial, fun cs _ => h.2 cs (fun _ hd => by cases hd)⟩
theorem seq_wide {α : Type} {n m l0 : Nat} {P : Program} {g : Nat} {lb : Array Value} {encs : α → Array Value} {Kp : World → World → Prop} {S Sp : List α → Prop} {N : Nat} {w : World} (h : SeqOwn Fence.wide n P g lb encs Kp S Sp N w) : SeqOwn (Fence.wide.inRound l0) m P g lb encs Kp S Sp N w := by
  intro l J Jx W hW hJ hJx hY h0
  refine calls_wide (h l J Jx W hW hJ hJx (fun pre x W1 hj hl hs => ?_) h0)
  obtain ⟨fn, tmps, assign, body, hy, hR⟩ := hY pre x W1 hj hl hs
  exact ⟨fn, tmps, assign, body, hy, trivial, fun c cs _ => hR.2 c cs (fun _ hd => by cases hd)⟩
theorem PRd.kp {S : Nat → Prop} {w w' : World} {ao : Option Addr} {Ps : List (Nat × Nat × Nat)} {B : Nat} (h : PRd w ao Ps B) (hk : Kp S w w') (hB : B ≤ w.heap.size) (hS : ∀ k, k < B → ¬ S k) : PRd w' ao Ps B := by
  intro hp
  obtain ⟨b, off, e, hb, hx⟩ := h hp
  exact ⟨b, off, e, hb, fun j hj => ⟨(hk.cell (p := ⟨b, _, none⟩) (Nat.lt_of_lt_of_le hb hB) (hS b hb)).trans (hx j hj).1, (hk.cell (p := ⟨b, _, none⟩) (Nat.lt_of_lt_of_le hb hB) (hS b hb)).trans (hx j hj).2.1, (hk.cell (p := ⟨b, _, none⟩) (Nat.lt_of_lt_of_le hb hB) (hS b hb)).trans (hx j hj).2.2.1, (hk.cell (p := ⟨b, _, none⟩) (Nat.lt_of_lt_of_le hb hB) (hS b hb)).trans (hx j hj).2.2.2⟩⟩
/-- what stands under the walks -/
structure WkI (Ps : List (Nat × Nat × Nat)) (kw : Nat) (ao al : Option Addr) (cap capl st : Nat) (V : World) : Prop where
  bT : Boxed V kw 71 (.slice ao Ps.length cap)
  bR : Boxed V (kw + 1) 4 (.bool false)
  ia : InA Ps (kw + 2) al capl kw V
  bA : Boxed V (kw + 3) 107 (.func (.func 67) #[] #[.pointer (some ⟨kw + 2, 0, none⟩)])
  bS : Boxed V (kw + 4) 3 (.int .i64 st)
  rd : PRd V ao Ps kw
  sz : kw + 6 ≤ V.heap.size
theorem WkI.kp {Ps : List (Nat × Nat × Nat)} {kw cap capl st : Nat} {ao al : Option Addr} {V V' : World} (h : WkI Ps kw ao al cap capl st V) (hk : Kp (fun i => i = kw + 5) V V') : WkI Ps kw ao al cap capl st V' := by
  have hz := h.sz
  exact ⟨(hk.block _ (by omega) (by omega)).trans h.bT, (hk.block _ (by omega) (by omega)).trans h.bR, ⟨(hk.block _ (by omega) (by omega)).trans h.ia.bl, h.ia.ps.kp hk (by omega) (by omega)⟩, (hk.block _ (by omega) (by omega)).trans h.bA, (hk.block _ (by omega) (by omega)).trans h.bS, h.rd.kp hk (by omega) (by omega), Nat.le_trans hz hk.size⟩
theorem Kp.stepW {k : Nat} {w A C : World} {row : Option Nat} (h : Kp (fun i => i = k) w A) (hg : A.grownBy C row) (hr : ∀ r, row = some r → w.heap.size ≤ r) : Kp (fun i => i = k) w C :=
  h.trans (Kp.ofGrown (S := fun i => w.heap.size ≤ i) hg (fun i e _ => hr i e)) (fun i hi h => by omega)
theorem upon_stepP {B : Nat} {V A C : World} {row : Option Nat} {m : Nat} (h : Upon B V A) (hm : V.heap.size ≤ m) (hg : A.grownBy C row) (hr : ∀ r, row = some r → m ≤ r) : Upon B V C :=
  ⟨Nat.le_trans h.size hg.size, fun k o hB hk hc => (hg.block k (Nat.lt_of_lt_of_le (Array.getElem?_eq_some_iff.1 hk).1 h.size) (fun e => by have := hr k e.symm; have := (Array.getElem?_eq_some_iff.1 hk).1; omega)).trans (h.same k o hB hk hc)⟩
theorem Upon.drewNP (B : Nat) (W : World) (n : Nat) : Upon B W (W.drewN n) := Upon.of_below (below_drewN (Below.refl _ _) n)
theorem prCellsP {V : World} {k : Nat} {a b c d : Value} {t : TypeId} (h : V.heap[k]? = some (.cells #[a, b, c, d] t (0, 0))) : V.cell? ⟨k, 0, none⟩ = some a ∧ V.cell? ⟨k, 1, none⟩ = some b ∧ V.cell? ⟨k, 2, none⟩ = some c ∧ V.cell? ⟨k, 3, none⟩ = some d := ⟨obj_cell h 0, obj_cell h 1, obj_cell h 2, obj_cell h 3⟩
theorem wrap_smallP {k : Nat} (h : k < 16385) : wrap64 ((k : Int) + 1) = (k : Int) + 1 := by
  unfold wrap64
  omega

set_option maxHeartbeats 2000000 in
theorem walks_any {B pp p1 g1 p2 g2 n : Nat} {lv : Value} {Ps : List (Nat × Nat × Nat)} {A C : List Nat} (ao : Option Addr) (cap : Nat) (leave : Int) (w : World) (hP : Ps.length ≤ 16384) (hl0 : -9223372036854775808 ≤ leave) (hl1 : leave ≤ 9223372036854775807) (hL : PRd w ao Ps w.heap.size) (h : PrS w B pp p1 g1 p2 g2 n lv Ps A C) :
    Calls Tryd.prog 32 #[.pointer (some ⟨pp, 0, none⟩), .slice ao Ps.length cap, .int .i64 leave] w fun e w' => e = .returned (.bool true) ∧ Below w.heap.size w w' := by
  obtain ⟨al, capl, rfl, hrd⟩ := h.reads
  refine (callsIn_wide (n := 30)).1 ?_
  refine callsIn_of_wp_marks Tryd.func32 rfl trivial ?_ rfl
  simp only [Tryd.ntmps32, List.size_toArray, List.length_cons, List.length_nil, Nat.reduceAdd, Nat.reduceSub, Array.replicate_succ, Array.replicate_zero, List.push_toArray, List.append_toArray, List.nil_append, List.cons_append]
  have HA := hidS (fun W hb => pall_any pp Ps.length capl al W (h.below hb).c0 (h.below hb).c1)
  have HPk := hidS (fun W => pick_any leave ((Ps.length : Int) + 1) W hl0 hl1 (by omega) (by omega))
  have he0 := Int.emod_nonneg leave (show ((Ps.length : Int) + 1) ≠ 0 by omega)
  have he1 := Int.emod_lt_of_pos leave (show 0 < ((Ps.length : Int) + 1) by omega)
  obtain ⟨st, hst⟩ : ∃ st : Nat, leave % ((Ps.length : Int) + 1) = (st : Int) := ⟨_, (Int.toNat_of_nonneg he0).symm⟩
  rw [hst] at HPk he1
  have hsl : st ≤ Ps.length := by omega
  clear he0 he1 hst
  gi_wp2_with (first
    | ((first | refine ⟨trivial, fun _ => by omega, ?_⟩ | refine ⟨trivial, ?_⟩); gi_at_call 52; refine (callsIn_wide.2 (HA.out _ (belP (belP (Below.refl _ _))))).mono ?_; rintro en w2 ⟨rfl, hw2⟩; subst hw2)
    | ((first | refine ⟨trivial, fun _ => by omega, ?_⟩ | refine ⟨trivial, ?_⟩); gi_at_call 8; refine (callsIn_wide.2 (HPk.out _)).mono ?_; rintro en w3 ⟨rfl, hw3⟩; subst hw3))
  obtain ⟨W0, hW0⟩ : ∃ W0, (((((w.alloc (Obj.cells #[.slice ao Ps.length cap] 71)).alloc (Obj.cells #[.bool false] 4)).alloc (Obj.cells #[.slice al Ps.length capl] 71)).alloc (Obj.cells #[.func (.func 67) #[] #[.pointer (some ⟨w.heap.size + 1 + 1, 0, none⟩)]] 107)).alloc (Obj.cells #[.int .i64 st] 3)).alloc (Obj.cells #[.int .i64 0] 3) = W0 := ⟨_, rfl⟩
  rw [hW0]
  have hB0 : Below w.heap.size w W0 := by rw [← hW0]; exact belP (belP (belP (belP (belP (belP (Below.refl _ _))))))
  have hs0 : W0.heap.size = w.heap.size + 6 := by rw [← hW0]; simp only [World.size_alloc]
  have hWI : WkI Ps w.heap.size ao al cap capl st W0 := by
    refine ⟨?_, ?_, ⟨?_, hrd.below hB0⟩, ?_, ?_, hL.below hB0, by omega⟩
    · rw [← hW0]; exact (((((Boxed.new _ _ _).alloc _).alloc _).alloc _).alloc _).alloc _
    · have := Boxed.new (w.alloc (Obj.cells #[.slice ao Ps.length cap] 71)) 4 (.bool false)
      rw [World.size_alloc] at this
      rw [← hW0]; exact (((this.alloc _).alloc _).alloc _).alloc _
    · have := Boxed.new ((w.alloc (Obj.cells #[.slice ao Ps.length cap] 71)).alloc (Obj.cells #[.bool false] 4)) 71 (.slice al Ps.length capl)
      rw [World.size_alloc, World.size_alloc] at this
      rw [← hW0]; exact ((this.alloc _).alloc _).alloc _
    · have := Boxed.new (((w.alloc (Obj.cells #[.slice ao Ps.length cap] 71)).alloc (Obj.cells #[.bool false] 4)).alloc (Obj.cells #[.slice al Ps.length capl] 71)) 107 (.func (.func 67) #[] #[.pointer (some ⟨w.heap.size + 1 + 1, 0, none⟩)])
      rw [World.size_alloc, World.size_alloc, World.size_alloc] at this
      rw [← hW0]; exact (this.alloc _).alloc _
    · have := Boxed.new ((((w.alloc (Obj.cells #[.slice ao Ps.length cap] 71)).alloc (Obj.cells #[.bool false] 4)).alloc (Obj.cells #[.slice al Ps.length capl] 71)).alloc (Obj.cells #[.func (.func 67) #[] #[.pointer (some ⟨w.heap.size + 1 + 1, 0, none⟩)]] 107)) 3 (.int .i64 st)
      rw [World.size_alloc, World.size_alloc, World.size_alloc, World.size_alloc] at this
      rw [← hW0]; exact this.alloc _
  have bN : Boxed W0 (w.heap.size + 5) 3 (.int .i64 0) := by
    have := Boxed.new (((((w.alloc (Obj.cells #[.slice ao Ps.length cap] 71)).alloc (Obj.cells #[.bool false] 4)).alloc (Obj.cells #[.slice al Ps.length capl] 71)).alloc (Obj.cells #[.func (.func 67) #[] #[.pointer (some ⟨w.heap.size + 1 + 1, 0, none⟩)]] 107)).alloc (Obj.cells #[.int .i64 st] 3)) 3 (.int .i64 0)
    rw [World.size_alloc, World.size_alloc, World.size_alloc, World.size_alloc, World.size_alloc] at this
    rw [← hW0]; exact this
  clear hW0 HA HPk hrd hL
  simp only [Nat.add_assoc, Nat.reduceAdd]
  obtain ⟨kw, hkw⟩ : ∃ k, w.heap.size = k := ⟨_, rfl⟩
  have HKW := hidS hkw
  have HBW := hidS hB0
  rw [hkw] at bN hs0 hWI ⊢
  clear hkw hB0
  have HWI := hidS (fun V (hk : Kp (fun i => i = kw + 5) W0 V) => hWI.kp hk)
  refine with_tmpsP fun T hT => ?_
  have HT := hidS hT
  clear hT
  refine range_break (F := Fence.wide) (id := 0) rfl (by decide) (gf := 67) (lb := #[.pointer (some ⟨kw + 2, 0, none⟩)]) (by rw [HT.out]; rfl) trivial (enters_of Tryd.func67 (by kernel_rfl) rfl)
    (seqA (30 - 1) (by decide) (kw + 2) kw al capl Ps W0 hP hWI.ia (by omega)) KeA_t (KeA_b (w := W0)) (Below.refl _ _) (fun _ => rfl)
    (fun pre V => Kp (fun i => i = kw + 5) W0 V ∧ Boxed V (kw + 5) 3 (.int .i64 pre.length) ∧ pre.length ≤ st)
    (fun pre V => Kp (fun i => i = kw + 5) W0 V ∧ Boxed V (kw + 5) 3 (.int .i64 st))
    (fun s A C row h hg hr => ⟨h.1.stepW hg (fun r e => (hr r e).1), low_kept h.2.1 (by omega) hg hr, h.2.2⟩)
    (fun s A C row h hg hr => ⟨h.1.stepW hg (fun r e => (hr r e).1), low_kept h.2 (by omega) hg hr⟩)
    ⟨Kp.refl _ _, bN, Nat.zero_le _⟩
    (fun x a' U => ∃ kp, W0.heap.size ≤ kp ∧ a' = { tmps := (((((#[26, 27] : Array Tmp).zip (encP Ps x)).foldl (fun t (p, v) => t.setIfInBounds p v) T).setIfInBounds 10 (.int .i64 x)).setIfInBounds 11 (.pointer (some ⟨kp, 0, none⟩))), defers := [] } ∧ U.heap[kp]? = some (.cells #[.int .u32 ((Ps.getD x (0, 0, 0)).1 : Nat), .int .u32 ((Ps.getD x (0, 0, 0)).2.1 : Nat), .int .u32 ((Ps.getD x (0, 0, 0)).2.2 : Nat), .int .i64 0] 43 (0, 0)))
    (fun x a' s A C row h hg hr => by
      obtain ⟨kp, h1, h2, h3⟩ := h
      exact ⟨kp, h1, h2, cells_kept h3 hg (fun r e => (hr r e).2)⟩)
    ?assign ?body ?done
  case assign =>
    intro l0 pre x V K hI hK
    have HF := hidS (fun kp W' (a : Act) e1 e2 e3 (h1 : W0.heap.size ≤ kp) h2 h3 => hK a W' e1 e2 e3 ⟨kp, h1, h2, h3⟩)
    clear hK
    obtain ⟨pb, pe, pf, hq⟩ : ∃ pb pe pf, Ps.getD x (0, 0, 0) = (pb, pe, pf) := ⟨_, _, _, rfl⟩
    simp only [encP, hq] at HF ⊢
    rw [HT.out] at HF ⊢
    gi_wp2
    exact HF.out V.heap.size _ _ (Upon.alloc _ _ _) (fun h => h.step (World.grownBy_alloc _ _ none) (fun r e => by cases e)) ⟨hI.1.trans (Kp.alloc (S := fun i => i = kw + 5) _ _) (fun _ _ q => q), hI.2.1.alloc _, hI.2.2⟩ hI.1.size (by simp) (heap_alloc_new V _)
  case body =>
    rintro l0 pre x a' U hl0 hrec ⟨h1, h2, h4⟩ ⟨kp, hkp, rfl, hobj⟩ hln hsp
    obtain ⟨hxp, hxm⟩ := range_at hsp
    subst hxp
    have hI := HWI.out U h1
    obtain ⟨b, off, rfl, hb, hc⟩ := hI.rd (by omega)
    obtain ⟨v0, v1, v2, v3⟩ := hc _ hxm
    obtain ⟨pb, pe, pf, hq⟩ : ∃ pb pe pf, Ps.getD pre.length (0, 0, 0) = (pb, pe, pf) := ⟨_, _, _, rfl⟩
    simp only [encP, hq] at hobj v0 v1 v2 v3 ⊢
    obtain ⟨r0, r1, r2, r3⟩ := prCellsP hobj
    have cT := hI.bT.cell
    have cS := hI.bS.cell
    have cN := h2.cell
    have fN := h2.frozen
    have hw := wrap_smallP hln
    have H1 := hidS h1
    have H2 := hidS h2
    have H4 := hidS h4
    by_cases hpe : pre.length = st
    · have hpB : ((pre.length : Int) == (st : Int)) = true := by rw [hpe]; simp
      have hpI : (pre.length : Int) = (st : Int) := by rw [hpe]
      clear hsp hobj hq hc hI h1 h4 v0 v1 v2 v3 r0 r1 r2 r3 cT hw hrec h2
      have HPE := hidS hpe
      clear hpe
      rw [HT.out]
      gi_wp2
      exact ⟨Upon.refl _ _, rfl, H1.out, by rw [← HPE.out]; exact H2.out⟩
    · have hpI : ¬ (pre.length : Int) = (st : Int) := fun e => hpe (Int.ofNat_inj.1 e)
      have hgI : ¬ (st : Int) < (pre.length : Int) := by omega
      have hgd : decide (st < pre.length) = false := decide_eq_false (by omega)
      have hxI : (pre.length : Int) < (Ps.length : Int) := by omega
      have HPE := hidS hpe
      clear hsp hobj hq hc hI h1 h4 hrec h2 hpe hln
      rw [HT.out]
      gi_wp2
      refine region_quiet_r (by kernel_rfl) (by kernel_rfl) (by kernel_rfl) ?_
      repeat (gi_big_quiet_step (fail))
      refine wpQuietIn_nil ?_
      intro _ hw'
      obtain ⟨nq, hw''⟩ := hw'
      subst hw''
      have hA1 := H1.out.trans (Kp.ofBelow (S := fun i => i = kw + 5) (below_drewN (Below.refl _ _) nq)) (fun _ _ q => q)
      have hN1 : Boxed (U.drewN nq) (kw + 5) 3 (.int .i64 pre.length) := H2.out
      have hU1 := Upon.drewNP W0.heap.size U nq
      clear cN fN cT cS v0 v1 v2 v3 r0 r1 r2 r3 H1 H2
      generalize U.drewN nq = U1 at hA1 hN1 hU1 ⊢
      obtain ⟨k, hk⟩ : ∃ k : Nat, pre.length = k := ⟨_, rfl⟩
      have HK := hidS hk
      rw [hk] at hN1 hw
      have cN := hN1.cell
      have fN := hN1.frozen
      gi_wp2
      have hA2 := hA1.trans (Kp.setCell (S := fun i => i = kw + 5) U1 ⟨kw + 5, 0, none⟩ (.int .i64 ((k : Int) + 1)) rfl) (fun _ _ q => q)
      refine ⟨hU1.trans (Upon.setCell _ _ _), fun _ => (HWI.out _ hA2).ia, hA2, ?_, ?_⟩
      · rw [show ((pre ++ [pre.length]).length : Int) = (k : Int) + 1 by simp [HK.out]]
        exact hN1.set _
      · have := HPE.out
        have := H4.out
        simp
        omega
  case done =>
    rintro D1 pre U hD1 hor hd1
    obtain ⟨h1, h2⟩ : Kp (fun i => i = kw + 5) W0 U ∧ Boxed U (kw + 5) 3 (.int .i64 st) := by
      rcases hor with ⟨hS, q1, q2, q3⟩ | ⟨_, q⟩
      · subst hS
        rw [List.length_range] at q2 q3
        rw [show st = Ps.length by omega]
        exact ⟨q1, q2⟩
      · exact q
    clear hor
    have hI := HWI.out U h1
    have cS := hI.bS.cell
    have cN := h2.cell
    have fN := h2.frozen
    have h9 := h2.set (.int .i64 0)
    have hA9 := h1.trans (Kp.setCell (S := fun i => i = kw + 5) U ⟨kw + 5, 0, none⟩ (.int .i64 0) rfl) (fun _ _ q => q)
    have cA := (HWI.out _ hA9).bA.cell
    have hd9 : (U.setCell ⟨kw + 5, 0, none⟩ (.int .i64 0)).heap[D1]? = some (.deferred (some [])) := (Below.heap_setCell _ _ _ _ (by show D1 ≠ kw + 5; omega)).trans hd1
    have H9 := hidS (And.intro h9 (And.intro hA9 hd9))
    clear h9 hA9 hd9
    rw [HT.out]
    gi_wp2
    obtain ⟨b9, hA9, hd9⟩ := H9.out
    obtain ⟨W2, hW2⟩ : ∃ W2, U.setCell ⟨kw + 5, 0, none⟩ (.int .i64 0) = W2 := ⟨_, rfl⟩
    rw [hW2] at b9 hA9 hd9 ⊢
    clear H9 cA cN fN cS hI h1 h2 hd1 hW2
    have hs2 := hA9.size
    have hlD := (Array.getElem?_eq_some_iff.1 hd9).1
    refine with_tmpsP fun T2 hT2 => ?_
    have HT2 := hidS hT2
    clear hT2
    refine range_outer (F := Fence.wide) rfl (by decide) (gf := 67) (lb := #[.pointer (some ⟨kw + 2, 0, none⟩)]) (by rw [HT2.out]; rfl) trivial (enters_of Tryd.func67 (by kernel_rfl) rfl)
      (seqA (30 - 1) (by decide) (kw + 2) kw al capl Ps W2 hP (HWI.out _ hA9).ia (by omega)) KeA_t (KeA_b (w := W2)) (Below.refl _ _) (fun _ => rfl)
      (fun pre V => Kp (fun i => i = kw + 5) W0 V ∧ Boxed V (kw + 5) 3 (.int .i64 pre.length) ∧ V.heap[D1]? = some (.deferred (some [])))
      (fun c pre V => False)
      (fun s A C row h hg hr => ⟨h.1.stepW hg (fun r e => by have := (hr r e).1; omega), low_kept h.2.1 (by omega) hg hr, low_kept h.2.2 hlD hg hr⟩)
      (fun c t A B row h hg hr => h)
      ⟨hA9, b9, hd9⟩
      (fun x a' U => ∃ kp, W0.heap.size ≤ kp ∧ a' = { tmps := (((((#[53, 54] : Array Tmp).zip (encP Ps x)).foldl (fun t (p, v) => t.setIfInBounds p v) T2).setIfInBounds 12 (.int .i64 x)).setIfInBounds 13 (.pointer (some ⟨kp, 0, none⟩))), defers := [] } ∧ U.heap[kp]? = some (.cells #[.int .u32 ((Ps.getD x (0, 0, 0)).1 : Nat), .int .u32 ((Ps.getD x (0, 0, 0)).2.1 : Nat), .int .u32 ((Ps.getD x (0, 0, 0)).2.2 : Nat), .int .i64 0] 43 (0, 0)))
      (fun x a' s A C row h hg hr => by
        obtain ⟨kp, h1, h2, h3⟩ := h
        exact ⟨kp, h1, h2, cells_kept h3 hg (fun r e => (hr r e).2)⟩)
      ?assign2 ?body2 ?done2 ?stop2
    case stop2 => exact fun D c pre V hD hpre hF hK => hF.elim
    case assign2 =>
      intro l0 pre x V K hI hK
      have HF := hidS (fun kp W' (a : Act) e1 e2 e3 (h1 : W0.heap.size ≤ kp) h2 h3 => hK a W' e1 e2 e3 ⟨kp, h1, h2, h3⟩)
      clear hK
      obtain ⟨pb, pe, pf, hq⟩ : ∃ pb pe pf, Ps.getD x (0, 0, 0) = (pb, pe, pf) := ⟨_, _, _, rfl⟩
      simp only [encP, hq] at HF ⊢
      rw [HT2.out] at HF ⊢
      gi_wp2
      exact HF.out V.heap.size _ _ (Upon.alloc _ _ _) (fun h => h.step (World.grownBy_alloc _ _ none) (fun r e => by cases e)) ⟨hI.1.trans (Kp.alloc (S := fun i => i = kw + 5) _ _) (fun _ _ q => q), hI.2.1.alloc _, (Below.heap_alloc _ _ _ (Array.getElem?_eq_some_iff.1 hI.2.2).1).trans hI.2.2⟩ hI.1.size (by simp) (heap_alloc_new V _)
    case body2 =>
      rintro l0 pre x a' U hl0 hrec ⟨h1, h2, h3⟩ ⟨kp, hkp, rfl, hobj⟩ hln hsp
      obtain ⟨hxp, hxm⟩ := range_at hsp
      subst hxp
      have hI := HWI.out U h1
      obtain ⟨b, off, rfl, hb, hc⟩ := hI.rd (by omega)
      obtain ⟨v0, v1, v2, v3⟩ := hc _ hxm
      obtain ⟨pb, pe, pf, hq⟩ : ∃ pb pe pf, Ps.getD pre.length (0, 0, 0) = (pb, pe, pf) := ⟨_, _, _, rfl⟩
      simp only [encP, hq] at hobj v0 v1 v2 v3 ⊢
      obtain ⟨r0, r1, r2, r3⟩ := prCellsP hobj
      have cT := hI.bT.cell
      have cN := h2.cell
      have fN := h2.frozen
      have HW := hidS (wrap_smallP hln)
      have H1 := hidS h1
      have H2 := hidS h2
      have H3 := hidS h3
      have hgd : decide (Ps.length ≤ pre.length) = false := decide_eq_false (Nat.not_le.2 hxm)
      have hxI : (pre.length : Int) < (Ps.length : Int) := Int.ofNat_lt.2 hxm
      have HREC := hidS hrec
      clear hsp hobj hq hc hI h1 hrec h2 h3 hln
      rw [HT2.out]
      gi_wp2
      conv => arg 6; simp
      refine region_quiet_r (by kernel_rfl) (by kernel_rfl) (by kernel_rfl) ?_
      repeat (gi_big_quiet_step (fail))
      refine wpQuietIn_nil ?_
      intro _ hw'
      obtain ⟨nq, hw''⟩ := hw'
      subst hw''
      have hA1 := H1.out.trans (Kp.ofBelow (S := fun i => i = kw + 5) (below_drewN (Below.refl _ _) nq)) (fun _ _ q => q)
      have hN1 : Boxed (U.drewN nq) (kw + 5) 3 (.int .i64 pre.length) := H2.out
      have hU1 := Upon.drewNP W2.heap.size U nq
      have hd1 : (U.drewN nq).heap[D1]? = some (.deferred (some [])) := H3.out
      obtain ⟨qr, hqr⟩ : ∃ r, (U.drewN nq).heap[l0]? = some (.loop r) := HREC.out
      clear cN fN cT v0 v1 v2 v3 r0 r1 r2 r3 H1 H2 H3 HREC
      generalize U.drewN nq = U1 at hA1 hN1 hU1 hd1 hqr ⊢
      obtain ⟨k, hk⟩ : ∃ k : Nat, pre.length = k := ⟨_, rfl⟩
      have HK := hidS hk
      rw [hk] at hN1
      have cN := hN1.cell
      have fN := hN1.frozen
      have hA2 := hA1.trans (Kp.setCell (S := fun i => i = kw + 5) U1 ⟨kw + 5, 0, none⟩ (.int .i64 ((k : Int) + 1)) rfl) (fun _ _ q => q)
      have cA := (HWI.out _ hA2).bA.cell
      have hz1 := hA1.size
      have hN4 := hN1.set (.int .i64 ((k : Int) + 1))
      have hU4 := hU1.trans (Upon.setCell (B := W2.heap.size) U1 ⟨kw + 5, 0, none⟩ (.int .i64 ((k : Int) + 1)))
      have hd4 : (U1.setCell ⟨kw + 5, 0, none⟩ (.int .i64 ((k : Int) + 1))).heap[D1]? = some (.deferred (some [])) := (Below.heap_setCell _ _ _ _ (by show D1 ≠ kw + 5; omega)).trans hd1
      have hq4 : (U1.setCell ⟨kw + 5, 0, none⟩ (.int .i64 ((k : Int) + 1))).heap[l0]? = some (.loop qr) := (Below.heap_setCell _ _ _ _ (by show l0 ≠ kw + 5; omega)).trans hqr
      have H4 := hidS (And.intro hA2 (And.intro hN4 (And.intro hU4 (And.intro hd4 hq4))))
      clear hA2 hN4 hU4 hd4 hq4 hd1 hqr hU1 hA1
      clear hgd hxI hxm hz1
      have hw := HW.out
      rw [hk] at hw
      gi_wp2
      clear hw
      obtain ⟨hA4, hN4, hU4, hd4, hq4⟩ := H4.out
      obtain ⟨W4, hW4⟩ : ∃ W4, U1.setCell ⟨kw + 5, 0, none⟩ (.int .i64 ((k : Int) + 1)) = W4 := ⟨_, rfl⟩
      rw [hW4] at hA4 hN4 hU4 hd4 hq4 ⊢
      clear H4 cA cN fN hN1 hW4
      have hs4 := hA4.size
      have hl4 := (Array.getElem?_eq_some_iff.1 hd4).1
      have hsU := hU4.size
      refine with_tmpsP fun T4 hT4 => ?_
      have HT4 := hidS hT4
      clear hT4
      refine range_inner_break (F := Fence.wide.inRound l0) (id := 4) rfl hq4 (by decide) (gf := 67) (lb := #[.pointer (some ⟨kw + 2, 0, none⟩)]) (by rw [HT4.out]; rfl) trivial (enters_of Tryd.func67 (by kernel_rfl) rfl)
        (seq_wide (n := 28) (seqA 28 (by decide) (kw + 2) kw al capl Ps W4 hP (HWI.out _ hA4).ia (by omega))) KeA_t (KeA_b (w := W4)) (Below.refl _ _) (fun _ => rfl)
        (fun pre V => pre = [] ∧ Kp (fun i => i = kw + 5) W0 V ∧ Boxed V (kw + 5) 3 (.int .i64 ((k : Int) + 1)) ∧ V.heap[D1]? = some (.deferred (some [])) ∧ Upon W2.heap.size U V)
        (fun pre V => Kp (fun i => i = kw + 5) W0 V ∧ Boxed V (kw + 5) 3 (.int .i64 ((k : Int) + 1)) ∧ V.heap[D1]? = some (.deferred (some [])) ∧ Upon W2.heap.size U V)
        (fun s A C row h hg hr => ⟨h.1, h.2.1.stepW hg (fun r e => by have := (hr r e).1; omega), low_kept h.2.2.1 (by omega) hg hr, low_kept h.2.2.2.1 hl4 hg hr, upon_stepP h.2.2.2.2 (m := W4.heap.size) (by omega) hg (fun r e => (hr r e).1)⟩)
        (fun s A C row h hg hr => ⟨h.1.stepW hg (fun r e => by have := (hr r e).1; omega), low_kept h.2.1 (by omega) hg hr, low_kept h.2.2.1 hl4 hg hr, upon_stepP h.2.2.2 (m := W4.heap.size) (by omega) hg (fun r e => (hr r e).1)⟩)
        ⟨rfl, hA4, hN4, hd4, hU4⟩
        (fun x a' U => ∃ kp, W0.heap.size ≤ kp ∧ a' = { tmps := (((((#[75, 76] : Array Tmp).zip (encP Ps x)).foldl (fun t (p, v) => t.setIfInBounds p v) T4).setIfInBounds 14 (.int .i64 x)).setIfInBounds 15 (.pointer (some ⟨kp, 0, none⟩))), defers := [] } ∧ U.heap[kp]? = some (.cells #[.int .u32 ((Ps.getD x (0, 0, 0)).1 : Nat), .int .u32 ((Ps.getD x (0, 0, 0)).2.1 : Nat), .int .u32 ((Ps.getD x (0, 0, 0)).2.2 : Nat), .int .i64 0] 43 (0, 0)))
        (fun x a' s A C row h hg hr => by
          obtain ⟨kp, h1, h2, h3⟩ := h
          exact ⟨kp, h1, h2, cells_kept h3 hg (fun r e => (hr r e).2)⟩)
        ?assign4 ?body4 ?end4
      case assign4 =>
        intro l5 pre5 x V K hI hK
        have HF := hidS (fun kp W' (a : Act) e1 e2 e3 (h1 : W0.heap.size ≤ kp) h2 h3 => hK a W' e1 e2 e3 ⟨kp, h1, h2, h3⟩)
        clear hK
        obtain ⟨pb, pe, pf, hq⟩ : ∃ pb pe pf, Ps.getD x (0, 0, 0) = (pb, pe, pf) := ⟨_, _, _, rfl⟩
        simp only [encP, hq] at HF ⊢
        rw [HT4.out] at HF ⊢
        gi_wp2
        obtain ⟨q0, q1, q2, q3, q4⟩ := hI
        exact HF.out V.heap.size _ _ (Upon.alloc _ _ _) (fun h => h.step (World.grownBy_alloc _ _ none) (fun r e => by cases e)) ⟨q0, q1.trans (Kp.alloc (S := fun i => i = kw + 5) _ _) (fun _ _ q => q), q2.alloc _, (Below.heap_alloc _ _ _ (Array.getElem?_eq_some_iff.1 q3).1).trans q3, q4.trans (Upon.alloc _ _ _)⟩ q1.size (by simp [HK.out]) (heap_alloc_new V _)
      case body4 =>
        rintro l5 pre5 x a' U5 hl5 hrec5 ⟨q0, q1, q2, q3, q4⟩ ⟨kp5, hkp5, rfl, hobj⟩ hln hsp
        subst q0
        obtain ⟨hxp, hxm⟩ := range_at hsp
        subst hxp
        have hI := HWI.out U5 q1
        obtain ⟨b', off', e, hb, hc⟩ := hI.rd (by omega)
        cases e
        obtain ⟨v0, v1, v2, v3⟩ := hc _ hxm
        obtain ⟨pb', pe', pf', hq⟩ : ∃ pb pe pf, Ps.getD ([] : List Nat).length (0, 0, 0) = (pb, pe, pf) := ⟨_, _, _, rfl⟩
        simp only [encP, hq] at hobj v0 v1 v2 v3 ⊢
        simp only [List.length_nil, Nat.zero_mul, Nat.add_zero] at v0 v1 v2 v3 ⊢
        obtain ⟨r0, r1, r2, r3⟩ := prCellsP hobj
        have cT := hI.bT.cell
        have hxI : (0 : Int) < (Ps.length : Int) := by simp at hxm; omega
        have H1 := hidS (And.intro q1 (And.intro q2 (And.intro q3 q4)))
        clear hsp hobj hq hc hI q1 q2 q3 q4 hrec5 hln
        rw [HT4.out]
        gi_wp2
        conv => arg 6; simp
        refine region_quiet_r (by kernel_rfl) (by kernel_rfl) (by kernel_rfl) ?_
        repeat (gi_big_quiet_step (fail))
        refine wpQuietIn_nil ?_
        intro _ hw'
        obtain ⟨nq, hw''⟩ := hw'
        subst hw''
        obtain ⟨q1, q2, q3, q4⟩ := H1.out
        have hA1 := q1.trans (Kp.ofBelow (S := fun i => i = kw + 5) (below_drewN (Below.refl _ _) nq)) (fun _ _ q => q)
        have hN1 : Boxed (U5.drewN nq) (kw + 5) 3 (.int .i64 ((k : Int) + 1)) := q2
        have hd5 : (U5.drewN nq).heap[D1]? = some (.deferred (some [])) := q3
        have hU5 := q4.trans (Upon.drewNP W2.heap.size U5 nq)
        have hU6 := Upon.drewNP W4.heap.size U5 nq
        have H5 := hidS (And.intro hA1 (And.intro hN1 (And.intro hd5 hU5)))
        clear cT v0 v1 v2 v3 r0 r1 r2 r3 H1 q1 q2 q3 q4 hA1 hN1 hd5 hU5
        generalize U5.drewN nq = U6 at H5 hU6 ⊢
        gi_wp2
        exact ⟨hU6, rfl, H5.out⟩
      case end4 =>
        rintro pre5 U5 hor
        obtain ⟨q1, q2, q3, q4⟩ : Kp (fun i => i = kw + 5) W0 U5 ∧ Boxed U5 (kw + 5) 3 (.int .i64 ((k : Int) + 1)) ∧ U5.heap[D1]? = some (.deferred (some [])) ∧ Upon W2.heap.size U U5 := by
          rcases hor with ⟨_, _, q⟩ | ⟨_, q⟩
          · exact q
          · exact q
        clear hor
        rw [HT4.out]
        gi_wp2
        refine ⟨q4, fun _ => (HWI.out _ q1).ia, q1, ?_, q3⟩
        rw [show ((pre ++ [pre.length]).length : Int) = (k : Int) + 1 by simp [HK.out]]
        exact q2
    case done2 =>
      rintro D2 xs U hD2 hS ⟨h1, h2, h3⟩ hd2
      subst hS
      rw [List.length_range] at h2
      have hI := HWI.out U h1
      have cT := hI.bT.cell
      have cN := h2.cell
      have cR := hI.bR.cell
      have fR := hI.bR.frozen
      have HH := hidS (And.intro hI.bR (And.intro h1 (And.intro h3 (And.intro hd2 hD2))))
      clear hI h1 h2 h3 hd2 hD2
      rw [HT2.out]
      gi_wp2
      obtain ⟨bR, h1, h3, hd2, hD2⟩ := HH.out
      have x2 := (KeepsOthers.setCell U ⟨kw + 1, 0, none⟩ (.bool true)).same D2 _ hd2 rfl
      have x1 := (KeepsOthers.setCell U ⟨kw + 1, 0, none⟩ (.bool true)).same D1 _ h3 rfl
      have bz := bR.set (.bool true)
      obtain ⟨Z, hZ⟩ : ∃ Z, U.setCell ⟨kw + 1, 0, none⟩ (.bool true) = Z := ⟨_, rfl⟩
      have hz : Kp (fun i => kw ≤ i) W0 Z := by
        rw [← hZ]
        exact (h1.mono (S' := fun i => kw ≤ i) (fun i _ e => by omega)).trans (Kp.setCell (S := fun i => kw ≤ i) _ _ _ (by show kw ≤ kw + 1; omega)) (fun _ _ q => q)
      rw [hZ] at x1 x2 bz ⊢
      have hlt1 : kw ≤ D1 := by omega
      have hlt2 : kw ≤ D2 := by omega
      have hne : D1 ≠ D2 := by omega
      have x1' : (Z.putObj D2 (.deferred none)).heap[D1]? = some (.deferred (some [])) := (World.putObj_heap_other hne).trans x1
      have bz1 := boxed_stepP bz (grownBy_putObj' _ D2 (.deferred none)) (fun r e => by cases e; exact ⟨_, x2, rfl⟩)
      have bz2 := (boxed_stepP bz1 (grownBy_putObj' _ D1 (.deferred none)) (fun r e => by cases e; exact ⟨_, x1', rfl⟩)).cell
      have hz1 := hz.trans (Kp.ofGrown (S := fun i => kw ≤ i) (grownBy_putObj' Z D2 (.deferred none)) (fun i e _ => by cases e; exact hlt2)) (fun _ _ q => q)
      have hz2 := hz1.trans (Kp.ofGrown (S := fun i => kw ≤ i) (grownBy_putObj' _ D1 (.deferred none)) (fun i e _ => by cases e; exact hlt1)) (fun _ _ q => q)
      refine ⟨by simp, .inl ⟨_, _, rfl, run_takeDeferred x2, ?_⟩⟩
      refine ⟨by simp, .inl ⟨_, _, rfl, run_takeDeferred x1', ?_⟩⟩
      refine ⟨.bool true, ?_, rfl, ?_⟩
      · simp [results, Tryd.f32, go_sem, bz2]
      · have e := HBW.out
        rw [HKW.out] at e ⊢
        exact e.trans (hz2.below (B := kw) (by omega) (fun i h => h))
end Go.Proofs.YtihnkeflcnndpaaDoor
namespace Go.Proofs.YtihnkeflcnndpaaDoor
open Go.RowKit Go.WideShapes Go.Shelf
set_option maxRecDepth 100000

set_option maxHeartbeats 1000000 in
theorem plegal_any {B pp p1 g1 p2 g2 n : Nat} {lv : Value} {L : List (Nat × Nat)} {A C : List Nat} (x y : Nat) (w : World) (hy : y < 4294967296) (hL : L.length ≤ 16384) (hE : isEn L 0 = true) (h : PrS w B pp p1 g1 p2 g2 n lv (prL L) A C) :
    Calls Tryd.prog 17 #[.pointer (some ⟨pp, 0, none⟩), .int .u32 x, .int .u32 y] w fun e w' => e = .returned (.bool (hasW C y && (ofL L x == ofL L y))) ∧ Below w.heap.size w w' := by
  have hM := pmade_any pp w h.c0
  have c3 := h.c3
  have hH := has_any p2 g2 n y _ C w hy h.s2
  have HX := hidS (fun W hb => pof_any x W hL hE (h.below hb))
  have HY := hidS (fun W hb => pof_any y W hL hE (h.below hb))
  have hbX : Below w.heap.size w w := Below.refl _ _
  clear h
  cases hc : hasW C y with
  | false =>
    rw [hc] at hH
    go_enter Tryd.func17, Tryd.ntmps17
    go_wp2_with (first | (go_at_call 41; refine hM.mono ?_; rintro e w2 ⟨rfl, hw2⟩; subst hw2) | (go_at_call 42; refine hH.mono ?_; rintro e w2 ⟨rfl, hw2⟩; subst hw2))
    go_ret
    exact ⟨rfl, Below.refl _ _⟩
  | true =>
    rw [hc] at hH
    go_enter Tryd.func17, Tryd.ntmps17
    go_wp2_with (first | (go_at_call 41; refine hM.mono ?_; rintro e w2 ⟨rfl, hw2⟩; subst hw2) | (go_at_call 42; refine hH.mono ?_; rintro e w2 ⟨rfl, hw2⟩; subst hw2) | (go_at_call 14; with_reducible refine (HX.out _ hbX).mono ?_; rintro e w3 ⟨rfl, hb3⟩; clear HX; have hbX := btP hbX hb3) | (go_at_call 14; with_reducible refine (HY.out _ hbX).mono ?_; rintro e w4 ⟨rfl, hb4⟩; have hbX := btP hbX hb4))
    go_ret
    exact ⟨rfl, hbX⟩
theorem enc_each {L : List (Nat × Nat)} (h : encX L = 0) {i : Nat} (hi : i < L.length) : isOp (L.getD i (0, 0)).1 = true := by
  have hl := encX_len h
  unfold encX at h
  rw [if_neg (by omega)] at h
  by_cases ha : allOk L = true
  · have := List.all_eq_true.1 ha (L.getD i (0, 0)) (by rw [List.getD_eq_getElem?_getD, List.getElem?_eq_getElem hi]; exact List.getElem_mem hi)
    have h2 := eq_of_beq this
    unfold erV at h2
    by_cases hq : isOp (L.getD i (0, 0)).1 = false
    · rw [if_pos hq] at h2
      cases h2
    · simpa using hq
  · rw [if_neg ha] at h
    exfalso
    have hne : ∃ j, j < L.length ∧ okI (L.getD j (0, 0)) = false := by
      refine Classical.byContradiction fun hno => ha ?_
      refine allOk_of L fun j hj => ?_
      cases hq : okI (L.getD j (0, 0)) with
      | true => rfl
      | false => exact absurd ⟨j, hj, hq⟩ hno
    obtain ⟨j, hj, hq⟩ := hne
    have : ∀ m, m ≤ L.length → (∀ j, j < m → okI (L.getD j (0, 0)) = true) ∨ ∃ k, k < m ∧ okI (L.getD k (0, 0)) = false ∧ ∀ j, j < k → okI (L.getD j (0, 0)) = true := by
      intro m
      induction m with
      | zero => intro _; exact .inl (fun j hj => absurd hj (by omega))
      | succ m ih =>
        intro hm
        rcases ih (by omega) with h1 | ⟨k, h1, h2, h3⟩
        · cases hq2 : okI (L.getD m (0, 0)) with
          | true => exact .inl (fun j hj => by
              by_cases hjm : j < m
              · exact h1 j hjm
              · rw [show j = m by omega]; exact hq2)
          | false => exact .inr ⟨m, by omega, hq2, h1⟩
        · exact .inr ⟨k, by omega, h2, h3⟩
    rcases this L.length (Nat.le_refl _) with h1 | ⟨k, h1, h2, h3⟩
    · rw [h1 j hj] at hq
      cases hq
    · rw [(badAt_of L k h1 h3 h2).1] at h
      unfold okI at h2
      rw [h] at h2
      cases h2
theorem row5 {w3 : World} {cs : Array Value} {t : Nat} {v : Value} (h5 : cs[5]? = some v) {W : World} (hW : Below (w3.alloc (Obj.cells cs t)).heap.size (w3.alloc (Obj.cells cs t)) W) : W.cell? ⟨w3.heap.size, 5, none⟩ = some v :=
  (obj_cell ((hW.block w3.heap.size (by simp)).trans (heap_alloc_new w3 (Obj.cells cs t))) 5).trans h5
/-- control stays in its procedure -/
theorem within_i {L : List (Nat × Nat)} {J : List Nat} {M : List (ByteArray × Nat)} (hG : FdG L J M) {i : Nat} (hi : i < L.length) :
    isOp (L.getD i (0, 0)).1 = true ∧ (opKi (L.getD i (0, 0)).1 = 3 ∨ opKi (L.getD i (0, 0)).1 = 2 → ofL L (argL L i) = ofL L i ∧ isEn L (argL L i) = false) ∧ (endK (opKi (L.getD i (0, 0)).1) = false → ofL L (i + 1) = ofL L i) := by
  obtain ⟨q, hq, h1, h2⟩ := lies_in hG.fst hi
  rw [getD_anyP hq 0 L.length] at h1
  have hk := hG.ck q (by rw [prs_len]; exact hq)
  unfold OkP at hk
  rw [prL_get L hq] at hk
  have h3 := hk i h1 h2
  have e1 := at_in hq h1 h2
  unfold errP at h3
  generalize opKi (L.getD i (0, 0)).1 = kd at h3 ⊢
  refine ⟨enc_each hG.enc hi, fun hkd => ?_, fun hen => ?_⟩
  · have h4 : bAt L q < argL L i ∧ argL L i < bAt L (q + 1) := by
      unfold ckE at h3
      split at h3
      · cases h3
      · split at h3
        · cases h3
        · rename_i hz
          have : ((kd == 3 || kd == 2) = true) := by rcases hkd with e | e <;> simp [e]
          rw [this] at hz
          simp at hz
          exact hz
    have e2 := at_in hq (Nat.le_of_lt h4.1) h4.2
    exact ⟨by rw [e2.1, e1.1], by rw [e2.2]; exact decide_eq_false (by omega)⟩
  · have h4 : i + 1 < bAt L (q + 1) := by
      refine Nat.lt_of_le_of_ne h2 fun he => ?_
      unfold ckE at h3
      split at h3
      · cases h3
      · split at h3
        · cases h3
        · split at h3
          · cases h3
          · rename_i hz
            change i + 1 = bAt L (q + 1) at he
            simp [hen, he] at hz
    have e2 := at_in hq (k := i + 1) (Nat.le_trans h1 (Nat.le_succ i)) h4
    rw [e2.1, e1.1]
theorem jump_i {L : List (Nat × Nat)} {J : List Nat} {M : List (ByteArray × Nat)} (hG : FdG L J M) {y : Nat} (hy : y ∈ J) : isEn L y = false ∧ ¬ ofL L y < 0 := by
  obtain ⟨j, hj, he⟩ := List.getElem_of_mem hy
  have := hG.jm j hj
  unfold okJ at this
  rw [show J.getD j 0 = y by rw [List.getD_eq_getElem?_getD, List.getElem?_eq_getElem hj]; exact he] at this
  simp only [Bool.and_eq_true, decide_eq_true_eq, Bool.not_eq_true'] at this
  exact ⟨this.2.2, fun q => (ofL_neg hG.fst y).1 q this.2.1⟩
set_option maxHeartbeats 8000000 in
theorem within_any (ao aj an : Option Addr) (cap capj capn : Nat) (L : List (Nat × Nat)) (J : List Nat) (M : List (ByteArray × Nat)) (from_ to_ : Nat) (w : World) (_hfr : from_ < 4294967296) (hto : to_ < 4294967296) (hn : L.length ≤ 9223372036854775807) (hJn : J.length ≤ 9223372036854775807) (hMn : M.length ≤ 9223372036854775807) (hwf : Wfc L) (hJ : ∀ z ∈ J, z < 4294967296) (hM : ∀ j, j < M.length → (M.getD j (.empty, 0)).2 < 4294967296)
    (hr : CRd w ao L w.heap.size) (hrJ : JRd w aj J w.heap.size) (hrN : NRd w an M w.heap.size) (hT : TabW w) (hp : 0 < w.heap.size) :
    Calls Tryd.prog 5 #[.agg #[.slice ao L.length cap, .slice aj J.length capj, .slice an M.length capn], .int .u32 from_, .int .u32 to_] w fun e w' => e = .returned (.bool true) ∧ Below w.heap.size w w' := by
  have HSm := hidS (fun W hW => small_any W (hT.below hW hp) (Nat.lt_of_lt_of_le hp hW.size))
  have HFd : Hid (∀ W, Below w.heap.size w W → Calls Tryd.prog 11 #[.slice ao L.length cap, .slice aj J.length capj, .slice an M.length capn] W (FdP W L J M)) := hidS (fun W hW => find_any ao aj an cap capj capn L J M W hn hJn hMn hwf hJ hM (CRd.mono (CRd.below hr hW) hW.size) (fun q => by obtain ⟨b, o, e1, e2, e3⟩ := (hrJ.below hW) q; exact ⟨b, o, e1, Nat.lt_of_lt_of_le e2 hW.size, e3⟩) (fun q => by obtain ⟨b, o, e1, e2, e3⟩ := (hrN.below hW) q; exact ⟨b, o, e1, Nat.lt_of_lt_of_le e2 hW.size, e3⟩) (hT.below hW hp) (Nat.lt_of_lt_of_le hp hW.size))
  have HR : Hid (∀ W, Below w.heap.size w W → CRd W ao L w.heap.size) := hidS (fun W hW => CRd.below hr hW)
  have HRJ : Hid (∀ W, Below w.heap.size w W → JRd W aj J w.heap.size) := hidS (fun W hW => hrJ.below hW)
  clear hr hrJ hrN
  go_enter Tryd.func5, Tryd.ntmps5
  go_wp2_with fail
  obtain ⟨W0, hW0⟩ : ∃ W, w.alloc (Obj.cells #[.slice ao L.length cap, .slice aj J.length capj, .slice an M.length capn] 26) = W := ⟨_, rfl⟩
  have hb0 : Below w.heap.size w W0 := by rw [← hW0]; exact belP (Below.refl _ _)
  have o0 : W0.heap[w.heap.size]? = some (Obj.cells #[.slice ao L.length cap, .slice aj J.length capj, .slice an M.length capn] 26) := by rw [← hW0]; exact heap_alloc_new _ _
  rw [hW0]
  refine (HSm.out W0 hb0).mono ?_
  rintro e w1 ⟨hb1, _, _, _, _, _, _, _, _, _, rfl, _⟩
  have o1 := (hb1.block _ (Array.getElem?_eq_some_iff.1 o0).1).trans o0
  have c0 := (obj_cell o1 0).trans rfl
  have c1 := (obj_cell o1 1).trans rfl
  have c2 := (obj_cell o1 2).trans rfl
  have hb01 := btP hb0 hb1
  clear hW0 o0
  go_wp2_with fail
  refine (HFd.out w1 hb01).mono ?_
  clear c0 c1 c2
  rintro e w2 ⟨hb2, ⟨i2, x2, rfl, hx2, _⟩ | ⟨B, pp, p1, g1, p2, g2, lv, A, C, rfl, hP, hA, hC, _, _, hG⟩⟩
  · have hxI : ¬ (x2 : Int) = 0 := by omega
    have HB := hidS (btP hb01 hb2)
    clear hb2 hb01 hb1 hb0 o1
    go_wp2_with fail
    go_ret
    exact ⟨rfl, HB.out⟩
  · have hl := encX_len hG.enc
    have hE := hG.fst
    have hb02 := btP hb01 hb2
    have o2 := (hb2.block _ (Array.getElem?_eq_some_iff.1 o1).1).trans o1
    have hml : (bgs L).length ≤ 16384 := Nat.le_trans (els_le _ _) hl
    have HOF : Hid (∀ W (x : Nat) (z : Int), Below w2.heap.size w2 W → ofL L x = z → Calls Tryd.prog 14 #[.pointer (some ⟨pp, 0, none⟩), .int .u32 x] W fun e w' => e = .returned (.int .i64 z) ∧ Below W.heap.size W w') := hidS (fun W x z hW hz => by rw [← hz]; exact pof_any x W hl hE (hP.below hW))
    have HBG : Hid (∀ W (x : Nat) (z : Bool), Below w2.heap.size w2 W → x < 4294967296 → isEn L x = z → Calls Tryd.prog 15 #[.pointer (some ⟨pp, 0, none⟩), .int .u32 x] W fun e w' => e = .returned (.bool z) ∧ w' = W) := hidS (fun W x z hW hx hz => by rw [← hz, ← hA]; exact pbegins_any x W hx (hP.below hW))
    have HLG : Hid (∀ W (x y : Nat) (z : Bool), Below w2.heap.size w2 W → y < 4294967296 → (decide (y ∈ J) && (ofL L x == ofL L y)) = z → Calls Tryd.prog 17 #[.pointer (some ⟨pp, 0, none⟩), .int .u32 x, .int .u32 y] W fun e w' => e = .returned (.bool z) ∧ Below W.heap.size W w') := hidS (fun W x y z hW hy hz => by rw [← hz, ← hC]; exact plegal_any x y W hy hl hE (hP.below hW))
    have HCC : Hid (∀ W, Below w2.heap.size w2 W → W.cell? ⟨w.heap.size, 0, none⟩ = some (.slice ao L.length cap) ∧ W.cell? ⟨w.heap.size, 1, none⟩ = some (.slice aj J.length capj)) := hidS (fun W hW => ⟨(obj_cell ((hW.block _ (Array.getElem?_eq_some_iff.1 o2).1).trans o2) 0).trans rfl, (obj_cell ((hW.block _ (Array.getElem?_eq_some_iff.1 o2).1).trans o2) 1).trans rfl⟩)
    have HR2 : Hid (∀ W, Below w2.heap.size w2 W → CRd W ao L w.heap.size ∧ JRd W aj J w.heap.size) := hidS (fun W hW => ⟨HR.out W (btP hb02 hW), HRJ.out W (btP hb02 hW)⟩)
    have HG := hidS hG
    have HB02 := hidS hb02
    clear hP hA hC hb2 hb01 hb1 hb0 o1 o2 hb02 hG HSm HFd HR HRJ hml
    go_wp2_with fail
    go_loopw [10] (fun u wr => ∃ i : Nat, u = .int .i64 i ∧ i ≤ L.length ∧ Below w2.heap.size w2 wr)
      (fun u _ => L.length - (intOf u).toNat)
    case atStart => exact ⟨0, rfl, Nat.zero_le _, Below.refl _ _⟩
    case round =>
      obtain ⟨i, rfl, hi, hbw⟩ := hrel
      have cC := (HCC.out wr hbw).1
      by_cases hlt : i < L.length
      · have hltI : (i : Int) < (L.length : Int) := by omega
        obtain ⟨bb, off, rfl, hbb, hcc⟩ := (HR2.out wr hbw).1 (by omega)
        have v0 := (hcc i hlt).1
        have hop8 := (hwf.at hlt).1
        have harg32 : argL L i < 4294967296 := (hwf.at hlt).2
        obtain ⟨w1i, w2i, w3i⟩ := within_i HG.out hlt
        have hIn := info_any (L.getD i (0, 0)).1 wr hop8
        rw [w1i] at hIn
        have HV1 : Hid (∀ W, Below w2.heap.size w2 W → W.cell? ⟨bb, off + i * 2 + 1, none⟩ = some (.int .u32 (argL L i : Nat))) := hidS (fun W hW => by
          obtain ⟨b2, off2, e1, _, e3⟩ := (HR2.out W hW).1 (by omega)
          cases e1
          exact (e3 i hlt).2)
        generalize argL L i = arg at harg32 w2i HV1
        generalize (L.getD i (0, 0)).1 = op at v0 hop8 w2i w3i hIn
        generalize opKi op = kd at w2i w3i hIn
        generalize opWd op = a0 at hIn
        generalize opWi op = a1 at hIn
        generalize opMo op = a2 at hIn
        generalize opTa op = a3 at hIn
        generalize opGi op = a4 at hIn
        obtain ⟨zi, hzi⟩ : ∃ z, ofL L i = z := ⟨_, rfl⟩
        have HOI : Hid (∀ W, Below w2.heap.size w2 W → Calls Tryd.prog 14 #[.pointer (some ⟨pp, 0, none⟩), .int .u32 (i : Int)] W fun e w' => e = .returned (.int .i64 zi) ∧ Below W.heap.size W w') := hidS (fun W hW => HOF.out W i zi hW hzi)
        have HOA : Hid (kd = 3 ∨ kd = 2 → ∀ W, Below w2.heap.size w2 W → Calls Tryd.prog 14 #[.pointer (some ⟨pp, 0, none⟩), .int .u32 (arg : Int)] W fun e w' => e = .returned (.int .i64 zi) ∧ Below W.heap.size W w') := hidS (fun hk W hW => HOF.out W arg zi hW ((w2i hk).1.trans hzi))
        have HBA : Hid (kd = 3 ∨ kd = 2 → ∀ W, Below w2.heap.size w2 W → Calls Tryd.prog 15 #[.pointer (some ⟨pp, 0, none⟩), .int .u32 (arg : Int)] W fun e w' => e = .returned (.bool false) ∧ w' = W) := hidS (fun hk W hW => HBG.out W arg false hW harg32 (w2i hk).2)
        have HON : Hid (endK kd = false → ∀ W, Below w2.heap.size w2 W → Calls Tryd.prog 14 #[.pointer (some ⟨pp, 0, none⟩), .int .u32 ((i : Int) + 1)] W fun e w' => e = .returned (.int .i64 zi) ∧ Below W.heap.size W w') := hidS (fun hk W hW => by
          have := HOF.out W (i + 1) zi hW ((w3i hk).trans hzi)
          rw [show ((i + 1 : Nat) : Int) = (i : Int) + 1 by omega] at this
          exact this)
        have hi32 : i + 1 < 4294967296 := by omega
        have HB0 := hidS hbw
        clear w1i w2i w3i hzi hcc hop8
        by_cases h3 : kd = 3
        · subst h3
          rw [show ((3 : Nat) : Int) = 3 from rfl] at hIn
          have HOA2 := hidS (HOA.out (.inl rfl))
          have HBA2 := hidS (HBA.out (.inl rfl))
          clear HOA HBA HON
          go_wp2_with (first
            | (go_at_call 16; refine hIn.mono ?_; rintro e1 w3 ⟨rfl, hb3⟩; have hbX := belP (o := Obj.cells #[.string a0, .int .i64 (a1 : Int), .int .u32 (a2 : Int), .int .i64 (a3 : Int), .int .i64 (a4 : Int), .int .u8 3] 54) (btP hbw hb3); have cX := (HCC.out _ hbX).1; have v1 := HV1.out _ hbX; have hbR := Below.refl (w3.alloc (Obj.cells #[.string a0, .int .i64 (a1 : Int), .int .u32 (a2 : Int), .int .i64 (a3 : Int), .int .i64 (a4 : Int), .int .u8 3] 54)).heap.size (w3.alloc (Obj.cells #[.string a0, .int .i64 (a1 : Int), .int .u32 (a2 : Int), .int .i64 (a3 : Int), .int .i64 (a4 : Int), .int .u8 3] 54)))
            | (go_at_call 14; with_reducible refine (HOA2.out _ hbX).mono ?_; rintro e2 w4 ⟨rfl, hb4⟩; have hbX := btP hbX hb4; have hbR := btP hbR hb4; have c5 := row5 rfl hbR)
            | (go_at_call 15; with_reducible refine (HBA2.out _ hbX).mono ?_; rintro e3 w5 ⟨rfl, hw5⟩; subst hw5)
            | (go_at_call 14; with_reducible refine (HOI.out _ hbX).mono ?_; rintro e5 w7 ⟨rfl, hb7⟩; have hbX := btP hbX hb7; have hbR := btP hbR hb7; have c5 := row5 rfl hbR))
          go_roundw
          case rel => exact ⟨i + 1, by go_num, by omega, hbX⟩
          case measure => simp [intOf]; omega
        by_cases h2 : kd = 2
        · subst h2
          rw [show ((2 : Nat) : Int) = 2 from rfl] at hIn
          have HOA2 := hidS (HOA.out (.inr rfl))
          have HBA2 := hidS (HBA.out (.inr rfl))
          have HON2 := hidS (HON.out rfl)
          clear HOA HBA HON
          go_wp2_with (first
            | (go_at_call 16; refine hIn.mono ?_; rintro e1 w3 ⟨rfl, hb3⟩; have hbX := belP (o := Obj.cells #[.string a0, .int .i64 (a1 : Int), .int .u32 (a2 : Int), .int .i64 (a3 : Int), .int .i64 (a4 : Int), .int .u8 2] 54) (btP hbw hb3); have cX := (HCC.out _ hbX).1; have v1 := HV1.out _ hbX; have hbR := Below.refl (w3.alloc (Obj.cells #[.string a0, .int .i64 (a1 : Int), .int .u32 (a2 : Int), .int .i64 (a3 : Int), .int .i64 (a4 : Int), .int .u8 2] 54)).heap.size (w3.alloc (Obj.cells #[.string a0, .int .i64 (a1 : Int), .int .u32 (a2 : Int), .int .i64 (a3 : Int), .int .i64 (a4 : Int), .int .u8 2] 54)))
            | (go_at_call 14; with_reducible refine (HOA2.out _ hbX).mono ?_; rintro e2 w4 ⟨rfl, hb4⟩; have hbX := btP hbX hb4; have hbR := btP hbR hb4; have c5 := row5 rfl hbR)
            | (go_at_call 15; with_reducible refine (HBA2.out _ hbX).mono ?_; rintro e3 w5 ⟨rfl, hw5⟩; subst hw5)
            | (go_at_call 14; with_reducible refine (HON2.out _ hbX).mono ?_; rintro e4 w6 ⟨rfl, hb6⟩; have hbX := btP hbX hb6; have hbR := btP hbR hb6; have c5 := row5 rfl hbR)
            | (go_at_call 14; with_reducible refine (HOI.out _ hbX).mono ?_; rintro e5 w7 ⟨rfl, hb7⟩; have hbX := btP hbX hb7; have hbR := btP hbR hb7; have c5 := row5 rfl hbR))
          go_roundw
          case rel => exact ⟨i + 1, by go_num, by omega, hbX⟩
          case measure => simp [intOf]; omega
        by_cases h4 : kd = 4
        · subst h4
          rw [show ((4 : Nat) : Int) = 4 from rfl] at hIn
          clear HOA HBA HON
          go_wp2_with (first
            | (go_at_call 16; refine hIn.mono ?_; rintro e1 w3 ⟨rfl, hb3⟩; have hbX := belP (o := Obj.cells #[.string a0, .int .i64 (a1 : Int), .int .u32 (a2 : Int), .int .i64 (a3 : Int), .int .i64 (a4 : Int), .int .u8 4] 54) (btP hbw hb3); have cX := (HCC.out _ hbX).1; have v1 := HV1.out _ hbX; have hbR := Below.refl (w3.alloc (Obj.cells #[.string a0, .int .i64 (a1 : Int), .int .u32 (a2 : Int), .int .i64 (a3 : Int), .int .i64 (a4 : Int), .int .u8 4] 54)).heap.size (w3.alloc (Obj.cells #[.string a0, .int .i64 (a1 : Int), .int .u32 (a2 : Int), .int .i64 (a3 : Int), .int .i64 (a4 : Int), .int .u8 4] 54)))
            | (go_at_call 14; with_reducible refine (HOI.out _ hbX).mono ?_; rintro e5 w7 ⟨rfl, hb7⟩; have hbX := btP hbX hb7; have hbR := btP hbR hb7; have c5 := row5 rfl hbR))
          go_roundw
          case rel => exact ⟨i + 1, by go_num, by omega, hbX⟩
          case measure => simp [intOf]; omega
        by_cases h7 : kd = 7
        · subst h7
          rw [show ((7 : Nat) : Int) = 7 from rfl] at hIn
          clear HOA HBA HON
          go_wp2_with (first
            | (go_at_call 16; refine hIn.mono ?_; rintro e1 w3 ⟨rfl, hb3⟩; have hbX := belP (o := Obj.cells #[.string a0, .int .i64 (a1 : Int), .int .u32 (a2 : Int), .int .i64 (a3 : Int), .int .i64 (a4 : Int), .int .u8 7] 54) (btP hbw hb3); have cX := (HCC.out _ hbX).1; have v1 := HV1.out _ hbX; have hbR := Below.refl (w3.alloc (Obj.cells #[.string a0, .int .i64 (a1 : Int), .int .u32 (a2 : Int), .int .i64 (a3 : Int), .int .i64 (a4 : Int), .int .u8 7] 54)).heap.size (w3.alloc (Obj.cells #[.string a0, .int .i64 (a1 : Int), .int .u32 (a2 : Int), .int .i64 (a3 : Int), .int .i64 (a4 : Int), .int .u8 7] 54)))
            | (go_at_call 14; with_reducible refine (HOI.out _ hbX).mono ?_; rintro e5 w7 ⟨rfl, hb7⟩; have hbX := btP hbX hb7; have hbR := btP hbR hb7; have c5 := row5 rfl hbR))
          go_roundw
          case rel => exact ⟨i + 1, by go_num, by omega, hbX⟩
          case measure => simp [intOf]; omega
        by_cases h8 : kd = 8
        · subst h8
          rw [show ((8 : Nat) : Int) = 8 from rfl] at hIn
          clear HOA HBA HON
          go_wp2_with (first
            | (go_at_call 16; refine hIn.mono ?_; rintro e1 w3 ⟨rfl, hb3⟩; have hbX := belP (o := Obj.cells #[.string a0, .int .i64 (a1 : Int), .int .u32 (a2 : Int), .int .i64 (a3 : Int), .int .i64 (a4 : Int), .int .u8 8] 54) (btP hbw hb3); have cX := (HCC.out _ hbX).1; have v1 := HV1.out _ hbX; have hbR := Below.refl (w3.alloc (Obj.cells #[.string a0, .int .i64 (a1 : Int), .int .u32 (a2 : Int), .int .i64 (a3 : Int), .int .i64 (a4 : Int), .int .u8 8] 54)).heap.size (w3.alloc (Obj.cells #[.string a0, .int .i64 (a1 : Int), .int .u32 (a2 : Int), .int .i64 (a3 : Int), .int .i64 (a4 : Int), .int .u8 8] 54)))
            | (go_at_call 14; with_reducible refine (HOI.out _ hbX).mono ?_; rintro e5 w7 ⟨rfl, hb7⟩; have hbX := btP hbX hb7; have hbR := btP hbR hb7; have c5 := row5 rfl hbR))
          go_roundw
          case rel => exact ⟨i + 1, by go_num, by omega, hbX⟩
          case measure => simp [intOf]; omega
        have hend : endK kd = false := by simp [endK, h3, h4, h7, h8]
        have n3 : ((kd : Int) == 3) = false := beq_eq_false_iff_ne.2 (by omega)
        have n2 : ((kd : Int) == 2) = false := beq_eq_false_iff_ne.2 (by omega)
        have m3 : ((kd : Int) != 3) = true := bne_iff_ne.2 (by omega)
        have m4 : ((kd : Int) != 4) = true := bne_iff_ne.2 (by omega)
        have m7 : ((kd : Int) != 7) = true := bne_iff_ne.2 (by omega)
        have m8 : ((kd : Int) != 8) = true := bne_iff_ne.2 (by omega)
        have HON2 := hidS (HON.out hend)
        clear h3 h2 h4 h7 h8 HOA HBA HON
        go_wp2_with (first
          | (go_at_call 16; refine hIn.mono ?_; rintro e1 w3 ⟨rfl, hb3⟩; have hbX := belP (o := Obj.cells #[.string a0, .int .i64 (a1 : Int), .int .u32 (a2 : Int), .int .i64 (a3 : Int), .int .i64 (a4 : Int), .int .u8 (kd : Int)] 54) (btP hbw hb3); have cX := (HCC.out _ hbX).1; have v1 := HV1.out _ hbX; have hbR := Below.refl (w3.alloc (Obj.cells #[.string a0, .int .i64 (a1 : Int), .int .u32 (a2 : Int), .int .i64 (a3 : Int), .int .i64 (a4 : Int), .int .u8 (kd : Int)] 54)).heap.size (w3.alloc (Obj.cells #[.string a0, .int .i64 (a1 : Int), .int .u32 (a2 : Int), .int .i64 (a3 : Int), .int .i64 (a4 : Int), .int .u8 (kd : Int)] 54)))
          | (go_at_call 14; with_reducible refine (HON2.out _ hbX).mono ?_; rintro e4 w6 ⟨rfl, hb6⟩; have hbX := btP hbX hb6; have hbR := btP hbR hb6; have c5 := row5 rfl hbR)
          | (go_at_call 14; with_reducible refine (HOI.out _ hbX).mono ?_; rintro e5 w7 ⟨rfl, hb7⟩; have hbX := btP hbX hb7; have hbR := btP hbR hb7; have c5 := row5 rfl hbR))
        go_roundw
        case rel => exact ⟨i + 1, by go_num, by omega, hbX⟩
        case measure => simp [intOf]; omega
      · have hltI : ¬ (i : Int) < (L.length : Int) := by omega
        have HLP : ∀ U (a' : Act), Below w2.heap.size w2 U → True := fun _ _ _ => trivial
        clear HLP
        cases hlq : decide (to_ ∈ J) && (ofL L from_ == ofL L to_) with
        | false =>
          have hlg := HLG.out wr from_ to_ _ hbw hto hlq
          have HQ := hidS hlq
          clear hlq
          go_wp2_with (go_at_call 17; with_reducible refine hlg.mono ?_; rintro e1 w3 ⟨rfl, hb3⟩; have hbX := btP hbw hb3)
          go_loopw [15] (fun u wr => ∃ j : Nat, u = .int .i64 j ∧ j ≤ J.length ∧ Below w2.heap.size w2 wr)
            (fun u _ => J.length - (intOf u).toNat)
          case atStart => exact ⟨0, rfl, Nat.zero_le _, hbX⟩
          case round =>
            obtain ⟨j, rfl, hj, hbj⟩ := hrel
            have cJ := (HCC.out wr hbj).2
            by_cases hjt : j < J.length
            · have hjI : (j : Int) < (J.length : Int) := by omega
              obtain ⟨bj, offj, rfl, hbb, hcj⟩ := (HR2.out wr hbj).2 (by omega)
              have vj := hcj j hjt
              have hmem : J.getD j 0 ∈ J := getD_memP hjt
              have h32 := hJ _ hmem
              obtain ⟨hen2, hneg2⟩ := jump_i HG.out hmem
              have hlg2 := HLG.out wr (J.getD j 0) (J.getD j 0) true hbj h32 (by rw [decide_eq_true hmem]; simp)
              obtain ⟨z, hz⟩ : ∃ z, J.getD j 0 = z := ⟨_, rfl⟩
              rw [hz] at vj hen2 hneg2 hlg2 h32
              obtain ⟨zo, hzo⟩ : ∃ zo, ofL L z = zo := ⟨_, rfl⟩
              rw [hzo] at hneg2
              have HO3 : Hid (∀ W, Below w2.heap.size w2 W → Calls Tryd.prog 14 #[.pointer (some ⟨pp, 0, none⟩), .int .u32 (z : Int)] W fun e w' => e = .returned (.int .i64 zo) ∧ Below W.heap.size W w') := hidS (fun W hW => HOF.out W z zo hW hzo)
              have HB3 : Hid (∀ W, Below w2.heap.size w2 W → Calls Tryd.prog 15 #[.pointer (some ⟨pp, 0, none⟩), .int .u32 (z : Int)] W fun e w' => e = .returned (.bool false) ∧ w' = W) := hidS (fun W hW => HBG.out W z false hW h32 hen2)
              clear hcj hz hzo hen2 hmem
              go_wp2_with (first
                | (go_at_call 17; with_reducible refine hlg2.mono ?_; rintro e1 w8 ⟨rfl, hb8⟩; have hbY := btP hbj hb8)
                | (go_at_call 14; with_reducible refine (HO3.out _ hbY).mono ?_; rintro e2 w9 ⟨rfl, hb9⟩; have hbY := btP hbY hb9)
                | (go_at_call 15; with_reducible refine (HB3.out _ hbY).mono ?_; rintro e4 w10 ⟨rfl, hw10⟩; subst hw10))
              go_roundw
              case rel => exact ⟨j + 1, by go_num, by omega, hbY⟩
              case measure => simp [intOf]; omega
            · have hjI : ¬ (j : Int) < (J.length : Int) := by omega
              go_wp2_with fail
              go_ret
              exact ⟨rfl, btP HB02.out hbj⟩
        | true =>
          have hlg := HLG.out wr from_ to_ _ hbw hto hlq
          rw [Bool.and_eq_true, decide_eq_true_eq, beq_iff_eq] at hlq
          obtain ⟨hen, hneg⟩ := jump_i HG.out hlq.1
          obtain ⟨zt, hzt⟩ : ∃ z, ofL L to_ = z := ⟨_, rfl⟩
          rw [hzt] at hneg
          have HO1 : Hid (∀ W, Below w2.heap.size w2 W → Calls Tryd.prog 14 #[.pointer (some ⟨pp, 0, none⟩), .int .u32 (from_ : Int)] W fun e w' => e = .returned (.int .i64 zt) ∧ Below W.heap.size W w') := hidS (fun W hW => HOF.out W from_ zt hW (hlq.2.trans hzt))
          have HO2 : Hid (∀ W, Below w2.heap.size w2 W → Calls Tryd.prog 14 #[.pointer (some ⟨pp, 0, none⟩), .int .u32 (to_ : Int)] W fun e w' => e = .returned (.int .i64 zt) ∧ Below W.heap.size W w') := hidS (fun W hW => HOF.out W to_ zt hW hzt)
          have HB2 : Hid (∀ W, Below w2.heap.size w2 W → Calls Tryd.prog 15 #[.pointer (some ⟨pp, 0, none⟩), .int .u32 (to_ : Int)] W fun e w' => e = .returned (.bool false) ∧ w' = W) := hidS (fun W hW => HBG.out W to_ false hW hto hen)
          clear hlq hzt hen
          go_wp2_with (first
            | (go_at_call 17; with_reducible refine hlg.mono ?_; rintro e1 w3 ⟨rfl, hb3⟩; have hbX := btP hbw hb3)
            | (go_at_call 14; with_reducible refine (HO1.out _ hbX).mono ?_; rintro e2 w4 ⟨rfl, hb4⟩; have hbX := btP hbX hb4)
            | (go_at_call 14; with_reducible refine (HO2.out _ hbX).mono ?_; rintro e3 w5 ⟨rfl, hb5⟩; have hbX := btP hbX hb5)
            | (go_at_call 15; with_reducible refine (HB2.out _ hbX).mono ?_; rintro e4 w6 ⟨rfl, hw6⟩; subst hw6))
          go_loopw [15] (fun u wr => ∃ j : Nat, u = .int .i64 j ∧ j ≤ J.length ∧ Below w2.heap.size w2 wr)
            (fun u _ => J.length - (intOf u).toNat)
          case atStart => exact ⟨0, rfl, Nat.zero_le _, hbX⟩
          case round =>
            obtain ⟨j, rfl, hj, hbj⟩ := hrel
            have cJ := (HCC.out wr hbj).2
            by_cases hjt : j < J.length
            · have hjI : (j : Int) < (J.length : Int) := by omega
              obtain ⟨bj, offj, rfl, hbb, hcj⟩ := (HR2.out wr hbj).2 (by omega)
              have vj := hcj j hjt
              have hmem : J.getD j 0 ∈ J := getD_memP hjt
              have h32 := hJ _ hmem
              obtain ⟨hen2, hneg2⟩ := jump_i HG.out hmem
              have hlg2 := HLG.out wr (J.getD j 0) (J.getD j 0) true hbj h32 (by rw [decide_eq_true hmem]; simp)
              obtain ⟨z, hz⟩ : ∃ z, J.getD j 0 = z := ⟨_, rfl⟩
              rw [hz] at vj hen2 hneg2 hlg2 h32
              obtain ⟨zo, hzo⟩ : ∃ zo, ofL L z = zo := ⟨_, rfl⟩
              rw [hzo] at hneg2
              have HO3 : Hid (∀ W, Below w2.heap.size w2 W → Calls Tryd.prog 14 #[.pointer (some ⟨pp, 0, none⟩), .int .u32 (z : Int)] W fun e w' => e = .returned (.int .i64 zo) ∧ Below W.heap.size W w') := hidS (fun W hW => HOF.out W z zo hW hzo)
              have HB3 : Hid (∀ W, Below w2.heap.size w2 W → Calls Tryd.prog 15 #[.pointer (some ⟨pp, 0, none⟩), .int .u32 (z : Int)] W fun e w' => e = .returned (.bool false) ∧ w' = W) := hidS (fun W hW => HBG.out W z false hW h32 hen2)
              clear hcj hz hzo hen2 hmem
              go_wp2_with (first
                | (go_at_call 17; with_reducible refine hlg2.mono ?_; rintro e1 w8 ⟨rfl, hb8⟩; have hbY := btP hbj hb8)
                | (go_at_call 14; with_reducible refine (HO3.out _ hbY).mono ?_; rintro e2 w9 ⟨rfl, hb9⟩; have hbY := btP hbY hb9)
                | (go_at_call 15; with_reducible refine (HB3.out _ hbY).mono ?_; rintro e4 w10 ⟨rfl, hw10⟩; subst hw10))
              go_roundw
              case rel => exact ⟨j + 1, by go_num, by omega, hbY⟩
              case measure => simp [intOf]; omega
            · have hjI : ¬ (j : Int) < (J.length : Int) := by omega
              go_wp2_with fail
              go_ret
              exact ⟨rfl, btP HB02.out hbj⟩
end Go.Proofs.YtihnkeflcnndpaaDoor
namespace Go.Proofs.YtihnkeflcnndpaaDoor
open Go.RowKit Go.WideShapes Go.Shelf
set_option maxRecDepth 100000

set_option maxHeartbeats 2000000 in
theorem samew_eq (ao bo : Option Addr) (ca cb : Nat) (J : List Nat) (w : World) (hn : J.length ≤ 140737488355328) (ha : JRd w ao J w.heap.size) (hr : JRd w bo J w.heap.size) :
    Calls Tryd.prog 30 #[.slice ao J.length ca, .slice bo J.length cb] w fun e w' => e = .returned (.bool true) ∧ Below w.heap.size w w' := by
  go_enter Tryd.func30, Tryd.ntmps30
  go_wp2
  go_loopw [5] (fun i wr => ∃ k m : Nat, k ≤ J.length ∧ i = .int .i64 k ∧ wr = w.drewN m)
    (fun i _ => J.length - (intOf i).toNat)
  case atStart => exact ⟨0, 0, Nat.zero_le _, rfl, rfl⟩
  case round =>
    obtain ⟨k, m, hk, rfl, hw2⟩ := hrel
    by_cases hlt : k < J.length
    · obtain ⟨b, off, rfl, hbl, hc⟩ := hr (by omega)
      obtain ⟨b2, off2, rfl, hbl2, hc2⟩ := ha (by omega)
      have hck : wr.cell? ⟨b, off + k, none⟩ = some (.int .u32 (J.getD k 0 : Nat)) := by rw [hw2]; exact hc k hlt
      have hck2 : wr.cell? ⟨b2, off2 + k, none⟩ = some (.int .u32 (J.getD k 0 : Nat)) := by rw [hw2]; exact hc2 k hlt
      clear hc hc2
      have HW2 : Hid (wr = w.drewN m) := hw2
      clear hw2
      have hlt' : (k : Int) < (J.length : Int) := by omega
      generalize J.getD k 0 = c at hck hck2
      go_wp2
      go_quiet (fail)
      go_wp2
      go_roundw
      case rel => exact ⟨k + 1, _, by omega, by go_num, by rw [HW2.out, World.drewN_drewN]⟩
      case measure => simp [intOf]; omega
    · have HW2 : Hid (wr = w.drewN m) := hw2
      have hlt' : ¬ (k : Int) < (J.length : Int) := by omega
      clear hw2
      go_wp2
      go_ret
      exact ⟨rfl, by rw [HW2.out]; exact below_drewN (Below.refl _ _) m⟩
theorem ptargets_out {B pp p1 g1 p2 g2 n : Nat} {lv : Value} {Ps : List (Nat × Nat × Nat)} {A C : List Nat} (i : Int) (w : World) (hi : i < 0 ∨ (Ps.length : Int) ≤ i) (h : PrS w B pp p1 g1 p2 g2 n lv Ps A C) :
    Calls Tryd.prog 18 #[.pointer (some ⟨pp, 0, none⟩), .int .i64 i] w fun e w' => e = .returned (.slice none 0 0) ∧ Below w.heap.size w w' := by
  have HM := hidS (fun W hb => pproc_out i W hi (h.below hb))
  go_enter Tryd.func18, Tryd.ntmps18
  go_wp2_with (go_at_call 13; refine (HM.out _ (Below.refl _ _)).mono ?_; rintro e w2 ⟨rfl, hw2⟩)
  go_ret
  exact ⟨rfl, belP hw2⟩
theorem up_eq : ∀ {X Y : List Nat}, X.Pairwise (· < ·) → Y.Pairwise (· < ·) → (∀ z, z ∈ X ↔ z ∈ Y) → X = Y
  | [], [], _, _, _ => rfl
  | [], y :: _, _, _, h => absurd ((h y).2 (by simp)) (by simp)
  | x :: _, [], _, _, h => absurd ((h x).1 (by simp)) (by simp)
  | x :: X, y :: Y, hX, hY, h => by
    rw [List.pairwise_cons] at hX hY
    have hxy : x = y := by
      rcases List.mem_cons.1 ((h x).1 (by simp)) with e | e
      · exact e
      · rcases List.mem_cons.1 ((h y).2 (by simp)) with e' | e'
        · exact e'.symm
        · have := hX.1 y e'
          have := hY.1 x e
          omega
    subst hxy
    rw [up_eq hX.2 hY.2 (fun z => by
      constructor
      · intro hz
        rcases List.mem_cons.1 ((h z).1 (by simp [hz])) with e | e
        · have := hX.1 z hz
          omega
        · exact e
      · intro hz
        rcases List.mem_cons.1 ((h z).2 (by simp [hz])) with e | e
        · have := hY.1 z hz
          omega
        · exact e)]
theorem jumps_up {L : List (Nat × Nat)} {J : List Nat} (h : ∀ j, j < J.length → okJ L J j = true) : J.Pairwise (· < ·) := by
  have hs : ∀ j, j + 1 < J.length → J.getD j 0 < J.getD (j + 1) 0 := fun j hj => by
    have := h (j + 1) hj
    unfold okJ at this
    simp only [Bool.and_eq_true, Bool.not_eq_true', Bool.and_eq_false_iff, decide_eq_false_iff_not, Nat.add_sub_cancel] at this
    rcases this.1 with h1 | h1 <;> omega
  have hm : ∀ d i, i + d + 1 < J.length → J.getD i 0 < J.getD (i + d + 1) 0 := by
    intro d
    induction d with
    | zero => exact fun i hi => hs i hi
    | succ d ih =>
      intro i hi
      have h1 := ih i (by omega)
      have h2 := hs (i + d + 1) (by omega)
      rw [show i + (d + 1) + 1 = i + d + 1 + 1 by omega]
      omega
  rw [List.pairwise_iff_getElem]
  intro i j hi hj hij
  have := hm (j - i - 1) i (by omega)
  rw [show i + (j - i - 1) + 1 = j by omega, List.getD_eq_getElem?_getD, List.getD_eq_getElem?_getD, List.getElem?_eq_getElem hi, List.getElem?_eq_getElem hj] at this
  exact this
theorem jumps_lt {L : List (Nat × Nat)} {J : List Nat} (h : ∀ j, j < J.length → okJ L J j = true) : ∀ z ∈ J, z < L.length := by
  intro y hy
  obtain ⟨j, hj, he⟩ := List.getElem_of_mem hy
  have := h j hj
  unfold okJ at this
  rw [show J.getD j 0 = y by rw [List.getD_eq_getElem?_getD, List.getElem?_eq_getElem hj]; exact he] at this
  simp only [Bool.and_eq_true, decide_eq_true_eq, Bool.not_eq_true'] at this
  exact this.2.1
theorem tg_in {L : List (Nat × Nat)} {J : List Nat} {M : List (ByteArray × Nat)} (hG : FdG L J M) {C : List Nat} (hC : ∀ y, hasW C y = decide (y ∈ J)) {i : Nat} (hi : i < (bgs L).length) : rng (hasW C) (bAt L i) (bAt L (i + 1)) = tgL L J i := by
  refine up_eq (List.Pairwise.filter _ List.pairwise_lt_range') (List.Pairwise.filter _ (jumps_up hG.jm)) (fun z => ?_)
  rw [mem_rng, tgL, List.mem_filter, hC]
  simp only [decide_eq_true_eq, beq_iff_eq]
  constructor
  · rintro ⟨⟨h1, h2⟩, h3⟩
    exact ⟨h3, (at_in hi h1 h2).1⟩
  · rintro ⟨h1, h2⟩
    obtain ⟨q, q1, q2, q3⟩ := lies_in hG.fst (jumps_lt hG.jm z h1)
    rw [getD_anyP q1 0 L.length] at q2
    have := (at_in q1 q2 q3).1
    have hq : q = i := by omega
    subst hq
    exact ⟨⟨q2, q3⟩, h1⟩
theorem tg_out {L : List (Nat × Nat)} {J : List Nat} {M : List (ByteArray × Nat)} (hG : FdG L J M) {i : Int} (hi : i < 0 ∨ ((bgs L).length : Int) ≤ i) : tgL L J i = [] := by
  rw [tgL, List.filter_eq_nil_iff]
  intro z hz
  obtain ⟨q, q1, q2, q3⟩ := lies_in hG.fst (jumps_lt hG.jm z hz)
  rw [getD_anyP q1 0 L.length] at q2
  have := (at_in q1 q2 q3).1
  simp only [beq_iff_eq]
  omega
end Go.Proofs.YtihnkeflcnndpaaDoor
