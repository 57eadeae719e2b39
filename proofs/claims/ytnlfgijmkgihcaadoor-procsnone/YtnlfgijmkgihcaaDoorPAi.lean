import Derived.Test.YtnlfgijmkgihcaaDoorPAu
namespace Go.Proofs.YtnlfgijmkgihcaaDoor
open Go.RowKit Go.WideShapes Go.Shelf
set_option maxRecDepth 100000
attribute [local go_sem] Oper.semAt_some run_store_funcP

theorem nileqNt (a b c : Nat) (w : World) : (Op.equal 53 (.func (.func 60) #[] #[.pointer (some ⟨a, 0, none⟩), .pointer (some ⟨b, 0, none⟩), .pointer (some ⟨c, 0, none⟩)]) .nilFunc).run Tryd.prog w = .ok false w := by
  have hu := run_underlying (P := Tryd.prog) (w := w) Tryd.underlying53
  unfold Op.equal
  obtain ⟨d, hd⟩ : ∃ d, Op.maxDepth = d + 1 := ⟨_, rfl⟩
  rw [hd, Op.equalIn]
  simp only [Sem.run_bind, hu, Result.andThen]
  rfl
@[local go_sem] theorem nilcmpNt (a b c : Nat) (w : World) : (binOp .eql 53 (.func (.func 60) #[] #[.pointer (some ⟨a, 0, none⟩), .pointer (some ⟨b, 0, none⟩), .pointer (some ⟨c, 0, none⟩)]) .nilFunc).run Tryd.prog w = .ok (.bool false) w := by
  have h := nileqNt a b c w
  have e : binOp .eql 53 (.func (.func 60) #[] #[.pointer (some ⟨a, 0, none⟩), .pointer (some ⟨b, 0, none⟩), .pointer (some ⟨c, 0, none⟩)]) .nilFunc = (do pure (.bool (← Op.equal 53 (.func (.func 60) #[] #[.pointer (some ⟨a, 0, none⟩), .pointer (some ⟨b, 0, none⟩), .pointer (some ⟨c, 0, none⟩)]) .nilFunc))) := rfl
  rw [e, Sem.run_bind, h]
  rfl
/-- what a set holds -/
theorem SetRI.all {w : World} {p g bound : Nat} {ws : List Nat} {n : Nat} (h : SetRI w p g bound ws n) : rng (hasW ws) 0 (64 * ws.length) = els bound (hasW ws) := by
  rw [rng_els]
  exact els_beyond (by have := h.len; omega) (fun y hy => h.hi y hy)
set_option maxHeartbeats 2000000 in
theorem allNt_any (p g bound n : Nat) (ws : List Nat) (ao : Option Addr) (cap : Nat) (lv : Int) (w : World) (hS : SetRI w p g bound ws n) (hr : RdNt w ao (els bound (hasW ws)) w.heap.size) (hT : TabW w) (hl0 : -9223372036854775808 ≤ lv) (hl1 : lv ≤ 9223372036854775807) :
    Calls Tryd.prog 30 #[.pointer (some ⟨p, 0, none⟩), .slice ao (els bound (hasW ws)).length cap, .int .i64 lv] w fun e w' => e = .returned (.bool true) ∧ Below w.heap.size w w' := by
  have hel := hS.all
  have hlen : (els bound (hasW ws)).length ≤ 1048576 := Nat.le_trans (els_le _ _) hS.bd
  have hwl : ws.length ≤ 16384 := by have := hS.len; have := hS.bd; omega
  have hp0 : 0 < w.heap.size := by have := hS.ltp; omega
  have HWF := hidS hS.wf
  have HSA : Hid (∀ W, Below w.heap.size w W → Calls Tryd.prog 19 #[.pointer (some ⟨p, 0, none⟩)] W fun en w' => ∃ (Bw Bf Be : Nat) (ao2 : Option Addr) (cap2 B0 : Nat), en = .returned (.func (.func 60) #[] #[.pointer (some ⟨Bw, 0, none⟩), .pointer (some ⟨Bf, 0, none⟩), .pointer (some ⟨Be, 0, none⟩)]) ∧
      InP ws Bw Bf Be ao2 cap2 0 (64 * ws.length) B0 w' ∧ B0 ≤ w'.heap.size ∧ W.heap.size ≤ Bw ∧ W.heap.size ≤ Bf ∧ W.heap.size ≤ Be ∧ (∀ b off, ao2 = some ⟨b, off, none⟩ → W.heap.size ≤ b) ∧ Below W.heap.size W w') := hidS (fun W hW => setallint_any p g bound n ws W (hS.kept (Kp.ofBelow (S := fun _ => False) hW) (fun h => h) (fun h => h)) (hT.below hW hp0))
  generalize els bound (hasW ws) = l at hr hel hlen ⊢
  clear hS hT
  refine (callsIn_wide (n := 30)).1 ?_
  refine callsIn_of_wp_marks Tryd.func30 rfl trivial ?_ rfl
  simp only [Tryd.ntmps30, List.size_toArray, List.length_cons, List.length_nil, Nat.reduceAdd, Nat.reduceSub, Array.replicate_succ, Array.replicate_zero, List.push_toArray, List.append_toArray, List.nil_append, List.cons_append]
  have HR := hidS hr
  clear hr
  gi_wp2_with (refine ⟨trivial, ?_⟩; first
    | (gi_at_call 19; refine (callsIn_wide.2 (HSA.out _ (belP (belP (Below.refl _ _))))).mono ?_; rintro e w1 ⟨Bw, Bf, Be, ao2, cap2, B0, rfl, hIn, hB0, q1, q2, q3, q4, hB1⟩; have bW1 : Boxed w1 w.heap.size 68 (.slice ao l.length cap) := (hB1.block _ (by rw [World.size_alloc, World.size_alloc]; omega)).trans ((Boxed.new w _ _).alloc _); have cW1 := bW1.cell; have bR1 : Boxed w1 (w.heap.size + 1) 4 (.bool false) := (hB1.block _ (by rw [World.size_alloc, World.size_alloc]; omega)).trans (by have := Boxed.new (w.alloc (Obj.cells #[.slice ao l.length cap] 68)) 4 (.bool false); rwa [World.size_alloc] at this))
    | (gi_at_call 23; refine (callsIn_wide.2 (pick_any lv ((l.length : Int) + 1) _ hl0 hl1 (by omega) (by omega))).mono ?_; rintro e w2 ⟨rfl, hw2⟩; subst hw2))
  rename World => w1
  obtain ⟨st, hst⟩ : ∃ st : Nat, lv % ((l.length : Int) + 1) = (st : Int) := ⟨(lv % ((l.length : Int) + 1)).toNat, (Int.toNat_of_nonneg (Int.emod_nonneg _ (by omega))).symm⟩
  have hsl : st ≤ l.length := by have := Int.emod_lt_of_pos lv (b := (l.length : Int) + 1) (by omega); omega
  simp only [hst]
  obtain ⟨W0, hW0⟩ : ∃ W0, (w1.alloc (Obj.cells #[.int .i64 st] 3)).alloc (Obj.cells #[.int .i64 0] 3) = W0 := ⟨_, rfl⟩
  have hz1 : w.heap.size + 2 ≤ w1.heap.size := by have := hB1.size; simp at this; omega
  have hz0 : W0.heap.size = w1.heap.size + 2 := by rw [← hW0]; simp
  have bW : Boxed W0 w.heap.size 68 (.slice ao l.length cap) := by rw [← hW0]; exact (bW1.alloc _).alloc _
  have bR : Boxed W0 (w.heap.size + 1) 4 (.bool false) := by rw [← hW0]; exact (bR1.alloc _).alloc _
  have bS : Boxed W0 w1.heap.size 3 (.int .i64 st) := by rw [← hW0]; exact (Boxed.new w1 _ _).alloc _
  have bN : Boxed W0 (w1.heap.size + 1) 3 (.int .i64 0) := by rw [← hW0]; have := Boxed.new (w1.alloc (Obj.cells #[.int .i64 st] 3)) 3 (.int .i64 0); rwa [World.size_alloc] at this
  have hBw1 : Below w.heap.size w w1 := btP (belP (belP (Below.refl _ _))) hB1
  have hBW : Below w.heap.size w W0 := by rw [← hW0]; exact belP (belP hBw1)
  have hB01 : Below w1.heap.size w1 W0 := by rw [← hW0]; exact belP (belP (Below.refl _ _))
  have hI0 : InP ws Bw Bf Be ao2 cap2 0 (64 * ws.length) B0 W0 := hIn.below hB01 hIn.bw.lt hIn.bf.lt hIn.be.lt hB0 (by omega)
  have lw1 := hIn.bw.lt; have lw2 := hIn.bf.lt; have lw3 := hIn.be.lt
  have HRD : Hid (∀ i, i < l.length → ∃ b off, ao = some ⟨b, off, none⟩ ∧ b < w.heap.size ∧ W0.cell? ⟨b, off + i, none⟩ = some (.int .i64 ((l.getD i 0 : Nat) : Int))) := hidS (fun i hi => by
    obtain ⟨b, off, e1, h1, h2⟩ := HR.out (by omega)
    exact ⟨b, off, e1, h1, (hBW.cell (p := ⟨b, off + i, none⟩) h1).trans (h2 i hi)⟩)
  rw [hW0]
  obtain ⟨kS, hkS⟩ : ∃ k, w1.heap.size = k := ⟨_, rfl⟩
  rw [hkS] at bS bN hz0 lw1 lw2 lw3 hz1 hB0 ⊢
  obtain ⟨kN, hkN⟩ : ∃ k, kS + 1 = k := ⟨_, rfl⟩
  rw [hkN] at bN ⊢
  have hSN : kS < kN := by omega
  have hN0 : kN < W0.heap.size := by omega
  have hwN : w.heap.size + 2 < kN := by omega
  have hBwN : Bw ≠ kN ∧ Bf ≠ kN ∧ Be ≠ kN := by omega
  have hB0N : B0 ≤ kN := by omega
  clear hst hW0 hkS hkN bW1 bR1 cW1 hIn hB1 hB01 hBw1 q1 q2 q3 q4 HR HSA hz0
  have HIP := hidS hI0
  have HKW : Hid (∀ V V', Agree W0 kN V' → KeP ws Bw Bf Be ao2 cap2 0 (64 * ws.length) B0 V V') := hidS (fun V V' hA _ => hA.inP HIP.out hBwN.1 hBwN.2.1 hBwN.2.2 hB0N (by omega))
  have HSQ : Hid (∀ (n : Nat) (V : World), 2 ≤ n → Agree W0 kN V → SeqOwn Fence.wide n Tryd.prog 60 #[.pointer (some ⟨Bw, 0, none⟩), .pointer (some ⟨Bf, 0, none⟩), .pointer (some ⟨Be, 0, none⟩)] encint (KeP ws Bw Bf Be ao2 cap2 0 (64 * ws.length) B0) (fun ys => ys = l) (fun pre => pre <+: l) 1048577 V) := hidS (fun n V h2 hA => by
    have := seqint n h2 Bw Bf Be B0 ao2 cap2 0 (64 * ws.length) ws V hwl HWF.out (Nat.zero_le _) (Nat.le_refl _) (hA.inP HIP.out hBwN.1 hBwN.2.1 hBwN.2.2 hB0N (by omega)) (by have := hA.1; omega) (by have := hA.1; omega)
    rw [hel] at this
    exact this)
  clear hI0
  refine with_tmps fun T hT => ?_
  have HT := hidS hT
  clear hT
  refine range_break (F := Fence.wide) (id := 0) rfl (by decide) (gf := 60) (lb := #[.pointer (some ⟨Bw, 0, none⟩), .pointer (some ⟨Bf, 0, none⟩), .pointer (some ⟨Be, 0, none⟩)]) (by rw [HT.out]; rfl) trivial (enters_of Tryd.func60 (by kernel_rfl) rfl)
    (HSQ.out (30 - 1) W0 (by decide) (Agree.refl _ _)) KeP_t (KeP_b (w := W0)) (Below.refl _ _) (fun _ => rfl)
    (fun pre U => Agree W0 kN U ∧ Boxed U kN 3 (.int .i64 pre.length) ∧ pre.length ≤ st ∧ Below w.heap.size w U)
    (fun pre U => Agree W0 kN U ∧ Boxed U kN 3 (.int .i64 st) ∧ Below w.heap.size w U)
    (fun s A C row h hg hr => ⟨h.1.step hg (fun r e => (hr r e).2), boxed_stepP h.2.1 hg (fun r e => (hr r e).2), h.2.2.1, ownFrom_below (β := Unit) (B := W0.heap.size) (Nat.le_refl _) (by omega) () A C row h.2.2.2 hg hr⟩)
    (fun s A C row h hg hr => ⟨h.1.step hg (fun r e => (hr r e).2), boxed_stepP h.2.1 hg (fun r e => (hr r e).2), ownFrom_below (β := Unit) (B := W0.heap.size) (Nat.le_refl _) (by omega) () A C row h.2.2 hg hr⟩)
    ⟨Agree.refl _ _, bN, Nat.zero_le _, hBW⟩
    (fun x a' U => a' = { tmps := ((((#[22] : Array Tmp).zip (encint x)).foldl (fun t (p, v) => t.setIfInBounds p v) T).setIfInBounds 10 (.int .i64 x)), defers := [] })
    (fun x a' => Own.from (fun t A C row h hg hr => h) _)
    ?assign ?body ?done
  case assign =>
    intro l0 pre x V K hI hK
    have HF := hidS (fun a' (ha : _) => hK a' V (Upon.refl _ V) (fun y => y) hI ha)
    clear hK hI
    rw [HT.out]
    gi_wp2
    exact HF.out _ (by rw [HT.out]; simp)
  case body =>
    rintro l0 pre x a' U hl hrec ⟨h1, h2, h4, h5⟩ rfl hln hsp
    have cS := (h1.box bS (Nat.ne_of_lt hSN)).cell
    by_cases hpe : pre.length = st
    · rw [hpe] at h2
      have cN := h2.cell
      clear hpe hln hl hrec
      rw [HT.out]
      gi_wp2
      exact ⟨Upon.refl _ _, rfl, h1, h2, h5⟩
    · have hx : l[pre.length]? = some x := by obtain ⟨t, ht⟩ := hsp; rw [← ht]; simp
      have hlt : pre.length < l.length := (List.getElem?_eq_some_iff.1 hx).1
      have hgx : l.getD pre.length 0 = x := by simp [List.getD, hx]
      obtain ⟨b, off, rfl, hb, hv⟩ := HRD.out _ hlt
      rw [hgx] at hv
      have vx := h1.cell hv (by show b ≠ kN; omega)
      have cN := h2.cell
      have fN := h2.frozen
      have cW := (h1.box bW (by omega)).cell
      have ltI : (pre.length : Int) < (l.length : Int) := Int.ofNat_lt.2 hlt
      have hd1 : decide (st < pre.length) = false := decide_eq_false (Nat.not_lt.2 h4)
      have hd2 : ¬ (st : Int) < (pre.length : Int) := fun e => Nat.not_lt.2 h4 (Int.ofNat_lt.1 e)
      have hw := wrap_smallP hln
      have hneI : ¬ (pre.length : Int) = (st : Int) := fun e => hpe (Int.ofNat_inj.1 e)
      have HL1 := hidS (show pre.length + 1 ≤ st from Nat.lt_of_le_of_ne h4 hpe)
      have H1 := hidS h1
      have H2 := hidS h2
      have H5 := hidS h5
      obtain ⟨k, hk⟩ : ∃ k : Nat, pre.length = k := ⟨_, rfl⟩
      have HK := hidS hk
      rw [hk] at cN vx ltI hd1 hd2 hw hneI H2
      clear hx hsp h1 h2 h5 hl hrec hln hgx hv hpe h4 hlt hk
      rw [HT.out]
      gi_wp2
      have hA2 := H1.out.set (.int .i64 ((k : Int) + 1))
      refine ⟨Upon.setCell _ _ _ (by show kN < W0.heap.size; omega), HKW.out _ _ hA2, hA2, ?_, by rw [List.length_append]; exact HL1.out, H5.out.setCell (by show w.heap.size ≤ kN; omega) _⟩
      rw [show ((pre ++ [x]).length : Int) = (k : Int) + 1 by simp [HK.out]]
      exact H2.out.set _
  case done =>
    rintro D1 pre U hD1 hor hK1
    obtain ⟨h1, h2, h5⟩ : Agree W0 kN U ∧ Boxed U kN 3 (.int .i64 st) ∧ Below w.heap.size w U := by
      rcases hor with ⟨rfl, q1, q2, q3, q4⟩ | ⟨_, q⟩
      · have : pre.length = st := by omega
        rw [this] at q2
        exact ⟨q1, q2, q4⟩
      · exact q
    have cN := h2.cell; have fN := h2.frozen
    have cS := (h1.box bS (Nat.ne_of_lt hSN)).cell
    clear hor
    rw [HT.out]
    gi_wp2
    have hA2 := h1.set (.int .i64 0)
    have bN2 := h2.set (.int .i64 0)
    have hB2 : Below w.heap.size w (U.setCell ⟨kN, 0, none⟩ (.int .i64 0)) := h5.setCell (by show w.heap.size ≤ kN; omega) _
    have hK2 : (U.setCell ⟨kN, 0, none⟩ (.int .i64 0)).heap[D1]? = some (.deferred (some [])) := (heap_setP (by omega)).trans hK1
    obtain ⟨W2, hW2⟩ : ∃ W2, U.setCell ⟨kN, 0, none⟩ (.int .i64 0) = W2 := ⟨_, rfl⟩
    rw [hW2] at hA2 bN2 hB2 hK2 ⊢
    have hzd : D1 < W2.heap.size := (Array.getElem?_eq_some_iff.1 hK2).1
    have hV2 : W0.heap.size ≤ W2.heap.size := hA2.1
    clear h1 h2 h5 hK1 cN fN cS hW2
    refine with_tmps fun T2 hT2 => ?_
    have HT2 := hidS hT2
    clear hT2
    refine range_break (F := Fence.wide) (id := 2) rfl (by decide) (gf := 60) (lb := #[.pointer (some ⟨Bw, 0, none⟩), .pointer (some ⟨Bf, 0, none⟩), .pointer (some ⟨Be, 0, none⟩)]) (by rw [HT2.out]; rfl) trivial (enters_of Tryd.func60 (by kernel_rfl) rfl)
      (HSQ.out (30 - 1) W2 (by decide) hA2) KeP_t (KeP_b (w := W2)) (Below.refl _ _) (fun _ => rfl)
      (fun pre U => Agree W0 kN U ∧ Boxed U kN 3 (.int .i64 pre.length) ∧ Below w.heap.size w U ∧ U.heap[D1]? = some (.deferred (some [])))
      (fun pre U => False)
      (fun s A C row h hg hr => ⟨h.1.step hg (fun r e => (hr r e).2), boxed_stepP h.2.1 hg (fun r e => (hr r e).2), ownFrom_below (β := Unit) (B := W2.heap.size) (Nat.le_refl _) (by omega) () A C row h.2.2.1 hg hr, low_kept h.2.2.2 hzd hg hr⟩)
      (fun s A C row h hg hr => h)
      ⟨hA2, bN2, hB2, hK2⟩
      (fun x a' U => a' = { tmps := ((((#[43] : Array Tmp).zip (encint x)).foldl (fun t (p, v) => t.setIfInBounds p v) T2).setIfInBounds 11 (.int .i64 x)), defers := [] })
      (fun x a' => Own.from (fun t A C row h hg hr => h) _)
      ?assign2 ?body2 ?done2
    case assign2 =>
      intro l0 pre x V K hI hK
      have HF := hidS (fun a' (ha : _) => hK a' V (Upon.refl _ V) (fun y => y) hI ha)
      clear hK hI
      rw [HT2.out]
      gi_wp2
      exact HF.out _ (by rw [HT2.out]; simp)
    case body2 =>
      rintro l0 pre x a' U hl hrec ⟨h1, h2, h5, h6⟩ rfl hln hsp
      have hx : l[pre.length]? = some x := by obtain ⟨t, ht⟩ := hsp; rw [← ht]; simp
      have hlt : pre.length < l.length := (List.getElem?_eq_some_iff.1 hx).1
      have hgx : l.getD pre.length 0 = x := by simp [List.getD, hx]
      obtain ⟨b, off, rfl, hb, hv⟩ := HRD.out _ hlt
      rw [hgx] at hv
      have vx := h1.cell hv (by show b ≠ kN; omega)
      have cN := h2.cell
      have fN := h2.frozen
      have cW := (h1.box bW (by omega)).cell
      have ltI : (pre.length : Int) < (l.length : Int) := Int.ofNat_lt.2 hlt
      have hd1 : decide (l.length ≤ pre.length) = false := decide_eq_false (Nat.not_le.2 hlt)
      have hd2 : ¬ (l.length : Int) ≤ (pre.length : Int) := fun e => Nat.not_le.2 hlt (Int.ofNat_le.1 e)
      have hw := wrap_smallP hln
      have H1 := hidS h1
      have H2 := hidS h2
      have H5 := hidS h5
      have H6 := hidS h6
      obtain ⟨k, hk⟩ : ∃ k : Nat, pre.length = k := ⟨_, rfl⟩
      have HK := hidS hk
      rw [hk] at cN vx ltI hd1 hd2 hw H2
      clear hx hsp h1 h2 h5 h6 hl hrec hln hgx hv hlt hk
      rw [HT2.out]
      gi_wp2
      have hA3 := H1.out.set (.int .i64 ((k : Int) + 1))
      refine ⟨Upon.setCell _ _ _ (by show kN < W2.heap.size; omega), HKW.out _ _ hA3, hA3, ?_, H5.out.setCell (by show w.heap.size ≤ kN; omega) _, (heap_setP (by omega)).trans H6.out⟩
      rw [show ((pre ++ [x]).length : Int) = (k : Int) + 1 by simp [HK.out]]
      exact H2.out.set _
    case done2 =>
      rintro D2 pre U hD2 hor hK3
      obtain ⟨h1, h2, h5, h6⟩ : Agree W0 kN U ∧ Boxed U kN 3 (.int .i64 l.length) ∧ Below w.heap.size w U ∧ U.heap[D1]? = some (.deferred (some [])) := by
        rcases hor with ⟨rfl, q1, q2, q3, q4⟩ | ⟨_, q⟩
        · exact ⟨q1, q2, q3, q4⟩
        · exact q.elim
      have cN := h2.cell
      have cW := (h1.box bW (by omega)).cell
      have br := h1.box bR (by omega)
      have cr := br.cell; have fr := br.frozen
      have HBR := hidS br
      have HBW := hidS h5
      have HD1 := hidS (show w.heap.size ≤ D1 by omega)
      have HD2 := hidS (show w.heap.size ≤ D2 by omega)
      have HN12 := hidS (show D1 ≠ D2 by omega)
      clear hor
      rw [HT2.out]
      gi_wp2
      have x2 := (KeepsOthers.setCell U ⟨w.heap.size + 1, 0, none⟩ (.bool true)).same D2 _ hK3 rfl
      have x1 := (KeepsOthers.setCell U ⟨w.heap.size + 1, 0, none⟩ (.bool true)).same D1 _ h6 rfl
      have bz := HBR.out.set (.bool true)
      have hz := HBW.out.setCell (p := ⟨w.heap.size + 1, 0, none⟩) (by show w.heap.size ≤ w.heap.size + 1; omega) (.bool true)
      obtain ⟨Z, hZ⟩ : ∃ Z, U.setCell ⟨w.heap.size + 1, 0, none⟩ (.bool true) = Z := ⟨_, rfl⟩
      rw [hZ] at x1 x2 bz hz ⊢
      have x1' : (Z.putObj D2 (.deferred none)).heap[D1]? = some (.deferred (some [])) := (World.putObj_heap_other HN12.out).trans x1
      have bz2 := boxed_stepP bz (grownBy_putObj' _ D2 (.deferred none)) (fun r e => by cases e; exact ⟨_, x2, rfl⟩)
      have bz3 := (boxed_stepP bz2 (grownBy_putObj' _ D1 (.deferred none)) (fun r e => by cases e; exact ⟨_, x1', rfl⟩)).cell
      have hz2 := hz.trans (belowK_b (w := w) (Nat.le_refl _) _ D2 _ (.deferred none) HD2.out x2 rfl rfl)
      have hz3 := hz2.trans (belowK_b (w := w) (Nat.le_refl _) _ D1 _ (.deferred none) HD1.out x1' rfl rfl)
      refine ⟨by simp, .inl ⟨_, _, rfl, run_takeDeferred x2, ?_⟩⟩
      refine ⟨by simp, .inl ⟨_, _, rfl, run_takeDeferred x1', ?_⟩⟩
      refine ⟨.bool true, ?_, rfl, hz3⟩
      simp [results, Tryd.f30, go_sem, bz3]
end Go.Proofs.YtnlfgijmkgihcaaDoor
