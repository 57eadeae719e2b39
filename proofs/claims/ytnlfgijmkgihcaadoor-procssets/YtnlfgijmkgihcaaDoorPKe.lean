import Derived.Test.YtnlfgijmkgihcaaDoorPTu
import Derived.Shelf.RegionOpen
namespace Go.Proofs.YtnlfgijmkgihcaaDoor
open Go.RowKit Go.WideShapes Go.Shelf
set_option maxRecDepth 100000
attribute [local go_sem] Oper.semAt_some run_store_funcP nilcmpWd

/-- the cells that stood stand, but those of S -/
def AgS (A : World) (S : Nat → Prop) (V : World) : Prop := A.heap.size ≤ V.heap.size ∧ ∀ j o, ¬ S j → A.heap[j]? = some o → o.isCells = true → V.heap[j]? = some o
theorem AgS.refl (A : World) (S : Nat → Prop) : AgS A S A := ⟨Nat.le_refl _, fun _ _ _ h _ => h⟩
theorem AgS.set {A V : World} {S : Nat → Prop} {k : Nat} (h : AgS A S V) (hk : S k) (v : Value) : AgS A S (V.setCell ⟨k, 0, none⟩ v) :=
  ⟨by simp; exact h.1, fun j o hj ho hc => (heap_setP (fun e => hj (by rw [e]; exact hk))).trans (h.2 j o hj ho hc)⟩
theorem AgS.kp {A V V' : World} {S S' : Nat → Prop} (h : AgS A S V) (hk : Kp S' V V') (hs : ∀ k, S' k → S k) : AgS A S V' :=
  ⟨Nat.le_trans h.1 hk.size, fun j o hj ho hc => by
    have h1 := h.2 j o hj ho hc
    exact (hk.block j (Array.getElem?_eq_some_iff.1 h1).1 (fun e => hj (hs j e))).trans h1⟩
theorem AgS.step {A V C : World} {S : Nat → Prop} {row : Option Nat} (h : AgS A S V) (hg : V.grownBy C row) (hr : ∀ r, row = some r → ∃ o : Obj, V.heap[r]? = some o ∧ o.isCells = false) : AgS A S C := by
  refine ⟨Nat.le_trans h.1 hg.size, fun j o hj ho hc => ?_⟩
  have h1 := h.2 j o hj ho hc
  refine (hg.block j (Array.getElem?_eq_some_iff.1 h1).1 (fun e => ?_)).trans h1
  obtain ⟨o2, h2, h3⟩ := hr j e.symm
  rw [h1] at h2
  cases h2
  rw [hc] at h3
  cases h3
theorem AgS.box {A V : World} {S : Nat → Prop} {b t : Nat} {v : Value} (h : AgS A S V) (hb : Boxed A b t v) (hk : ¬ S b) : Boxed V b t v := h.2 b _ hk hb rfl
theorem AgS.cell {A V : World} {S : Nat → Prop} {p : Addr} {v : Value} (h : AgS A S V) (hp : A.cell? p = some v) (hk : ¬ S p.block) : V.cell? p = some v := by
  cases ho : A.heap[p.block]? with
  | none => simp [World.cell?, ho] at hp
  | some o =>
    have hc : o.isCells = true := by cases o <;> simp_all [World.cell?, Obj.isCells]
    exact (World.cell?_of_block ((h.2 _ o hk ho hc).trans ho.symm)).trans hp
theorem AgS.inP {A V : World} {S : Nat → Prop} {ws : List Nat} {Bw Bf Be : Nat} {ao : Option Addr} {cap f e B0 : Nat} (h : AgS A S V) (hP : InP ws Bw Bf Be ao cap f e B0 A) (h1 : ¬ S Bw) (h2 : ¬ S Bf) (h3 : ¬ S Be) (h4 : ∀ b off, ao = some ⟨b, off, none⟩ → ¬ S b) (h5 : ¬ S 0) : InP ws Bw Bf Be ao cap f e B0 V :=
  ⟨h.box hP.bw h1, h.box hP.bf h2, h.box hP.be h3, fun hp => by
    obtain ⟨b, off, e1, hb, hc⟩ := hP.ws hp
    exact ⟨b, off, e1, hb, fun i hi => h.cell (hc i hi) (h4 b off e1)⟩, fun j hj => h.cell (hP.tab j hj) h5⟩
/-- a set's blocks hold no loop -/
theorem SetR.step {A C : World} {row : Option Nat} {p g bound n : Nat} {ws : List Nat} (h : SetR A p g bound ws n) (hg : A.grownBy C row) (hr : ∀ r, row = some r → ∃ o : Obj, A.heap[r]? = some o ∧ o.isCells = false) : SetR C p g bound ws n := by
  have hb : ∀ k cs t fr, A.heap[k]? = some (Obj.cells cs t fr) → C.heap[k]? = some (Obj.cells cs t fr) := fun k cs t fr hk => by
    refine (hg.block k (Array.getElem?_eq_some_iff.1 hk).1 (fun e => ?_)).trans hk
    obtain ⟨o, ho, hc⟩ := hr k e.symm
    rw [hk] at ho
    cases ho
    cases hc
  refine ⟨hb _ _ _ _ h.obj, ⟨h.row.1, ?_⟩, h.ne, h.len, h.bd, h.wf, h.hi⟩
  rcases h.row.2 with hn | ⟨g', cap, cur, e1, e2, e3, e4⟩
  · exact .inl hn
  · exact .inr ⟨g', cap, cur, e1, e2, hb _ _ _ _ e3, e4⟩
theorem els_fresh (n : Nat) (p : Nat → Bool) (k : Nat) (h : k < (els n p).length) : (els n p).getD k 0 ∉ (els n p).take k := by
  have h1 : (els n p).Nodup := List.nodup_range.filter _
  have h2 : ((els n p).take (k + 1)).Nodup := h1.sublist (List.take_sublist _ _)
  rw [take_snocN _ k h, List.nodup_append] at h2
  intro hm
  exact h2.2.2 _ hm _ (by simp) rfl
theorem Kp.drewP {S : Nat → Prop} {a b : World} (h : Kp S a b) : Kp S a b.drew := ⟨h.os, h.tape, h.output, h.size, h.block⟩
set_option maxHeartbeats 4000000 in
theorem keeps_any (p g bound : Nat) (ws : List Nat) (ao : Option Addr) (cap : Nat) (w : World) (hS : SetS w p g bound ws) (hr : RdWd w ao (els bound (hasW ws)) w.heap.size) (hrn : ∀ b off, ao = some ⟨b, off, none⟩ → b ≠ p ∧ b ≠ g) (hT : TabW w) (hp0 : p ≠ 0) (hg0 : g ≠ 0) :
    Calls Tryd.prog 25 #[.pointer (some ⟨p, 0, none⟩), .slice ao (els bound (hasW ws)).length cap, .int .i64 bound] w fun e w' => e = .returned (.bool true) ∧ (∃ ws', SetS w' p g bound ws' ∧ ∀ y, hasW ws' y = hasW ws y) ∧ Kp (fun k => k = p ∨ k = g) w w' := by
  have hel := hS.all
  have hbd := hS.bd
  have hmem : ∀ x, x ∈ els bound (hasW ws) ↔ hasW ws x = true := fun x => by
    rw [mem_els]
    exact ⟨fun h => h.2, fun h => ⟨hS.hi x h, h⟩⟩
  have hlen : (els bound (hasW ws)).length ≤ 1048576 := Nat.le_trans (els_le _ _) hS.bd
  have hwl : ws.length ≤ 16384 := by have := hS.len; have := hS.bd; omega
  have lp := hS.ltp
  have lg := hS.ltg
  have HWF := hidS hS.wf
  have HS := hidS hS
  have HSA : Hid (∀ W, Below w.heap.size w W → Calls Tryd.prog 51 #[.pointer (some ⟨p, 0, none⟩)] W fun en w' => ∃ (Bw Bf Be : Nat) (ao2 : Option Addr) (cap2 B0 : Nat), en = .returned (.func (.func 56) #[] #[.pointer (some ⟨Bw, 0, none⟩), .pointer (some ⟨Bf, 0, none⟩), .pointer (some ⟨Be, 0, none⟩)]) ∧
      InP ws Bw Bf Be ao2 cap2 0 (64 * ws.length) B0 w' ∧ B0 ≤ w'.heap.size ∧ W.heap.size ≤ Bw ∧ W.heap.size ≤ Bf ∧ W.heap.size ≤ Be ∧ (∀ b off, ao2 = some ⟨b, off, none⟩ → W.heap.size ≤ b) ∧ Below W.heap.size W w') := hidS (fun W hW => setalluint32_any p g bound _ ws W (hS.kept (Kp.ofBelow (S := fun _ => False) hW) (fun h => h) (fun h => h)) (hT.below hW (by omega)))
  refine (callsIn_wide (n := 30)).1 ?_
  refine callsIn_of_wp_marks Tryd.func25 rfl trivial ?_ rfl
  simp only [Tryd.ntmps25, List.size_toArray, List.length_cons, List.length_nil, Nat.reduceAdd, Nat.reduceSub, Array.replicate_succ, Array.replicate_zero, List.push_toArray, List.append_toArray, List.nil_append, List.cons_append]
  have HR := hidS hr
  clear hr hS
  generalize hl0 : els bound (hasW ws) = l at *
  have cP : (((w.alloc (Obj.cells #[.pointer (some ⟨p, 0, none⟩)] 25)).alloc (Obj.cells #[.slice ao l.length cap] 37)).alloc (Obj.cells #[.bool false] 4)).cell? ⟨w.heap.size, 0, none⟩ = some (.pointer (some ⟨p, 0, none⟩)) := (((Boxed.new w 25 (.pointer (some ⟨p, 0, none⟩))).alloc _).alloc _).cell
  gi_wp2_with (refine ⟨trivial, ?_⟩; first
    | (gi_at_call 51; refine (callsIn_wide.2 (HSA.out _ (belP (belP (belP (Below.refl _ _)))))).mono ?_; rintro e w1 ⟨Bw, Bf, Be, ao2, cap2, B0, rfl, hIn, hB0, q1, q2, q3, q4, hB1⟩))
  obtain ⟨W0, hW0⟩ : ∃ W0, w1.alloc (Obj.cells #[.int .i64 0] 3) = W0 := ⟨_, rfl⟩
  have hz1 : w.heap.size + 3 ≤ w1.heap.size := by have := hB1.size; simp at this; omega
  have hz0 : W0.heap.size = w1.heap.size + 1 := by rw [← hW0]; simp
  have hB10 : Below w1.heap.size w1 W0 := by rw [← hW0]; exact belP (Below.refl _ _)
  have bP : Boxed W0 w.heap.size 25 (.pointer (some ⟨p, 0, none⟩)) := (hB10.block _ (by omega)).trans ((hB1.block _ (by simp only [World.size_alloc]; omega)).trans (((Boxed.new w _ _).alloc _).alloc _))
  have bL : Boxed W0 (w.heap.size + 1) 37 (.slice ao l.length cap) := (hB10.block _ (by omega)).trans ((hB1.block _ (by simp only [World.size_alloc]; omega)).trans (by have := (Boxed.new (w.alloc (Obj.cells #[.pointer (some ⟨p, 0, none⟩)] 25)) 37 (.slice ao l.length cap)).alloc (Obj.cells #[.bool false] 4); rwa [World.size_alloc] at this))
  have bR : Boxed W0 (w.heap.size + 1 + 1) 4 (.bool false) := (hB10.block _ (by omega)).trans ((hB1.block _ (by simp only [World.size_alloc]; omega)).trans (by have := Boxed.new ((w.alloc (Obj.cells #[.pointer (some ⟨p, 0, none⟩)] 25)).alloc (Obj.cells #[.slice ao l.length cap] 37)) 4 (.bool false); rwa [World.size_alloc, World.size_alloc] at this))
  have bN : Boxed W0 w1.heap.size 3 (.int .i64 0) := by rw [← hW0]; exact Boxed.new w1 _ _
  have hBw1 : Below w.heap.size w w1 := btP (belP (belP (belP (Below.refl _ _)))) hB1
  have hBW : Below w.heap.size w W0 := btP hBw1 hB10
  have hI0 : InP ws Bw Bf Be ao2 cap2 0 (64 * ws.length) B0 W0 := hIn.below hB10 hIn.bw.lt hIn.bf.lt hIn.be.lt hB0 (by omega)
  have lw1 := hIn.bw.lt; have lw2 := hIn.bf.lt; have lw3 := hIn.be.lt
  have HSW : Hid (SetS W0 p g bound ws) := hidS (HS.out.kept (Kp.ofBelow (S := fun _ => False) hBW) (fun q => q) (fun q => q))
  have HRD : Hid (∀ i, i < l.length → ∃ b off, ao = some ⟨b, off, none⟩ ∧ b < w.heap.size ∧ W0.cell? ⟨b, off + i, none⟩ = some (.int .u32 ((l.getD i 0 : Nat) : Int))) := hidS (fun i hi => by
    obtain ⟨b, off, e1, h1, h2⟩ := HR.out (by omega)
    exact ⟨b, off, e1, h1, (hBW.cell (p := ⟨b, off + i, none⟩) h1).trans (h2 i hi)⟩)
  have hlow2 : ∀ b off, ao2 = some ⟨b, off, none⟩ → 0 < ws.length → w.heap.size + 3 ≤ b ∧ b < w1.heap.size := fun b off e hp => by
    have h1 := q4 b off e
    obtain ⟨b', off', e1, h2, _⟩ := hIn.ws hp
    rw [e] at e1
    cases e1
    simp at h1
    omega
  rw [hW0]
  obtain ⟨kN, hkN⟩ : ∃ k, w1.heap.size = k := ⟨_, rfl⟩
  simp only [World.size_alloc] at q1 q2 q3
  rw [hkN] at bN hz0 lw1 lw2 lw3 hz1 hlow2 ⊢
  have hN0 : kN < W0.heap.size := by omega
  have HB0 : Hid (B0 ≤ W0.heap.size) := hidS (by omega)
  clear hW0 hkN hIn hB1 hB10 hBw1 q4 HR HSA hz0 cP hB0
  have HIP := hidS hI0
  have hSw : ∀ k, (k = kN ∨ k = p ∨ k = g) → w.heap.size ≤ k ∨ k = p ∨ k = g := fun k e => by omega
  have HIN : Hid (∀ V, AgS W0 (fun k => k = kN ∨ k = p ∨ k = g) V → InP ws Bw Bf Be ao2 cap2 0 (64 * ws.length) B0 V) := hidS (fun V hA => by
    by_cases hp : 0 < ws.length
    · exact hA.inP HIP.out (by omega) (by omega) (by omega) (fun b off e => by have := hlow2 b off e hp; omega) (by omega)
    · exact ⟨hA.box HIP.out.bw (by omega), hA.box HIP.out.bf (by omega), hA.box HIP.out.be (by omega), fun q => absurd q hp, fun j hj => hA.cell (HIP.out.tab j hj) (by show ¬ (0 = kN ∨ 0 = p ∨ 0 = g); omega)⟩)
  have HSQ : Hid (∀ (n : Nat) (V : World), 2 ≤ n → AgS W0 (fun k => k = kN ∨ k = p ∨ k = g) V → SeqOwn Fence.wide n Tryd.prog 56 #[.pointer (some ⟨Bw, 0, none⟩), .pointer (some ⟨Bf, 0, none⟩), .pointer (some ⟨Be, 0, none⟩)] encuint32 (KeP ws Bw Bf Be ao2 cap2 0 (64 * ws.length) B0) (fun ys => ys = l) (fun pre => pre <+: l) 1048577 V) := hidS (fun n V h2 hA => by
    have := sequint32 n h2 Bw Bf Be B0 ao2 cap2 0 (64 * ws.length) ws V hwl HWF.out (Nat.zero_le _) (Nat.le_refl _) (HIN.out V hA) (by have := hA.1; have := HB0.out; omega) (by have := hA.1; omega)
    rw [hel] at this
    exact this)
  clear hI0 hlow2 hSw
  refine with_tmps fun T hT => ?_
  have HT := hidS hT
  clear hT
  refine range_break (F := Fence.wide) (id := 0) rfl (by decide) (gf := 56) (lb := #[.pointer (some ⟨Bw, 0, none⟩), .pointer (some ⟨Bf, 0, none⟩), .pointer (some ⟨Be, 0, none⟩)]) (by rw [HT.out]; rfl) trivial (enters_of Tryd.func56 (by kernel_rfl) rfl)
    (HSQ.out (30 - 1) W0 (by decide) (AgS.refl _ _)) KeP_t (KeP_b (w := W0)) (Below.refl _ _) (fun _ => rfl)
    (fun pre U => AgS W0 (fun k => k = kN ∨ k = p ∨ k = g) U ∧ Boxed U kN 3 (.int .i64 pre.length) ∧ Kp (fun k => k = p ∨ k = g) w U ∧ ∃ ws1, SetS U p g bound ws1 ∧ (pre = [] → ws1 = ws) ∧ (pre ≠ [] → ∀ y, hasW ws1 y = decide (y = 0)))
    (fun pre U => False)
    (fun s A C row h hg hr => ⟨h.1.step hg (fun r e => (hr r e).2), boxed_stepP h.2.1 hg (fun r e => (hr r e).2), h.2.2.1.trans (Kp.ofGrown (S := fun k => W0.heap.size ≤ k) hg (fun i e _ => (hr i e).1)) (fun i hi e => by omega), by obtain ⟨ws1, g1, g2⟩ := h.2.2.2; exact ⟨ws1, g1.step hg (fun r e => (hr r e).2), g2⟩⟩)
    (fun s A C row h hg hr => h)
    ⟨AgS.refl _ _, bN, Kp.ofBelow hBW, ws, HSW.out, fun _ => rfl, fun q => absurd rfl q⟩
    (fun x a' U => a' = { tmps := ((((#[17] : Array Tmp).zip (encuint32 x)).foldl (fun t (p, v) => t.setIfInBounds p v) T).setIfInBounds 9 (.int .u32 x)), defers := [] })
    (fun x a' => Own.from (fun t A C row h hg hr => h) _)
    ?assign ?body ?done
  case assign =>
    intro l0 pre x V K hI hK
    have HF := hidS (fun a' (ha : _) => hK a' V (Upon.refl _ V) (fun y => y) hI ha)
    clear hK hI
    rw [HT.out]
    gi_wp2
    exact HF.out _ (by rw [HT.out]; simp)
  case body =>
    rintro l0 pre x a' U hl hrec ⟨h1, h2, h4, ws1, h5, h6, h7⟩ rfl hln hsp
    have hx : l[pre.length]? = some x := by obtain ⟨t, ht⟩ := hsp; rw [← ht]; simp
    have hlt : pre.length < l.length := (List.getElem?_eq_some_iff.1 hx).1
    have hgx : l.getD pre.length 0 = x := by simp [List.getD, hx]
    obtain ⟨b, off, rfl, hb, hv⟩ := HRD.out _ hlt
    obtain ⟨nb1, nb2⟩ := hrn b off rfl
    rw [hgx] at hv
    have vx := h1.cell hv (by show ¬ (b = kN ∨ b = p ∨ b = g); omega)
    have cN := h2.cell
    have fN := h2.frozen
    have cL := (h1.box bL (by omega)).cell
    have ltI : (pre.length : Int) < (l.length : Int) := Int.ofNat_lt.2 hlt
    have hd1 : decide (l.length ≤ pre.length) = false := decide_eq_false (Nat.not_le.2 hlt)
    have hd2 : ¬ (l.length : Int) ≤ (pre.length : Int) := fun e => Nat.not_le.2 hlt (Int.ofNat_le.1 e)
    have hw := wrap_smallP hln
    by_cases hp0' : pre.length = 0
    · have hpn : pre = [] := List.length_eq_zero_iff.1 hp0'
      have hws := h6 hpn
      subst hws
      rw [hp0'] at cN vx ltI hd1 hd2 hw h2
      have lN := h2.lt
      have lpU : p < U.heap.size := h5.ltp
      have lgU : g < U.heap.size := h5.ltg
      have bPU := h1.box bP (by omega)
      have bLU := h1.box bL (by omega)
      have HVX : Hid (∀ i, i < l.length → U.cell? ⟨b, off + i, none⟩ = some (.int .u32 ((l.getD i 0 : Nat) : Int))) := hidS (fun i hi => by
        obtain ⟨b', off', e1, e2, e3⟩ := HRD.out i hi
        cases e1
        exact h1.cell e3 (by show ¬ (b = kN ∨ b = p ∨ b = g); omega))
      have lbU : b < U.heap.size := by have := h1.1; omega
      have H1 := hidS h1
      have H2 := hidS h2
      have H4 := hidS h4
      have H5 := hidS h5
      have HPN := hidS hpn
      have HLT := hidS hlt
      rw [hp0'] at HLT
      clear h1 h2 h4 h5 h6 h7 hl hrec hln hgx hv hlt hpn hp0' hx hsp
      have hz0 : ((0 : Nat) : Int) = 0 := rfl
      simp only [hz0, Nat.add_zero] at cN vx ltI hd1 hd2 hw
      have hne1 : ¬ l.length = 0 := Nat.ne_of_gt HLT.out
      have hne2 : ¬ l = [] := fun e => hne1 (by rw [e]; rfl)
      have hne3 : (l.length : Int) ≠ 0 := fun e => hne1 (Int.ofNat_eq_zero.1 e)
      have hne4 : decide (l.length = 0) = false := decide_eq_false hne1
      have hne5 : ¬ (l.length : Int) ≤ 0 := fun e => hne1 (Int.ofNat_eq_zero.1 (Int.le_antisymm e (Int.natCast_nonneg _)))
      clear hd1 hd2
      rw [HT.out]
      gi_wp2
      gi_loopw [10] (fun u wr => ∃ (k : Nat) (ws2 : List Nat), u = .int .i64 k ∧ k ≤ l.length ∧ Kp (fun j => j = p ∨ j = g) U wr ∧ SetS wr p g bound ws2 ∧ (∀ y, hasW ws2 y = (hasW ws1 y && !decide (y ∈ l.take k))))
        (fun u _ => l.length - (intOf u).toNat)
      case atStart => exact ⟨0, ws1, rfl, Nat.zero_le _, Kp.refl _ _, H5.out, fun y => by simp⟩
      case round =>
        obtain ⟨k, ws2, rfl, hk, hkp, hs2, hm2⟩ := hrel
        have cP2 := (hkp.cell (p := ⟨w.heap.size, 0, none⟩) bPU.lt (by show ¬ (w.heap.size = p ∨ w.heap.size = g); omega)).trans bPU.cell
        have cL2 := (hkp.cell (p := ⟨w.heap.size + 1, 0, none⟩) bLU.lt (by show ¬ (w.heap.size + 1 = p ∨ w.heap.size + 1 = g); omega)).trans bLU.cell
        have HKP := hidS hkp
        have HS2 := hidS hs2
        have HM2 := hidS hm2
        clear hm2
        by_cases hlt2 : k < l.length
        · have vk := (hkp.cell (p := ⟨b, off + k, none⟩) lbU (by show ¬ (b = p ∨ b = g); omega)).trans (HVX.out k hlt2)
          have hltI2 : (k : Int) < (l.length : Int) := Int.ofNat_lt.2 hlt2
          have hyl : l.getD k 0 < bound := by
            have hmm : l.getD k 0 ∈ l := by simp [List.getD, List.getElem?_eq_getElem hlt2]
            exact HS.out.hi _ ((hmem _).1 hmm)
          have HTK := hidS (take_snocN l k hlt2)
          generalize l.getD k 0 = z at vk hyl HTK
          have hAd := drop_any p g bound z ws2 wr.drew (by omega) ⟨hs2.obj, hs2.row, hs2.ne, hs2.len, hs2.bd, hs2.wf, hs2.hi⟩
          clear hkp hs2
          gi_wp2
          have hAc := calls_wideP (m := 27) (l0 := l0) ((callsIn_wide (n := 5)).2 hAd)
          gi_region_with (refine ⟨trivial, ?_⟩; gi_at_call 50; refine hAc.mono ?_; rintro e w5 ⟨rfl, hs5, hk5, hz5⟩)
          all_goals
            gi_wp2
            go_roundw
            case rel => exact ⟨k + 1, _, by go_num, by omega, (Kp.drewP HKP.out).trans hk5 (fun _ _ q => q), hs5, fun y => by
              rw [has_dropQ HS2.out.len hyl, HM2.out, HTK.out]
              cases hasW ws1 y <;> by_cases e1 : y ∈ l.take k <;> by_cases e2 : y = z <;> simp [e1, e2]⟩
            case measure => simp [intOf]; omega
        · have hke : k = l.length := by omega
          subst hke
          have hfree : ∀ y, hasW ws2 y = false := fun y => by
            rw [HM2.out, List.take_length]
            cases he : hasW ws1 y with
            | false => rfl
            | true => simp [(hmem y).2 he]
          have HFR := hidS hfree
          have hb0 : 0 < bound := by
            have h3 : l.getD 0 0 ∈ l := by simp [List.getD, List.getElem?_eq_getElem HLT.out]
            have := HS.out.hi _ ((hmem _).1 h3)
            omega
          have hA := add_any p g bound 0 ws2 wr (by decide) hs2
          rw [hfree 0, show (decide (0 < bound) && !false) = true by simp [hb0], show ((0 : Nat) : Int) = 0 from rfl] at hA
          have hAc := calls_wideP (m := 27) (l0 := l0) ((callsIn_wide (n := 5)).2 hA)
          have HPU := hidS (has_putQ (ws := ws2) (x := 0) hs2.len hb0)
          have HBN := hidS H2.out
          clear hA hfree
          gi_wp2_with (refine ⟨trivial, ?_⟩; gi_at_call 48; refine hAc.mono ?_; rintro e w6 ⟨rfl, hs6, hk6, hz6⟩; have hK6 : Kp (fun j => j = p ∨ j = g) U w6 := HKP.out.trans hk6 (fun _ _ q => q); have bN6 : Boxed w6 kN 3 (.int .i64 0) := (hK6.block kN lN (by omega)).trans H2.out; have cN6 := bN6.cell; have fN6 := bN6.frozen)
          have hA6 := (H1.out.kp hK6 (fun k e => .inr e)).set (k := kN) (.inl rfl) (.int .i64 1)
          have hup : Upon W0.heap.size U w6 := ⟨hK6.size, fun k hk1 hk2 => hK6.block k hk2 (by show ¬ (k = p ∨ k = g); omega)⟩
          refine ⟨hup.trans (Upon.setCell _ _ _ (by show kN < W0.heap.size; omega)), fun _ => HIN.out _ hA6, hA6, ?_, (H4.out.trans hK6 (fun _ _ q => q)).trans (Kp.setCell (S := fun j => j = kN) _ _ _ rfl) (fun i hi e => by omega), _, hs6.kept (Kp.setCell (S := fun j => j = kN) _ ⟨kN, 0, none⟩ _ rfl) (by omega) (by omega), fun e => by simp at e, fun _ y => ?_⟩
          · rw [HPN.out]
            exact bN6.set _
          · rw [HPU.out, HFR.out]
            simp
    · have hneI : ¬ (pre.length : Int) = 0 := fun e => hp0' (Int.ofNat_eq_zero.1 e)
      have hne : pre ≠ [] := fun e => hp0' (by rw [e]; rfl)
      have H1 := hidS h1
      have H2 := hidS h2
      have H4 := hidS h4
      have H5 := hidS h5
      have H7 := hidS (h7 hne)
      obtain ⟨k, hk⟩ : ∃ k : Nat, pre.length = k := ⟨_, rfl⟩
      have HK := hidS hk
      rw [hk] at cN vx ltI hd1 hd2 hw hneI H2
      clear hx hsp h1 h2 h4 h5 h6 h7 hl hrec hln hgx hv hlt hk hp0' hne
      rw [HT.out]
      gi_wp2
      have hA2 := H1.out.set (.inl rfl) (.int .i64 ((k : Int) + 1))
      refine ⟨Upon.setCell _ _ _ (by show kN < W0.heap.size; omega), fun _ => HIN.out _ hA2, hA2, ?_, H4.out.trans (Kp.setCell (S := fun j => j = kN) _ _ _ rfl) (fun i hi e => by omega), ws1, H5.out.kept (Kp.setCell (S := fun j => j = kN) _ ⟨kN, 0, none⟩ _ rfl) (by omega) (by omega), fun e => by simp at e, fun _ => H7.out⟩
      rw [show ((pre ++ [x]).length : Int) = (k : Int) + 1 by simp [HK.out]]
      exact H2.out.set _
  case done =>
    rintro D1 pre U hD1 hor hK1
    obtain ⟨h1, h2, h4, ws1, h5, h6, h7⟩ : AgS W0 (fun k => k = kN ∨ k = p ∨ k = g) U ∧ Boxed U kN 3 (.int .i64 l.length) ∧ Kp (fun k => k = p ∨ k = g) w U ∧ ∃ ws1, SetS U p g bound ws1 ∧ (l = [] → ws1 = ws) ∧ (l ≠ [] → ∀ y, hasW ws1 y = decide (y = 0)) := by
      rcases hor with ⟨rfl, q⟩ | ⟨_, q⟩
      · exact q
      · exact q.elim
    have cN := h2.cell
    have bPU := h1.box bP (by omega)
    have bLU := h1.box bL (by omega)
    have bRU := h1.box bR (by omega)
    have lpU : p < U.heap.size := h5.ltp
    have lgU : g < U.heap.size := h5.ltg
    have hzU := h1.1
    have HD1 : Hid (w.heap.size ≤ D1 ∧ D1 ≠ p ∧ D1 ≠ g ∧ D1 < U.heap.size) := hidS ⟨by omega, by omega, by omega, (Array.getElem?_eq_some_iff.1 hK1).1⟩
    have HK1 := hidS hK1
    have HALL : Hid (∀ V ws', AgS W0 (fun k => k = kN ∨ k = p ∨ k = g) V → SetS V p g bound ws' → (∀ y, hasW ws' y = hasW ws y) → Calls Tryd.prog 26 #[.pointer (some ⟨p, 0, none⟩), .slice ao l.length cap, .int .i64 (l.length : Int)] V fun e w' => e = .returned (.bool true) ∧ Below V.heap.size V w') := hidS (fun V ws' hA hs hm => by
      have e1 : els bound (hasW ws') = l := by rw [← hl0]; exact els_congr (fun y _ => hm y)
      have := allWd_any p g bound _ ws' ao cap (l.length : Int) V hs (by
        rw [e1]
        intro hp
        obtain ⟨b, off, e2, e3, e4⟩ := HRD.out 0 hp
        refine ⟨b, off, e2, by have := hA.1; omega, fun i hi => ?_⟩
        obtain ⟨b', off', e5, e6, e7⟩ := HRD.out i hi
        rw [e2] at e5
        cases e5
        obtain ⟨nb1, nb2⟩ := hrn b off e2
        exact hA.cell e7 (by show ¬ (b = kN ∨ b = p ∨ b = g); omega)) (fun j hj => (HIN.out V hA).tab j hj) (by omega) (by omega)
      rw [e1] at this
      exact this)
    have HEND : Hid (∀ V ws' Z, Kp (fun k => k = p ∨ k = g) U V → SetS V p g bound ws' → Below V.heap.size V Z → Z.heap[D1]? = some (.deferred (some [])) ∧ Boxed Z (w.heap.size + 1 + 1) 4 (.bool false) ∧ Kp (fun k => k = p ∨ k = g) w Z ∧ SetS Z p g bound ws') := hidS (fun V ws' Z hk hs hb => by
      have hD := (hk.block D1 HD1.out.2.2.2 (by show ¬ (D1 = p ∨ D1 = g); have := HD1.out; omega)).trans HK1.out
      have hbR : Boxed V (w.heap.size + 1 + 1) 4 (.bool false) := (hk.block _ bRU.lt (by show ¬ (w.heap.size + 1 + 1 = p ∨ w.heap.size + 1 + 1 = g); omega)).trans bRU
      exact ⟨(hb.block D1 (Array.getElem?_eq_some_iff.1 hD).1).trans hD, (hb.block _ hbR.lt).trans hbR, (h4.trans hk (fun _ _ q => q)).trans (Kp.ofBelow (S := fun k => k = p ∨ k = g) hb) (fun _ _ q => q), hs.kept (Kp.ofBelow (S := fun _ => False) hb) (fun q => q) (fun q => q)⟩)
    have HFIN : Hid (∀ ws' Z, Z.heap[D1]? = some (.deferred (some [])) → Boxed Z (w.heap.size + 1 + 1) 4 (.bool false) → Kp (fun k => k = p ∨ k = g) w Z → SetS Z p g bound ws' →
        (Z.setCell ⟨w.heap.size + 1 + 1, 0, none⟩ (.bool true)).heap[D1]? = some (.deferred (some [])) ∧
        ((Z.setCell ⟨w.heap.size + 1 + 1, 0, none⟩ (.bool true)).putObj D1 (.deferred none)).cell? ⟨w.heap.size + 1 + 1, 0, none⟩ = some (.bool true) ∧
        Kp (fun k => k = p ∨ k = g) w ((Z.setCell ⟨w.heap.size + 1 + 1, 0, none⟩ (.bool true)).putObj D1 (.deferred none)) ∧
        SetS ((Z.setCell ⟨w.heap.size + 1 + 1, 0, none⟩ (.bool true)).putObj D1 (.deferred none)) p g bound ws') := hidS (fun ws' Z hD hR hk hs => by
      have x1 := (KeepsOthers.setCell Z ⟨w.heap.size + 1 + 1, 0, none⟩ (.bool true)).same D1 _ hD rfl
      have bz := hR.set (.bool true)
      have bz2 := boxed_stepP bz (grownBy_putObj' _ D1 (.deferred none)) (fun r e => by cases e; exact ⟨_, x1, rfl⟩)
      have hs1 := hs.kept (Kp.setCell (S := fun j => j = w.heap.size + 1 + 1) Z ⟨w.heap.size + 1 + 1, 0, none⟩ (.bool true) rfl) (by omega) (by omega)
      have hk1 := hk.trans (Kp.setCell (S := fun j => j = w.heap.size + 1 + 1) Z ⟨w.heap.size + 1 + 1, 0, none⟩ (.bool true) rfl) (fun i hi e => by omega)
      have l1 := HD1.out.1
      exact ⟨x1, bz2.cell, hk1.trans (Kp.ofGrown (S := fun j => j = D1) (grownBy_putObj' _ D1 (.deferred none)) (fun i e _ => by cases e; rfl)) (fun i hi e => by omega), hs1.step (grownBy_putObj' _ D1 (.deferred none)) (fun r e => by cases e; exact ⟨_, x1, rfl⟩)⟩)
    have cP2 := bPU.cell
    have cL2 := bLU.cell
    clear hor hK1 HK1 HIN HSQ HIP
    by_cases hl00 : l.length = 0
    · have hln : l = [] := List.length_eq_zero_iff.1 hl00
      have hws := h6 hln
      subst hws
      have hAw := HALL.out U _ h1 h5 (fun _ => rfl)
      have hAc := (callsIn_wide (n := 29)).2 hAw
      have HG := hidS (fun Z hb => HEND.out U _ Z (Kp.refl _ _) h5 hb)
      rw [hl00] at cN cL2 hAc
      have hz0 : ((0 : Nat) : Int) = 0 := rfl
      simp only [hz0] at cN cL2 hAc
      clear h1 h2 h4 h5 h6 h7 bPU bLU bRU bP bL bR bN
      rw [HT.out]
      gi_wp2_with (refine ⟨trivial, ?_⟩; gi_at_call 26; refine hAc.mono ?_; rintro e w7 ⟨rfl, hb7⟩; obtain ⟨y1, y2, y3, y4⟩ := HG.out _ hb7; have cr := y2.cell; have fr := y2.frozen)
      obtain ⟨z1, z2, z3, z4⟩ := HFIN.out _ _ y1 y2 y3 y4
      refine ⟨by simp, .inl ⟨_, _, rfl, run_takeDeferred z1, ?_⟩⟩
      refine ⟨.bool true, ?_, rfl, ⟨_, z4, fun _ => rfl⟩, z3⟩
      simp [results, Tryd.f25, go_sem, z2]
    · have hlp : 0 < l.length := Nat.pos_of_ne_zero hl00
      have hne : l ≠ [] := fun e => hl00 (by rw [e]; rfl)
      have hm1 := h7 hne
      have hb0 : 0 < bound := by
        have h3 : l.getD 0 0 ∈ l := by simp [List.getD, List.getElem?_eq_getElem hlp]
        have := HS.out.hi _ ((hmem _).1 h3)
        omega
      have hone : (els bound (hasW ws1)).length = 1 := by
        have := els_put bound (fun _ => false) (hasW ws1) 0 (fun y => by rw [hm1 y]; rfl) rfl
        rw [this, if_pos hb0]
        simp [els]
      have hLn := len_any p g bound _ ws1 U h5
      rw [hone] at hLn
      have hLc := (callsIn_wide (n := 29)).2 hLn
      have hDr := drop_any p g bound 0 ws1 U (by decide) h5
      rw [hm1 0, show decide ((0 : Nat) = 0) = true from rfl, show ((0 : Nat) : Int) = 0 from rfl] at hDr
      have hDc := (callsIn_wide (n := 29)).2 hDr
      have HM3 : Hid (∀ y, hasW (dropW ws1 0) y = false) := hidS (fun y => by
        rw [has_dropQ h5.len hb0, hm1]
        by_cases e : y = 0 <;> simp [e])
      have gtI : ¬ (l.length : Int) ≤ 0 := fun e => hl00 (Int.ofNat_eq_zero.1 (Int.le_antisymm e (Int.natCast_nonneg _)))
      have gtI2 : (0 : Int) < (l.length : Int) := Int.ofNat_lt.2 hlp
      have H1 := hidS h1
      obtain ⟨b, off, rfl, hbw, hv0⟩ := HRD.out 0 hlp
      obtain ⟨nb1, nb2⟩ := hrn b off rfl
      have HVX : Hid (∀ i, i < l.length → U.cell? ⟨b, off + i, none⟩ = some (.int .u32 ((l.getD i 0 : Nat) : Int))) := hidS (fun i hi => by
        obtain ⟨b', off', e1, e2, e3⟩ := HRD.out i hi
        cases e1
        exact h1.cell e3 (by show ¬ (b = kN ∨ b = p ∨ b = g); omega))
      have lbU : b < U.heap.size := by omega
      have hne3 : (l.length : Int) ≠ 0 := fun e => hl00 (Int.ofNat_eq_zero.1 e)
      clear h1 h2 h4 h5 h6 h7 bRU bP bL bR bN hLn hDr hm1 hv0 hone
      rw [HT.out]
      gi_wp2_with (refine ⟨trivial, ?_⟩; first
        | (gi_at_call 27; refine hLc.mono ?_; rintro e w4 ⟨rfl, hw4⟩; have hw4 := hw4.symm; subst hw4)
        | (gi_at_call 50; refine hDc.mono ?_; rintro e w5 ⟨rfl, hs5, hk5, hz5⟩))
      have HS5 := hidS hs5
      have HK5 := hidS hk5
      have HFRS : Hid (∀ k, k < l.length → l.getD k 0 ∉ l.take k) := hidS (by rw [← hl0]; exact els_fresh bound (hasW ws))
      clear hs5 hk5 hLc hDc cN hne3
      gi_loopw [11] (fun u wr => ∃ (k : Nat) (ws2 : List Nat), u = .int .i64 k ∧ k ≤ l.length ∧ Kp (fun j => j = p ∨ j = g) U wr ∧ SetS wr p g bound ws2 ∧ (∀ y, hasW ws2 y = decide (y ∈ l.take k)))
        (fun u _ => l.length - (intOf u).toNat)
      case atStart => exact ⟨0, _, rfl, Nat.zero_le _, HK5.out, HS5.out, fun y => by rw [HM3.out]; simp⟩
      case round =>
        clear cP2 cL2
        obtain ⟨k, ws2, rfl, hk, hkp, hs2, hm2⟩ := hrel
        have cP2 := (hkp.cell (p := ⟨w.heap.size, 0, none⟩) bPU.lt (by show ¬ (w.heap.size = p ∨ w.heap.size = g); omega)).trans bPU.cell
        have cL2 := (hkp.cell (p := ⟨w.heap.size + 1, 0, none⟩) bLU.lt (by show ¬ (w.heap.size + 1 = p ∨ w.heap.size + 1 = g); omega)).trans bLU.cell
        have HKP := hidS hkp
        have HS2 := hidS hs2
        by_cases hlt2 : k < l.length
        · have vk := (hkp.cell (p := ⟨b, off + k, none⟩) lbU (by show ¬ (b = p ∨ b = g); omega)).trans (HVX.out k hlt2)
          have hltI2 : (k : Int) < (l.length : Int) := Int.ofNat_lt.2 hlt2
          have hyl : l.getD k 0 < bound := by
            have hmm : l.getD k 0 ∈ l := by simp [List.getD, List.getElem?_eq_getElem hlt2]
            exact HS.out.hi _ ((hmem _).1 hmm)
          have HTK := hidS (take_snocN l k hlt2)
          have hfr := HFRS.out k hlt2
          have HM2 := hidS hm2
          generalize l.getD k 0 = z at vk hyl HTK hfr
          have hAd := add_any p g bound z ws2 wr.drew (by omega) ⟨hs2.obj, hs2.row, hs2.ne, hs2.len, hs2.bd, hs2.wf, hs2.hi⟩
          rw [hm2 z, show (decide (z < bound) && !decide (z ∈ l.take k)) = true by simp [hyl, hfr]] at hAd
          clear hkp hs2 hm2 hfr
          gi_wp2
          refine wpIn_wide.2 ?_
          have HC5 : Hid (∀ V, Kp (fun j => j = p ∨ j = g) wr.drew V → V.cell? ⟨w.heap.size, 0, none⟩ = some (.pointer (some ⟨p, 0, none⟩)) ∧ V.cell? ⟨w.heap.size + 1, 0, none⟩ = some (.slice (some ⟨b, off, none⟩) l.length cap) ∧ V.cell? ⟨b, off + k, none⟩ = some (.int .u32 (z : Int))) := hidS (fun V hV =>
            ⟨(hV.cell (p := ⟨w.heap.size, 0, none⟩) (Nat.lt_of_lt_of_le bPU.lt HKP.out.size) (by show ¬ (w.heap.size = p ∨ w.heap.size = g); omega)).trans cP2,
             (hV.cell (p := ⟨w.heap.size + 1, 0, none⟩) (Nat.lt_of_lt_of_le bLU.lt HKP.out.size) (by show ¬ (w.heap.size + 1 = p ∨ w.heap.size + 1 = g); omega)).trans cL2,
             (hV.cell (p := ⟨b, off + k, none⟩) (Nat.lt_of_lt_of_le lbU HKP.out.size) (by show ¬ (b = p ∨ b = g); omega)).trans vk⟩)
          go_region_held3 (fun V => V.cell? ⟨w.heap.size, 0, none⟩ = some (.pointer (some ⟨p, 0, none⟩)) ∧ V.cell? ⟨w.heap.size + 1, 0, none⟩ = some (.slice (some ⟨b, off, none⟩) l.length cap) ∧ V.cell? ⟨b, off + k, none⟩ = some (.int .u32 (z : Int))) ((first | exact ⟨cP2, cL2, vk⟩ | exact HC5.out _ hk6)) (first
            | (go_at_call 48; refine hAd.mono ?_; rintro e w5' ⟨rfl, hs6, hk6, hz6⟩))
          all_goals
            gi_wp2
            go_roundw
            case rel => exact ⟨k + 1, _, by go_num, by omega, (Kp.drewP HKP.out).trans hk6 (fun _ _ q => q), hs6, fun y => by
              rw [has_putQ HS2.out.len hyl, HM2.out, HTK.out]
              by_cases e1 : y ∈ l.take k <;> by_cases e2 : y = z <;> simp [e1, e2]⟩
            case measure => simp [intOf]; omega
        · have hke : k = l.length := by omega
          subst hke
          have hmw : ∀ y, hasW ws2 y = hasW ws y := fun y => by
            rw [hm2, List.take_length]
            cases he : hasW ws y with
            | true => simp [(hmem y).2 he]
            | false => simp; intro q; rw [(hmem y).1 q] at he; cases he
          have HMW := hidS hmw
          have hAw := HALL.out wr _ (H1.out.kp hkp (fun k e => .inr e)) hs2 hmw
          have hAc := (callsIn_wide (n := 29)).2 hAw
          have HG := hidS (fun Z hb => HEND.out wr _ Z hkp hs2 hb)
          clear hmw hkp hs2 hm2 hAw
          gi_wp2_with (refine ⟨trivial, ?_⟩; gi_at_call 26; refine hAc.mono ?_; rintro e w7 ⟨rfl, hb7⟩; obtain ⟨y1, y2, y3, y4⟩ := HG.out _ hb7; have cr := y2.cell; have fr := y2.frozen)
          obtain ⟨z1, z2, z3, z4⟩ := HFIN.out _ _ y1 y2 y3 y4
          refine ⟨by simp, .inl ⟨_, _, rfl, run_takeDeferred z1, ?_⟩⟩
          refine ⟨.bool true, ?_, rfl, ⟨_, z4, HMW.out⟩, z3⟩
          simp [results, Tryd.f25, go_sem, z2]
end Go.Proofs.YtnlfgijmkgihcaaDoor
