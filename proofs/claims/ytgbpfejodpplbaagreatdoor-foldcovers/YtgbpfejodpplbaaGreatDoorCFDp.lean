import Derived.Test.YtgbpfejodpplbaaGreatDoorCFWk
import Derived.Test.YtgbpfejodpplbaaGreatDoorCFRp
import Derived.Test.YtgbpfejodpplbaaGreatDoorCPQb
namespace Go.Proofs.YtgbpfejodpplbaaGreatDoor
open Go.RowKit Go.WideShapes Go.Shelf
set_option maxRecDepth 100000
attribute [local go_sem] Oper.semAt_some

theorem bAt_mono {L : List (Nat × Nat)} {i j : Nat} (h : i ≤ j) : bAt L i ≤ bAt L j := by
  induction h with
  | refl => exact Nat.le_refl _
  | @step j _ ih =>
    refine Nat.le_trans ih ?_
    by_cases hj : j < (bgs L).length
    · exact Nat.le_of_lt (bAt_lt hj)
    · unfold bAt
      rw [getD_outP (by omega), getD_outP (i := j + 1) (by omega)]
      exact Nat.le_refl _
/-- depths that are told so far -/
structure DpK (L : List (Nat × Nat)) (J : List Nat) (D N : List Int) (p : Nat) : Prop where
  len : D.length = L.length
  nl : N.length = p
  fin : ∀ k, k < p → FinP L J k D (N.getD k 0)
  rest : ∀ i, bAt L p ≤ i → D.getD i (-1) = -1
theorem DpK.start (L : List (Nat × Nat)) (J : List Nat) : DpK L J (List.replicate L.length (-1)) [] 0 :=
  ⟨by simp, rfl, fun k hk => absurd hk (by simp), fun i _ => by
    rw [List.getD_eq_getElem?_getD, List.getElem?_replicate]
    split <;> rfl⟩
theorem DpK.new {L : List (Nat × Nat)} {J : List Nat} {M : List (ByteArray × Nat)} (hG : FdG L J M) {D E N : List Int} {p : Nat} {need : Int} (h : DpK L J D N p) (hp : p < (bgs L).length) (hl : E.length = L.length) (hout : ∀ i, ¬ (bAt L p ≤ i ∧ i < bAt L (p + 1)) → E.getD i (-1) = D.getD i (-1)) (hf : FinP L J p E need) : DpK L J E (N ++ [need]) (p + 1) := by
  refine ⟨hl, by simp [h.nl], fun k hk => ?_, fun i hi => ?_⟩
  · by_cases he : k < p
    · rw [List.getD_eq_getElem?_getD, List.getElem?_append_left (by rw [h.nl]; exact he), ← List.getD_eq_getElem?_getD]
      refine (h.fin k he).congr hG (by omega) (fun i h1 h2 => hout i (fun q => ?_))
      have := bAt_mono (L := L) (i := k + 1) (j := p) he
      omega
    · have hkp : k = p := by omega
      rw [hkp, List.getD_eq_getElem?_getD, List.getElem?_append_right (by rw [h.nl]; exact Nat.le_refl _), h.nl]
      simpa using hf
  · have := bAt_mono (L := L) (i := p) (j := p + 1) (by omega)
    rw [hout i (fun q => by omega)]
    exact h.rest i (by omega)
/-- what depths leaves -/
def DtP (w : World) (L : List (Nat × Nat)) (J : List Nat) (e : Ending) (w' : World) : Prop :=
  Below w.heap.size w w' ∧ ((∃ i x : Nat, e = .returned (.tuple #[.slice none 0 0, .slice none 0 0, .int .i64 i, .int .i64 x]) ∧ (x = 140 ∨ x = 141 ∨ x = 142 ∨ x = 143) ∧ FltK L J i x) ∨
    (∃ (gd cp : Nat) (nv : Value) (D N : List Int), e = .returned (.tuple #[.slice (some ⟨gd, 0, none⟩) D.length cp, nv, .int .i64 0, .int .i64 0]) ∧ DpW w' w.heap.size gd cp D ∧ w'.ownsRow w.heap.size 3 1 nv N.length (N.map fun z => Value.int .i64 z) ∧ DpK L J D N (bgs L).length))
/-- what abides from procedure to procedure -/
def DtI (L : List (Nat × Nat)) (J : List Nat) (w w3 : World) (gd kn : Nat) (pre : List Nat) (U : World) : Prop :=
  Kp (fun i => i = gd ∨ i = kn) w3 U ∧ ∃ (D N : List Int) (nv : Value), DpW U w.heap.size gd L.length D ∧ DpK L J D N pre.length ∧ Boxed U kn 52 nv ∧ U.ownsRow w3.heap.size 3 1 nv pre.length (N.map fun z => Value.int .i64 z)
theorem DtI.step {L : List (Nat × Nat)} {J : List Nat} {w w3 : World} {gd kn : Nat} {pre : List Nat} {A C : World} {row : Option Nat} (h : DtI L J w w3 gd kn pre A) (hg : A.grownBy C row) (hr : ∀ r, row = some r → w3.heap.size ≤ r ∧ ∃ o : Obj, A.heap[r]? = some o ∧ o.isCells = false) : DtI L J w w3 gd kn pre C := by
  obtain ⟨h1, D, N, nv, h2, h3, h4, h5⟩ := h
  have hk : Kp (fun k => row = some k) A C := Kp.ofGrown hg (fun i e _ => e)
  have no : ∀ b cs t fr, A.heap[b]? = some (.cells cs t fr) → ¬ row = some b := fun b cs t fr hb e => by
    obtain ⟨_, o, ho, hc⟩ := hr b e
    rw [hb] at ho
    cases ho
    cases hc
  obtain ⟨cur, ho⟩ := DpW.obj h2
  refine ⟨h1.trans hk (fun i hi e => by have := (hr i e).1; omega), D, N, nv, hk.own h2 (fun k e => by cases e; exact no _ _ _ _ ho), h3, (hk.block kn h4.lt (no _ _ _ _ h4)).trans h4, hk.own h5 (fun k e q => ?_)⟩
  rcases h5.2 with hn | ⟨g', cap', cur', e1, e2, e3, e4⟩
  · rw [hn.1] at e
    cases e
  · rw [e1] at e
    cases e
    exact no _ _ _ _ e3 q
/-- how the range is left early -/
def DtX (L : List (Nat × Nat)) (J : List Nat) (w : World) (r1 : Nat) (c : Code) (U : World) : Prop :=
  c = .ret ∧ Below w.heap.size w U ∧ ∃ i x : Nat, Boxed U r1 52 (.slice none 0 0) ∧ Boxed U (r1 + 1) 52 (.slice none 0 0) ∧ Boxed U (r1 + 1 + 1) 3 (.int .i64 i) ∧ Boxed U (r1 + 1 + 1 + 1) 30 (.int .i64 x) ∧ (x = 140 ∨ x = 141 ∨ x = 142 ∨ x = 143) ∧ FltK L J i x
theorem DtX.step {L : List (Nat × Nat)} {J : List Nat} {w : World} {r1 : Nat} {c : Code} {A C : World} {row : Option Nat} (h : DtX L J w r1 c A) (hg : A.grownBy C row) (hr : ∀ r, row = some r → w.heap.size ≤ r ∧ ∃ o : Obj, A.heap[r]? = some o ∧ o.isCells = false) : DtX L J w r1 c C := by
  obtain ⟨h0, h1, i, x, b1, b2, b3, b4, h2⟩ := h
  exact ⟨h0, h1.grown hg h1.size (fun k e => (hr k e).1), i, x, boxed_stepP b1 hg (fun r q => (hr r q).2), boxed_stepP b2 hg (fun r q => (hr r q).2), boxed_stepP b3 hg (fun r q => (hr r q).2), boxed_stepP b4 hg (fun r q => (hr r q).2), h2⟩
theorem rpL_full (n : Nat) : rpL n n = (List.replicate n (-1 : Int)).map fun z => Value.int .i64 z := by simp [rpL]
theorem alloc6 (w : World) (o1 o2 o3 o4 o5 o6 : Obj) : let W := (((((w.alloc o1).alloc o2).alloc o3).alloc o4).alloc o5).alloc o6
    W.heap[w.heap.size]? = some o1 ∧ W.heap[w.heap.size + 1]? = some o2 ∧ W.heap[w.heap.size + 1 + 1]? = some o3 ∧ W.heap[w.heap.size + 1 + 1 + 1]? = some o4 ∧ W.heap[w.heap.size + 1 + 1 + 1 + 1]? = some o5 ∧ W.heap[w.heap.size + 1 + 1 + 1 + 1 + 1]? = some o6 ∧ W.heap.size = w.heap.size + 6 ∧ Below w.heap.size w W := by
  have a1 := heap_alloc_new w o1
  have a2 := heap_alloc_new (w.alloc o1) o2
  have a3 := heap_alloc_new ((w.alloc o1).alloc o2) o3
  have a4 := heap_alloc_new (((w.alloc o1).alloc o2).alloc o3) o4
  have a5 := heap_alloc_new ((((w.alloc o1).alloc o2).alloc o3).alloc o4) o5
  have a6 := heap_alloc_new (((((w.alloc o1).alloc o2).alloc o3).alloc o4).alloc o5) o6
  simp only [World.size_alloc] at a2 a3 a4 a5 a6
  have up : ∀ (V : World) (o : Obj) (k : Nat) (q : Obj), V.heap[k]? = some q → (V.alloc o).heap[k]? = some q := fun V o k q h => (Below.heap_alloc V o k (Array.getElem?_eq_some_iff.1 h).1).trans h
  exact ⟨up _ _ _ _ (up _ _ _ _ (up _ _ _ _ (up _ _ _ _ (up _ _ _ _ a1)))), up _ _ _ _ (up _ _ _ _ (up _ _ _ _ (up _ _ _ _ a2))), up _ _ _ _ (up _ _ _ _ (up _ _ _ _ a3)), up _ _ _ _ (up _ _ _ _ a4), up _ _ _ _ a5, a6, by simp, belP (belP (belP (belP (belP (belP (Below.refl _ _)))))) ⟩
set_option maxHeartbeats 4000000 in
theorem depths_any {w : World} {kc pp : Nat} {ta : Option Addr} {tc : Nat} {ao : Option Addr} {cap : Nat} {L : List (Nat × Nat)} {J : List Nat} {M : List (ByteArray × Nat)} (hC : ChS w kc pp ta tc ao cap L J) (hG : FdG L J M) (hop : ∀ i, i < L.length → opL L i < 256) :
    Calls Tryz.prog 29 #[.pointer (some ⟨kc, 0, none⟩)] w (DtP w L J) := by
  have hl := encX_len hG.enc
  have hpos : 0 < L.length := by
    have := bgs_pos hG.fst
    have := bgs_lt (L := L) (i := 0) this
    omega
  have hml : (bgs L).length ≤ 16384 := Nat.le_trans (els_le _ _) hl
  obtain ⟨B, p1, g1, p2, g2, lv, A, C, hP⟩ := hC.prs
  obtain ⟨al, capl, rfl, hrd⟩ := hP.reads
  have HCb : Hid (∀ W, Below w.heap.size w W → W.cell? ⟨kc, 0, none⟩ = some (.slice ao L.length cap) ∧ W.cell? ⟨kc, 1, none⟩ = some (.pointer (some ⟨pp, 0, none⟩))) := hidS (fun W hW => ⟨(hC.below hW).c0, (hC.below hW).c1⟩)
  have HA : Hid (∀ W, Below w.heap.size w W → CallsIn Fence.wide 29 Tryz.prog 35 #[.pointer (some ⟨pp, 0, none⟩)] W fun e w' => e = .returned (.func (.func 57) #[] #[.pointer (some ⟨W.heap.size, 0, none⟩)]) ∧ w' = W.alloc (.cells #[.slice al (prL L).length capl] 55)) := hidS (fun W hW => callsIn_wide.2 (pall_any pp (prL L).length capl al W (hP.below hW).c0 (hP.below hW).c1))
  have HRp : Hid (∀ (W : World) (q : Nat), W.heap[q]? = some (.cells #[.int .i64 (-1)] 3 (0, 0)) → CallsIn Fence.wide 29 Tryz.prog 53 #[.slice (some ⟨q, 0, none⟩) 1 1, .int .i64 (L.length : Nat)] W fun e w' => e = .returned (.slice (some ⟨W.heap.size, 0, none⟩) L.length L.length) ∧ w'.heap[W.heap.size]? = some (.cells (rpL L.length L.length).toArray 3 (0, 0)) ∧ Below W.heap.size W w') := hidS (fun W q ho => callsIn_wide.2 (repeat_any q L.length W hpos hl ho))
  have HH := hidS (And.intro hC (And.intro hP hrd))
  refine (callsIn_wide (n := 30)).1 ?_
  refine callsIn_of_wp_marks Tryz.func29 rfl trivial ?_ rfl
  simp only [Tryz.ntmps29, List.size_toArray, List.length_cons, List.length_nil, Nat.reduceAdd, Nat.reduceSub, Array.replicate_succ, Array.replicate_zero, List.push_toArray, List.append_toArray, List.nil_append, List.cons_append]
  clear hC hP hrd
  obtain ⟨W6, hW6⟩ : ∃ W, (((((w.alloc (Obj.cells #[.pointer (some ⟨kc, 0, none⟩)] 81)).alloc (Obj.cells #[.slice none 0 0] 52)).alloc (Obj.cells #[.slice none 0 0] 52)).alloc (Obj.cells #[.int .i64 0] 3)).alloc (Obj.cells #[.int .i64 0] 30)).alloc (Obj.cells #[.int .i64 (-1)] 3) = W := ⟨_, rfl⟩
  obtain ⟨a1, a2, a3, a4, a5, a6, hz6, hb6⟩ := alloc6 w (Obj.cells #[.pointer (some ⟨kc, 0, none⟩)] 81) (Obj.cells #[.slice none 0 0] 52) (Obj.cells #[.slice none 0 0] 52) (Obj.cells #[.int .i64 0] 3) (Obj.cells #[.int .i64 0] 30) (Obj.cells #[.int .i64 (-1)] 3)
  simp only [hW6] at a1 a2 a3 a4 a5 a6 hz6 hb6
  have k0 := (HCb.out W6 hb6).1
  have kb := (obj_cell a1 0).trans rfl
  have HR6 := HRp.out W6 (w.heap.size + 1 + 1 + 1 + 1 + 1) a6
  gi_wp2_with ((first | refine ⟨trivial, fun _ => by omega, ?_⟩ | refine ⟨trivial, ?_⟩); gi_at_call 53; refine HR6.mono ?_; rintro en w7 ⟨rfl, ho7, hb7⟩; have kb8 : ∀ o o', ((w7.alloc o).alloc o').cell? ⟨w.heap.size, 0, none⟩ = some (.pointer (some ⟨kc, 0, none⟩)) := (fun o o' => (obj_cell (heap_thru (btP hb7 (belP (belP (Below.refl _ _)))) a1) 0).trans rfl); have k18 : ∀ o o', ((w7.alloc o).alloc o').cell? ⟨kc, 1, none⟩ = some (.pointer (some ⟨pp, 0, none⟩)) := (fun o o' => (HCb.out _ (btP hb6 (btP hb7 (belP (belP (Below.refl _ _)))))).2))
  refine ⟨trivial, (HA.out _ (btP hb6 (btP hb7 (belP (belP (Below.refl _ _)))))).mono ?_⟩
  rintro en w8 ⟨rfl, hw8⟩
  have hb78 : Below w7.heap.size w7 w8 := by rw [hw8]; exact belP (belP (belP (Below.refl _ _)))
  have hb8 := btP hb6 (btP hb7 hb78)
  obtain ⟨kq, hkq⟩ : ∃ k, w7.heap.size = k := ⟨_, rfl⟩
  have hz8 : w8.heap.size = kq + 3 := by rw [hw8, ← hkq]; simp only [World.size_alloc]
  have od8 : Boxed w8 kq 52 (.slice (some ⟨w.heap.size + 6, 0, none⟩) L.length L.length) := by
    rw [hw8, ← hkq]
    exact ((Boxed.new w7 52 (.slice (some ⟨w.heap.size + 6, 0, none⟩) L.length L.length)).alloc _).alloc _
  have on8 : Boxed w8 (kq + 1) 52 (.slice none 0 0) := by
    have := (Boxed.new (w7.alloc (Obj.cells #[.slice (some ⟨w.heap.size + 6, 0, none⟩) L.length L.length] 52)) 52 (.slice none 0 0)).alloc (Obj.cells #[.slice al (prL L).length capl] 55)
    rw [World.size_alloc, hkq] at this
    rw [hw8]
    exact this
  have ol8 : Boxed w8 (kq + 1 + 1) 55 (.slice al (prL L).length capl) := by
    have := Boxed.new ((w7.alloc (Obj.cells #[.slice (some ⟨w.heap.size + 6, 0, none⟩) L.length L.length] 52)).alloc (Obj.cells #[.slice none 0 0] 52)) 55 (.slice al (prL L).length capl)
    rw [World.size_alloc, World.size_alloc, hkq] at this
    rw [hw8]
    exact this
  have hz7 : w.heap.size + 7 ≤ kq := by
    have h1 := (Array.getElem?_eq_some_iff.1 ho7).1
    rw [hz6] at h1
    omega
  rw [hz6] at ho7
  have hd8 : DpW w8 w.heap.size (w.heap.size + 6) L.length (List.replicate L.length (-1)) := by
    have h1 := heap_thru hb78 ho7
    refine ⟨by simp, .inr ⟨w.heap.size + 6, L.length, _, by simp, by omega, h1, by simp, by unfold maxLen; omega, by simp [rpL], ?_⟩⟩
    rw [rpL_full]
    simp
  have b1 : Boxed w8 (w.heap.size + 1) 52 (.slice none 0 0) := heap_thru (btP hb7 hb78) a2
  have b2 : Boxed w8 (w.heap.size + 1 + 1) 52 (.slice none 0 0) := heap_thru (btP hb7 hb78) a3
  have b3 : Boxed w8 (w.heap.size + 1 + 1 + 1) 3 (.int .i64 0) := heap_thru (btP hb7 hb78) a4
  have b4 : Boxed w8 (w.heap.size + 1 + 1 + 1 + 1) 30 (.int .i64 0) := heap_thru (btP hb7 hb78) a5
  have b0 : Boxed w8 w.heap.size 81 (.pointer (some ⟨kc, 0, none⟩)) := heap_thru (btP hb7 hb78) a1
  have HW8 := hidS (And.intro b1 (And.intro b2 (And.intro b3 b4)))
  clear hb78 kb8 k18 k0 kb HR6 a1 a2 a3 a4 a5 a6 hW6 hb7 ho7 hw8 HA HRp b1 b2 b3 b4
  gi_wp2_with fail
  have HPl : Hid ((prL L).length = (bgs L).length) := hidS (prs_len _ _)
  have HIN : Hid (∀ V, Kp (fun i => i = w.heap.size + 6 ∨ i = kq + 1) w8 V → InA (prL L) (kq + 1 + 1) al capl w.heap.size V ∧ Below w.heap.size w V) := hidS (fun V hk => by
    have hbV : Below w.heap.size w V := hb8.trans (hk.below hb8.size (fun i e => by omega))
    exact ⟨⟨(hk.block _ ol8.lt (by show ¬ (_ ∨ _); omega)).trans ol8, HH.out.2.2.below hbV⟩, hbV⟩)
  refine with_tmpsP fun T hT => ?_
  have HT := hidS hT
  clear hT
  refine range_outer (F := Fence.wide) rfl (by decide) (gf := 57) (lb := #[.pointer (some ⟨kq + 1 + 1, 0, none⟩)]) (by rw [HT.out]; rfl) trivial (enters_of Tryz.func57 (by kernel_rfl) rfl)
    (seqA (30 - 1) (by decide) (kq + 1 + 1) w.heap.size al capl (prL L) w8 (by rw [HPl.out]; exact hml) (HIN.out w8 (Kp.refl _ _)).1 (by omega)) KeA_t (KeA_b (w := w8)) (Below.refl _ _) (fun _ => rfl)
    (DtI L J w w8 (w.heap.size + 6) (kq + 1))
    (fun c _ U => DtX L J w (w.heap.size + 1) c U)
    (fun s A C row h hg hr => h.step hg hr)
    (fun c s A C row h hg hr => h.step hg (fun r e => ⟨by have := (hr r e).1; omega, (hr r e).2⟩))
    ⟨Kp.refl _ _, List.replicate L.length (-1), [], .slice none 0 0, hd8, DpK.start L J, on8, World.ownsRow_nil _ _ _ _⟩
    (fun x a' U => ∃ kp, w8.heap.size ≤ kp ∧ a' = { tmps := ((((#[25, 26] : Array Tmp).zip (encP (prL L) x)).foldl (fun t (p, v) => t.setIfInBounds p v) T).setIfInBounds 9 (.pointer (some ⟨kp, 0, none⟩))), defers := [] } ∧ U.heap[kp]? = some (.cells #[.int .u32 (((prL L).getD x (0, 0, 0)).1 : Nat), .int .u32 (((prL L).getD x (0, 0, 0)).2.1 : Nat), .int .u32 (((prL L).getD x (0, 0, 0)).2.2 : Nat), .int .i64 0] 94 (0, 0)))
    (fun x a' s A C row h hg hr => by
      obtain ⟨kp, h1, h2, h3⟩ := h
      exact ⟨kp, h1, h2, cells_kept h3 hg (fun r e => (hr r e).2)⟩)
    ?assign ?body ?done ?stop
  case assign =>
    intro l0 pre x V K hI hK
    have HF := hidS (fun kp W' (a : Act) e1 e2 e3 (h1 : w8.heap.size ≤ kp) h2 h3 => hK a W' e1 e2 e3 ⟨kp, h1, h2, h3⟩)
    clear hK
    obtain ⟨pb, pe, pf, hq⟩ : ∃ pb pe pf, (prL L).getD x (0, 0, 0) = (pb, pe, pf) := ⟨_, _, _, rfl⟩
    simp only [encP, hq] at HF ⊢
    rw [HT.out] at HF ⊢
    have HII := hidS (And.intro (hI.step (World.grownBy_alloc V (Obj.cells #[.int .u32 (pb : Int), .int .u32 (pe : Int), .int .u32 (pf : Int), .int .i64 0] 94) none) (fun r e => by cases e)) hI.1.size)
    clear hI
    gi_wp2
    exact HF.out V.heap.size _ _ (Upon.alloc _ _ _) (fun h => h.step (World.grownBy_alloc _ _ none) (fun r e => by cases e)) HII.out.1 HII.out.2 (by simp) (heap_alloc_new V _)
  case body =>
    rintro l0 pre x a' U hl0 hrec ⟨h1, D, N, nv, h2, h3, h4, h5⟩ ⟨kp, hkp, rfl, hobj⟩ hln hsp
    obtain ⟨hxp, hxm⟩ := range_at hsp
    subst hxp
    have hxb : pre.length < (bgs L).length := by rw [← HPl.out]; exact hxm
    have hbU := (HIN.out U h1).2
    have hwk := walk_any HH.out.1 hG hop pre.length (w.heap.size + 6) L.length D U hxb hbU h2 h3.len (fun i q1 q2 => h3.rest i q1)
    rw [h3.len] at hwk
    have hpe := prL_get L hxb
    simp only [encP, hpe] at hobj ⊢
    have c0 := (obj_cell hobj 0).trans rfl
    have cb : U.cell? ⟨w.heap.size, 0, none⟩ = some (.pointer (some ⟨kc, 0, none⟩)) := (h1.cell (p := ⟨w.heap.size, 0, none⟩) b0.lt (by show ¬ (w.heap.size = w.heap.size + 6 ∨ w.heap.size = kq + 1); omega)).trans b0.cell
    have cd : U.cell? ⟨kq, 0, none⟩ = some (.slice (some ⟨w.heap.size + 6, 0, none⟩) L.length L.length) := (h1.cell (p := ⟨kq, 0, none⟩) od8.lt (by show ¬ (kq = w.heap.size + 6 ∨ kq = kq + 1); omega)).trans od8.cell
    have HWK := (callsIn_wide (n := 30 - 1 - 1 - 1)).2 hwk
    have HU := hidS (And.intro h1 (And.intro h2 (And.intro h3 (And.intro h4 (And.intro h5 hbU)))))
    have hUz := h1.size
    obtain ⟨i0, hi0, hy0, hy1, hy2⟩ := info_parts Tryz.infoN
    obtain ⟨la, lc, hlv⟩ : ∃ la lc, nv = .slice la pre.length lc := by
      rcases h5.2 with ⟨hn, hz⟩ | ⟨g', cap', cur', e1, e2⟩
      · exact ⟨none, 0, by rw [hn, hz]⟩
      · exact ⟨_, _, e1⟩
    subst hlv
    clear hwk h1 h2 h3 h4 h5 hobj hrec hln hsp hbU
    generalize hbb : bAt L pre.length = bb at c0 HWK
    have HBB := hidS hbb
    clear hbb
    rw [HT.out]
    gi_wp2_with fail
    refine ⟨trivial, (HWK.inRound l0).mono ?_⟩
    rintro en U1 ⟨hk1, ⟨need, E, rfl, e1, e2, e3, e4⟩ | ⟨at1, x1, rfl, hx1, hat1, hno⟩⟩
    · obtain ⟨h1, h2, h3, h4, h5, hbU⟩ := HU.out
      have bn1 : Boxed U1 (kq + 1) 52 (.slice la pre.length lc) := (hk1.block _ h4.lt (by show ¬ kq + 1 = w.heap.size + 6; omega)).trans h4
      have own1 := hk1.own h5 (fun k e => by have := (h5.lt k e).1; show ¬ k = w.heap.size + 6; omega)
      have hU1z := hk1.size
      have cn1 := bn1.cell
      have cn1' := fun o => (bn1.alloc o).cell
      have H1 := hidS (And.intro h1 (And.intro hk1 (And.intro bn1 own1)))
      have HE := hidS (And.intro h3 (And.intro e1 (And.intro e2 (And.intro e3 e4))))
      have hpl : pre.length ≤ 16384 := by omega
      clear h1 h2 h3 h4 h5 hbU hk1 e1 e2 e3 e4 bn1 HWK c0 cb cd
      gi_wp2_with (gi_at_builtin; refine wpListIn_append_own _ rfl _ _ 52 rfl w8.heap.size 3 i0 (.int .i64 0) 1 8 Tryz.underlying52 hi0 hy0 hy1 hy2 rfl (by decide) _ _ _ rfl (own1.alloc _) ⟨_, 0, none⟩ 1 1 [.int .i64 need] rfl rfl ?g1 ?g2 ?g3 ?g4 ?g5 ?_)
      case g1 =>
        intro j u hj
        match j, hj with
        | 0, hj => simp at hj; subst hj; simp [Addr.add]
      case g2 => intro u hu; simp at hu; subst hu; rfl
      case g3 => unfold maxLen; omega
      case g4 => omega
      case g5 => simp; omega
      intro v' W1 own2 hg2 _
      obtain ⟨g, gc, hv'⟩ : ∃ g gc, v' = .slice (some ⟨g, 0, none⟩) (pre.length + 1) gc := by
        rcases own2.2 with ⟨_, hz⟩ | ⟨g', cap', cur', e1, _⟩
        · omega
        · exact ⟨_, _, e1⟩
      subst hv'
      obtain ⟨h1, hk1, bn1, ownx⟩ := H1.out
      have hkW : Kp (fun k => (Value.slice la pre.length lc).ownBlock = some k) U1 W1 := (Kp.alloc U1 _).trans (Kp.ofGrown (S := fun k => (Value.slice la pre.length lc).ownBlock = some k) hg2 (fun i e _ => e)) (fun _ _ q => q)
      have hlo : ∀ k, (Value.slice la pre.length lc).ownBlock = some k → w8.heap.size ≤ k ∧ ∃ cs t fr, U1.heap[k]? = some (.cells cs t fr) := fun k e => by
        refine ⟨(ownx.lt k e).1, ?_⟩
        rcases ownx.2 with hn | ⟨g', cap', cur', e1, e2, e3, e4⟩
        · rw [hn.1] at e
          cases e
        · rw [e1] at e
          cases e
          exact ⟨_, _, _, e3⟩
      have bn2 : Boxed W1 (kq + 1) 52 (.slice la pre.length lc) := (hkW.block (kq + 1) bn1.lt (fun e => by have := (hlo _ e).1; omega)).trans bn1
      have c4 := bn2.cell
      have f4 := bn2.frozen
      have HKW := hidS (And.intro hkW (And.intro hlo (And.intro bn2 own2)))
      clear hkW hlo own2 hg2 h1 hk1 bn1 ownx bn2 cn1 cn1' own1
      gi_wp2
      obtain ⟨h1, hk1, bn1, ownx⟩ := H1.out
      obtain ⟨hkW, hlo, bn2, own2⟩ := HKW.out
      obtain ⟨h3, e1, e2, e3, e4⟩ := HE.out
      have hks := Kp.setCell (S := fun i => i = kq + 1) W1 ⟨kq + 1, 0, none⟩ (.slice (some ⟨g, 0, none⟩) (pre.length + 1) gc) rfl
      have hk2 : Kp (fun i => i = w.heap.size + 6 ∨ i = kq + 1) w8 (W1.setCell ⟨kq + 1, 0, none⟩ (.slice (some ⟨g, 0, none⟩) (pre.length + 1) gc)) := ((h1.trans hk1 (fun _ _ q => .inl q)).trans hkW (fun i hi q => by have := (hlo i q).1; omega)).trans hks (fun _ _ q => .inr q)
      have hup : Upon w8.heap.size U (W1.setCell ⟨kq + 1, 0, none⟩ (.slice (some ⟨g, 0, none⟩) (pre.length + 1) gc)) := by
        obtain ⟨cur, ho⟩ := DpW.obj HU.out.2.1
        exact ((upon_kp hk1 (fun i (e : i = w.heap.size + 6) => ⟨cur, 3, (0, 0), by rw [e]; exact ho⟩)).trans (upon_kp hkW (fun i e => (hlo i e).2))).trans (Upon.setCell _ _ _)
      refine ⟨hup, fun _ => (HIN.out _ hk2).1, hk2, E, N ++ [need], _, hks.own (hkW.own e1 (fun k e => by cases e; exact fun q => by have := (hlo _ q).1; simp at this; omega)) (fun k e => by cases e; show ¬ w.heap.size + 6 = kq + 1; omega), ?_, bn2.set _, ?_⟩
      · rw [List.length_append]
        exact h3.new hG hxb e2 (by rw [HBB.out]; exact e3) e4
      · rw [List.length_append, List.map_append, hz8]
        exact ownsRow_setCell_below (a := ⟨kq + 1, 0, none⟩) own2 (by show kq + 1 < kq + 3; omega) _
    · obtain ⟨h1, h2, h3, h4, h5, hbU⟩ := HU.out
      have hk3 := h1.trans hk1 (fun _ _ q => .inl q)
      obtain ⟨b1, b2, b3, b4⟩ := HW8.out
      have q0 := (show Boxed U1 (w.heap.size + 1) 52 (.slice none 0 0) from (hk3.block _ b1.lt (by show ¬ (w.heap.size + 1 = w.heap.size + 6 ∨ w.heap.size + 1 = kq + 1); omega)).trans b1)
      have q1 := (show Boxed U1 (w.heap.size + 1 + 1) 52 (.slice none 0 0) from (hk3.block _ b2.lt (by show ¬ (w.heap.size + 1 + 1 = w.heap.size + 6 ∨ w.heap.size + 1 + 1 = kq + 1); omega)).trans b2)
      have q2 := (show Boxed U1 (w.heap.size + 1 + 1 + 1) 3 (.int .i64 0) from (hk3.block _ b3.lt (by show ¬ (w.heap.size + 1 + 1 + 1 = w.heap.size + 6 ∨ w.heap.size + 1 + 1 + 1 = kq + 1); omega)).trans b3)
      have q3 := (show Boxed U1 (w.heap.size + 1 + 1 + 1 + 1) 30 (.int .i64 0) from (hk3.block _ b4.lt (by show ¬ (w.heap.size + 1 + 1 + 1 + 1 = w.heap.size + 6 ∨ w.heap.size + 1 + 1 + 1 + 1 = kq + 1); omega)).trans b4)
      have q0_1 : Boxed (U1.setCell ⟨w.heap.size + 1, 0, none⟩ (.slice none 0 0)) (w.heap.size + 1) 52 (.slice none 0 0) := q0.set _
      have q0_2 : Boxed ((U1.setCell ⟨w.heap.size + 1, 0, none⟩ (.slice none 0 0)).setCell ⟨w.heap.size + 1 + 1, 0, none⟩ (.slice none 0 0)) (w.heap.size + 1) 52 (.slice none 0 0) := q0_1.other (by omega) _
      have q0_3 : Boxed (((U1.setCell ⟨w.heap.size + 1, 0, none⟩ (.slice none 0 0)).setCell ⟨w.heap.size + 1 + 1, 0, none⟩ (.slice none 0 0)).setCell ⟨w.heap.size + 1 + 1 + 1, 0, none⟩ (.int .i64 (at1 : Int))) (w.heap.size + 1) 52 (.slice none 0 0) := q0_2.other (by omega) _
      have q0_4 : Boxed ((((U1.setCell ⟨w.heap.size + 1, 0, none⟩ (.slice none 0 0)).setCell ⟨w.heap.size + 1 + 1, 0, none⟩ (.slice none 0 0)).setCell ⟨w.heap.size + 1 + 1 + 1, 0, none⟩ (.int .i64 (at1 : Int))).setCell ⟨w.heap.size + 1 + 1 + 1 + 1, 0, none⟩ (.int .i64 (x1 : Int))) (w.heap.size + 1) 52 (.slice none 0 0) := q0_3.other (by omega) _
      have q1_1 : Boxed (U1.setCell ⟨w.heap.size + 1, 0, none⟩ (.slice none 0 0)) (w.heap.size + 1 + 1) 52 (.slice none 0 0) := q1.other (by omega) _
      have q1_2 : Boxed ((U1.setCell ⟨w.heap.size + 1, 0, none⟩ (.slice none 0 0)).setCell ⟨w.heap.size + 1 + 1, 0, none⟩ (.slice none 0 0)) (w.heap.size + 1 + 1) 52 (.slice none 0 0) := q1_1.set _
      have q1_3 : Boxed (((U1.setCell ⟨w.heap.size + 1, 0, none⟩ (.slice none 0 0)).setCell ⟨w.heap.size + 1 + 1, 0, none⟩ (.slice none 0 0)).setCell ⟨w.heap.size + 1 + 1 + 1, 0, none⟩ (.int .i64 (at1 : Int))) (w.heap.size + 1 + 1) 52 (.slice none 0 0) := q1_2.other (by omega) _
      have q1_4 : Boxed ((((U1.setCell ⟨w.heap.size + 1, 0, none⟩ (.slice none 0 0)).setCell ⟨w.heap.size + 1 + 1, 0, none⟩ (.slice none 0 0)).setCell ⟨w.heap.size + 1 + 1 + 1, 0, none⟩ (.int .i64 (at1 : Int))).setCell ⟨w.heap.size + 1 + 1 + 1 + 1, 0, none⟩ (.int .i64 (x1 : Int))) (w.heap.size + 1 + 1) 52 (.slice none 0 0) := q1_3.other (by omega) _
      have q2_1 : Boxed (U1.setCell ⟨w.heap.size + 1, 0, none⟩ (.slice none 0 0)) (w.heap.size + 1 + 1 + 1) 3 (.int .i64 0) := q2.other (by omega) _
      have q2_2 : Boxed ((U1.setCell ⟨w.heap.size + 1, 0, none⟩ (.slice none 0 0)).setCell ⟨w.heap.size + 1 + 1, 0, none⟩ (.slice none 0 0)) (w.heap.size + 1 + 1 + 1) 3 (.int .i64 0) := q2_1.other (by omega) _
      have q2_3 : Boxed (((U1.setCell ⟨w.heap.size + 1, 0, none⟩ (.slice none 0 0)).setCell ⟨w.heap.size + 1 + 1, 0, none⟩ (.slice none 0 0)).setCell ⟨w.heap.size + 1 + 1 + 1, 0, none⟩ (.int .i64 (at1 : Int))) (w.heap.size + 1 + 1 + 1) 3 (.int .i64 (at1 : Int)) := q2_2.set _
      have q2_4 : Boxed ((((U1.setCell ⟨w.heap.size + 1, 0, none⟩ (.slice none 0 0)).setCell ⟨w.heap.size + 1 + 1, 0, none⟩ (.slice none 0 0)).setCell ⟨w.heap.size + 1 + 1 + 1, 0, none⟩ (.int .i64 (at1 : Int))).setCell ⟨w.heap.size + 1 + 1 + 1 + 1, 0, none⟩ (.int .i64 (x1 : Int))) (w.heap.size + 1 + 1 + 1) 3 (.int .i64 (at1 : Int)) := q2_3.other (by omega) _
      have q3_1 : Boxed (U1.setCell ⟨w.heap.size + 1, 0, none⟩ (.slice none 0 0)) (w.heap.size + 1 + 1 + 1 + 1) 30 (.int .i64 0) := q3.other (by omega) _
      have q3_2 : Boxed ((U1.setCell ⟨w.heap.size + 1, 0, none⟩ (.slice none 0 0)).setCell ⟨w.heap.size + 1 + 1, 0, none⟩ (.slice none 0 0)) (w.heap.size + 1 + 1 + 1 + 1) 30 (.int .i64 0) := q3_1.other (by omega) _
      have q3_3 : Boxed (((U1.setCell ⟨w.heap.size + 1, 0, none⟩ (.slice none 0 0)).setCell ⟨w.heap.size + 1 + 1, 0, none⟩ (.slice none 0 0)).setCell ⟨w.heap.size + 1 + 1 + 1, 0, none⟩ (.int .i64 (at1 : Int))) (w.heap.size + 1 + 1 + 1 + 1) 30 (.int .i64 0) := q3_2.other (by omega) _
      have q3_4 : Boxed ((((U1.setCell ⟨w.heap.size + 1, 0, none⟩ (.slice none 0 0)).setCell ⟨w.heap.size + 1 + 1, 0, none⟩ (.slice none 0 0)).setCell ⟨w.heap.size + 1 + 1 + 1, 0, none⟩ (.int .i64 (at1 : Int))).setCell ⟨w.heap.size + 1 + 1 + 1 + 1, 0, none⟩ (.int .i64 (x1 : Int))) (w.heap.size + 1 + 1 + 1 + 1) 30 (.int .i64 (x1 : Int)) := q3_3.set _
      have cc0 := q0.cell
      have ff0 := q0.frozen
      have cc1 := q1_1.cell
      have ff1 := q1_1.frozen
      have cc2 := q2_2.cell
      have ff2 := q2_2.frozen
      have cc3 := q3_3.cell
      have ff3 := q3_3.frozen
      have HQ := hidS (And.intro q0_4 (And.intro q1_4 (And.intro q2_4 q3_4)))
      have hx0 : ¬ (x1 : Int) = 0 := by omega
      have HB : Hid (Below w.heap.size w ((((U1.setCell ⟨w.heap.size + 1, 0, none⟩ (.slice none 0 0)).setCell ⟨w.heap.size + 1 + 1, 0, none⟩ (.slice none 0 0)).setCell ⟨w.heap.size + 1 + 1 + 1, 0, none⟩ (.int .i64 (at1 : Int))).setCell ⟨w.heap.size + 1 + 1 + 1 + 1, 0, none⟩ (.int .i64 (x1 : Int))) ∧ Upon w8.heap.size U ((((U1.setCell ⟨w.heap.size + 1, 0, none⟩ (.slice none 0 0)).setCell ⟨w.heap.size + 1 + 1, 0, none⟩ (.slice none 0 0)).setCell ⟨w.heap.size + 1 + 1 + 1, 0, none⟩ (.int .i64 (at1 : Int))).setCell ⟨w.heap.size + 1 + 1 + 1 + 1, 0, none⟩ (.int .i64 (x1 : Int)))) := hidS (by
        obtain ⟨cur, ho⟩ := DpW.obj h2
        have hkA : Kp (fun i => w.heap.size ≤ i) w U1 := (Kp.ofBelow hbU).trans hk1 (fun i hi e => by show w.heap.size ≤ i; omega)
        have hkB := (((hkA.trans (Kp.setCell (S := fun i => w.heap.size ≤ i) _ ⟨w.heap.size + 1, 0, none⟩ (.slice none 0 0) (by show w.heap.size ≤ w.heap.size + 1; omega)) (fun _ _ q => q)).trans (Kp.setCell (S := fun i => w.heap.size ≤ i) _ ⟨w.heap.size + 1 + 1, 0, none⟩ (.slice none 0 0) (by show w.heap.size ≤ w.heap.size + 1 + 1; omega)) (fun _ _ q => q)).trans (Kp.setCell (S := fun i => w.heap.size ≤ i) _ ⟨w.heap.size + 1 + 1 + 1, 0, none⟩ (.int .i64 (at1 : Int)) (by show w.heap.size ≤ w.heap.size + 1 + 1 + 1; omega)) (fun _ _ q => q)).trans (Kp.setCell (S := fun i => w.heap.size ≤ i) _ ⟨w.heap.size + 1 + 1 + 1 + 1, 0, none⟩ (.int .i64 (x1 : Int)) (by show w.heap.size ≤ w.heap.size + 1 + 1 + 1 + 1; omega)) (fun _ _ q => q)
        exact ⟨hkB.below (Nat.le_refl _) (fun _ q => q), (((((upon_kp hk1 (fun i (e : i = w.heap.size + 6) => ⟨cur, 3, (0, 0), by rw [e]; exact ho⟩)).trans (Upon.setCell _ _ _)).trans (Upon.setCell _ _ _)).trans (Upon.setCell _ _ _)).trans (Upon.setCell _ _ _))⟩)
      have HN := hidS (And.intro hx1 (And.intro hno (fun k' (hk' : k' < pre.length) => (⟨D, (h3.fin k' hk').sol⟩ : ∃ D', Sol L J k' D'))))
      have hat : at1 < 4294967296 := by omega
      clear h1 h2 h3 h4 h5 hbU hk3 b1 b2 b3 b4 hk1 HWK c0 cb cd hx1 hno q0 q1 q2 q3 q0_1 q0_2 q0_3 q0_4 q1_1 q1_2 q1_3 q1_4 q2_1 q2_2 q2_3 q2_4 q3_1 q3_2 q3_3 q3_4
      gi_wp2
      refine ⟨HB.out.2, rfl, HB.out.1, at1, x1, HQ.out.1, HQ.out.2.1, HQ.out.2.2.1, HQ.out.2.2.2, HN.out.1, pre.length, hxb, HN.out.2⟩
  case done =>
    rintro D1 xs U hD hS ⟨h1, D, N, nv, h2, h3, h4, h5⟩ hd
    subst hS
    rw [List.length_range, HPl.out] at h3 h5
    obtain ⟨la, lc, hlv⟩ : ∃ la lc, nv = .slice la (bgs L).length lc := by
      rcases h5.2 with ⟨hn, hz⟩ | ⟨g', cap', cur', e1, e2⟩
      · exact ⟨none, 0, by rw [hn, hz]⟩
      · exact ⟨_, _, e1⟩
    subst hlv
    obtain ⟨b1, b2, b3, b4⟩ := HW8.out
    have q0 := (show Boxed U (w.heap.size + 1) 52 (.slice none 0 0) from (h1.block _ b1.lt (by show ¬ ((w.heap.size + 1) = w.heap.size + 6 ∨ (w.heap.size + 1) = kq + 1); omega)).trans b1)
    have q1 := (show Boxed U (w.heap.size + 1 + 1) 52 (.slice none 0 0) from (h1.block _ b2.lt (by show ¬ ((w.heap.size + 1 + 1) = w.heap.size + 6 ∨ (w.heap.size + 1 + 1) = kq + 1); omega)).trans b2)
    have q2 := (show Boxed U (w.heap.size + 1 + 1 + 1) 3 (.int .i64 0) from (h1.block _ b3.lt (by show ¬ ((w.heap.size + 1 + 1 + 1) = w.heap.size + 6 ∨ (w.heap.size + 1 + 1 + 1) = kq + 1); omega)).trans b3)
    have q3 := (show Boxed U (w.heap.size + 1 + 1 + 1 + 1) 30 (.int .i64 0) from (h1.block _ b4.lt (by show ¬ ((w.heap.size + 1 + 1 + 1 + 1) = w.heap.size + 6 ∨ (w.heap.size + 1 + 1 + 1 + 1) = kq + 1); omega)).trans b4)
    have odU : Boxed U kq 52 (.slice (some ⟨w.heap.size + 6, 0, none⟩) L.length L.length) := (h1.block _ od8.lt (by show ¬ (kq = w.heap.size + 6 ∨ kq = kq + 1); omega)).trans od8
    have cd := odU.cell
    have cn := h4.cell
    have q0_1 : Boxed (U.setCell ⟨w.heap.size + 1, 0, none⟩ (.slice (some ⟨w.heap.size + 6, 0, none⟩) L.length L.length)) (w.heap.size + 1) 52 (.slice (some ⟨w.heap.size + 6, 0, none⟩) L.length L.length) := q0.set _
    have q0_2 : Boxed ((U.setCell ⟨w.heap.size + 1, 0, none⟩ (.slice (some ⟨w.heap.size + 6, 0, none⟩) L.length L.length)).setCell ⟨w.heap.size + 1 + 1, 0, none⟩ (.slice la (bgs L).length lc)) (w.heap.size + 1) 52 (.slice (some ⟨w.heap.size + 6, 0, none⟩) L.length L.length) := q0_1.other (by omega) _
    have q0_3 : Boxed (((U.setCell ⟨w.heap.size + 1, 0, none⟩ (.slice (some ⟨w.heap.size + 6, 0, none⟩) L.length L.length)).setCell ⟨w.heap.size + 1 + 1, 0, none⟩ (.slice la (bgs L).length lc)).setCell ⟨w.heap.size + 1 + 1 + 1, 0, none⟩ (.int .i64 0)) (w.heap.size + 1) 52 (.slice (some ⟨w.heap.size + 6, 0, none⟩) L.length L.length) := q0_2.other (by omega) _
    have q0_4 : Boxed ((((U.setCell ⟨w.heap.size + 1, 0, none⟩ (.slice (some ⟨w.heap.size + 6, 0, none⟩) L.length L.length)).setCell ⟨w.heap.size + 1 + 1, 0, none⟩ (.slice la (bgs L).length lc)).setCell ⟨w.heap.size + 1 + 1 + 1, 0, none⟩ (.int .i64 0)).setCell ⟨w.heap.size + 1 + 1 + 1 + 1, 0, none⟩ (.int .i64 0)) (w.heap.size + 1) 52 (.slice (some ⟨w.heap.size + 6, 0, none⟩) L.length L.length) := q0_3.other (by omega) _
    have q1_1 : Boxed (U.setCell ⟨w.heap.size + 1, 0, none⟩ (.slice (some ⟨w.heap.size + 6, 0, none⟩) L.length L.length)) (w.heap.size + 1 + 1) 52 (.slice none 0 0) := q1.other (by omega) _
    have q1_2 : Boxed ((U.setCell ⟨w.heap.size + 1, 0, none⟩ (.slice (some ⟨w.heap.size + 6, 0, none⟩) L.length L.length)).setCell ⟨w.heap.size + 1 + 1, 0, none⟩ (.slice la (bgs L).length lc)) (w.heap.size + 1 + 1) 52 (.slice la (bgs L).length lc) := q1_1.set _
    have q1_3 : Boxed (((U.setCell ⟨w.heap.size + 1, 0, none⟩ (.slice (some ⟨w.heap.size + 6, 0, none⟩) L.length L.length)).setCell ⟨w.heap.size + 1 + 1, 0, none⟩ (.slice la (bgs L).length lc)).setCell ⟨w.heap.size + 1 + 1 + 1, 0, none⟩ (.int .i64 0)) (w.heap.size + 1 + 1) 52 (.slice la (bgs L).length lc) := q1_2.other (by omega) _
    have q1_4 : Boxed ((((U.setCell ⟨w.heap.size + 1, 0, none⟩ (.slice (some ⟨w.heap.size + 6, 0, none⟩) L.length L.length)).setCell ⟨w.heap.size + 1 + 1, 0, none⟩ (.slice la (bgs L).length lc)).setCell ⟨w.heap.size + 1 + 1 + 1, 0, none⟩ (.int .i64 0)).setCell ⟨w.heap.size + 1 + 1 + 1 + 1, 0, none⟩ (.int .i64 0)) (w.heap.size + 1 + 1) 52 (.slice la (bgs L).length lc) := q1_3.other (by omega) _
    have q2_1 : Boxed (U.setCell ⟨w.heap.size + 1, 0, none⟩ (.slice (some ⟨w.heap.size + 6, 0, none⟩) L.length L.length)) (w.heap.size + 1 + 1 + 1) 3 (.int .i64 0) := q2.other (by omega) _
    have q2_2 : Boxed ((U.setCell ⟨w.heap.size + 1, 0, none⟩ (.slice (some ⟨w.heap.size + 6, 0, none⟩) L.length L.length)).setCell ⟨w.heap.size + 1 + 1, 0, none⟩ (.slice la (bgs L).length lc)) (w.heap.size + 1 + 1 + 1) 3 (.int .i64 0) := q2_1.other (by omega) _
    have q2_3 : Boxed (((U.setCell ⟨w.heap.size + 1, 0, none⟩ (.slice (some ⟨w.heap.size + 6, 0, none⟩) L.length L.length)).setCell ⟨w.heap.size + 1 + 1, 0, none⟩ (.slice la (bgs L).length lc)).setCell ⟨w.heap.size + 1 + 1 + 1, 0, none⟩ (.int .i64 0)) (w.heap.size + 1 + 1 + 1) 3 (.int .i64 0) := q2_2.set _
    have q2_4 : Boxed ((((U.setCell ⟨w.heap.size + 1, 0, none⟩ (.slice (some ⟨w.heap.size + 6, 0, none⟩) L.length L.length)).setCell ⟨w.heap.size + 1 + 1, 0, none⟩ (.slice la (bgs L).length lc)).setCell ⟨w.heap.size + 1 + 1 + 1, 0, none⟩ (.int .i64 0)).setCell ⟨w.heap.size + 1 + 1 + 1 + 1, 0, none⟩ (.int .i64 0)) (w.heap.size + 1 + 1 + 1) 3 (.int .i64 0) := q2_3.other (by omega) _
    have q3_1 : Boxed (U.setCell ⟨w.heap.size + 1, 0, none⟩ (.slice (some ⟨w.heap.size + 6, 0, none⟩) L.length L.length)) (w.heap.size + 1 + 1 + 1 + 1) 30 (.int .i64 0) := q3.other (by omega) _
    have q3_2 : Boxed ((U.setCell ⟨w.heap.size + 1, 0, none⟩ (.slice (some ⟨w.heap.size + 6, 0, none⟩) L.length L.length)).setCell ⟨w.heap.size + 1 + 1, 0, none⟩ (.slice la (bgs L).length lc)) (w.heap.size + 1 + 1 + 1 + 1) 30 (.int .i64 0) := q3_1.other (by omega) _
    have q3_3 : Boxed (((U.setCell ⟨w.heap.size + 1, 0, none⟩ (.slice (some ⟨w.heap.size + 6, 0, none⟩) L.length L.length)).setCell ⟨w.heap.size + 1 + 1, 0, none⟩ (.slice la (bgs L).length lc)).setCell ⟨w.heap.size + 1 + 1 + 1, 0, none⟩ (.int .i64 0)) (w.heap.size + 1 + 1 + 1 + 1) 30 (.int .i64 0) := q3_2.other (by omega) _
    have q3_4 : Boxed ((((U.setCell ⟨w.heap.size + 1, 0, none⟩ (.slice (some ⟨w.heap.size + 6, 0, none⟩) L.length L.length)).setCell ⟨w.heap.size + 1 + 1, 0, none⟩ (.slice la (bgs L).length lc)).setCell ⟨w.heap.size + 1 + 1 + 1, 0, none⟩ (.int .i64 0)).setCell ⟨w.heap.size + 1 + 1 + 1 + 1, 0, none⟩ (.int .i64 0)) (w.heap.size + 1 + 1 + 1 + 1) 30 (.int .i64 0) := q3_3.set _
    have cc0 := q0.cell
    have ff0 := q0.frozen
    have cc1 := q1_1.cell
    have ff1 := q1_1.frozen
    have cc2 := q2_2.cell
    have ff2 := q2_2.frozen
    have cc3 := q3_3.cell
    have ff3 := q3_3.frozen
    have HD4 : Hid (((((U.setCell ⟨w.heap.size + 1, 0, none⟩ (.slice (some ⟨w.heap.size + 6, 0, none⟩) L.length L.length)).setCell ⟨w.heap.size + 1 + 1, 0, none⟩ (.slice la (bgs L).length lc)).setCell ⟨w.heap.size + 1 + 1 + 1, 0, none⟩ (.int .i64 0)).setCell ⟨w.heap.size + 1 + 1 + 1 + 1, 0, none⟩ (.int .i64 0)).heap[D1]? = some (.deferred (some []))) := hidS ((Below.heap_setCell _ _ _ _ (by show D1 ≠ w.heap.size + 1 + 1 + 1 + 1; omega)).trans ((Below.heap_setCell _ _ _ _ (by show D1 ≠ w.heap.size + 1 + 1 + 1; omega)).trans ((Below.heap_setCell _ _ _ _ (by show D1 ≠ w.heap.size + 1 + 1; omega)).trans ((Below.heap_setCell _ _ _ _ (by show D1 ≠ w.heap.size + 1; omega)).trans hd))))
    have HK4 : Hid (Kp (fun i => (w.heap.size ≤ i ∧ i < w.heap.size + 5) ∨ i = D1) U (((((U.setCell ⟨w.heap.size + 1, 0, none⟩ (.slice (some ⟨w.heap.size + 6, 0, none⟩) L.length L.length)).setCell ⟨w.heap.size + 1 + 1, 0, none⟩ (.slice la (bgs L).length lc)).setCell ⟨w.heap.size + 1 + 1 + 1, 0, none⟩ (.int .i64 0)).setCell ⟨w.heap.size + 1 + 1 + 1 + 1, 0, none⟩ (.int .i64 0)).drew.putObj D1 (.deferred none))) := hidS (by
      have k1 := ((((Kp.setCell (S := fun i => (w.heap.size ≤ i ∧ i < w.heap.size + 5) ∨ i = D1) U ⟨w.heap.size + 1, 0, none⟩ (.slice (some ⟨w.heap.size + 6, 0, none⟩) L.length L.length) (by show (w.heap.size ≤ w.heap.size + 1 ∧ w.heap.size + 1 < w.heap.size + 5) ∨ w.heap.size + 1 = D1; omega)).trans (Kp.setCell (S := fun i => (w.heap.size ≤ i ∧ i < w.heap.size + 5) ∨ i = D1) _ ⟨w.heap.size + 1 + 1, 0, none⟩ (.slice la (bgs L).length lc) (by show (w.heap.size ≤ w.heap.size + 1 + 1 ∧ w.heap.size + 1 + 1 < w.heap.size + 5) ∨ w.heap.size + 1 + 1 = D1; omega)) (fun _ _ q => q)).trans (Kp.setCell (S := fun i => (w.heap.size ≤ i ∧ i < w.heap.size + 5) ∨ i = D1) _ ⟨w.heap.size + 1 + 1 + 1, 0, none⟩ (.int .i64 0) (by show (w.heap.size ≤ w.heap.size + 1 + 1 + 1 ∧ w.heap.size + 1 + 1 + 1 < w.heap.size + 5) ∨ w.heap.size + 1 + 1 + 1 = D1; omega)) (fun _ _ q => q)).trans (Kp.setCell (S := fun i => (w.heap.size ≤ i ∧ i < w.heap.size + 5) ∨ i = D1) _ ⟨w.heap.size + 1 + 1 + 1 + 1, 0, none⟩ (.int .i64 0) (by show (w.heap.size ≤ w.heap.size + 1 + 1 + 1 + 1 ∧ w.heap.size + 1 + 1 + 1 + 1 < w.heap.size + 5) ∨ w.heap.size + 1 + 1 + 1 + 1 = D1; omega)) (fun _ _ q => q))
      exact (k1.drewN 1).trans (Kp.ofGrown (S := fun i => (w.heap.size ≤ i ∧ i < w.heap.size + 5) ∨ i = D1) (grownBy_putObj' _ D1 (.deferred none)) (fun i e _ => by cases e; exact .inr rfl)) (fun _ _ q => q))
    have HF : Hid (DpW (((((U.setCell ⟨w.heap.size + 1, 0, none⟩ (.slice (some ⟨w.heap.size + 6, 0, none⟩) L.length L.length)).setCell ⟨w.heap.size + 1 + 1, 0, none⟩ (.slice la (bgs L).length lc)).setCell ⟨w.heap.size + 1 + 1 + 1, 0, none⟩ (.int .i64 0)).setCell ⟨w.heap.size + 1 + 1 + 1 + 1, 0, none⟩ (.int .i64 0)).drew.putObj D1 (.deferred none)) w.heap.size (w.heap.size + 6) L.length D ∧ (((((U.setCell ⟨w.heap.size + 1, 0, none⟩ (.slice (some ⟨w.heap.size + 6, 0, none⟩) L.length L.length)).setCell ⟨w.heap.size + 1 + 1, 0, none⟩ (.slice la (bgs L).length lc)).setCell ⟨w.heap.size + 1 + 1 + 1, 0, none⟩ (.int .i64 0)).setCell ⟨w.heap.size + 1 + 1 + 1 + 1, 0, none⟩ (.int .i64 0)).drew.putObj D1 (.deferred none)).ownsRow w.heap.size 3 1 (.slice la (bgs L).length lc) N.length (N.map fun z => Value.int .i64 z) ∧ Below w.heap.size w (((((U.setCell ⟨w.heap.size + 1, 0, none⟩ (.slice (some ⟨w.heap.size + 6, 0, none⟩) L.length L.length)).setCell ⟨w.heap.size + 1 + 1, 0, none⟩ (.slice la (bgs L).length lc)).setCell ⟨w.heap.size + 1 + 1 + 1, 0, none⟩ (.int .i64 0)).setCell ⟨w.heap.size + 1 + 1 + 1 + 1, 0, none⟩ (.int .i64 0)).drew.putObj D1 (.deferred none))) := hidS (by
      have hk := HK4.out
      refine ⟨hk.own h2 (fun k e => ?_), ?_, ?_⟩
      · cases e
        show ¬ ((w.heap.size ≤ w.heap.size + 6 ∧ w.heap.size + 6 < w.heap.size + 5) ∨ w.heap.size + 6 = D1)
        omega
      · rw [h3.nl]
        refine own_base (hk.own h5 (fun k e q => ?_)) hb8.size
        have hlo := (h5.lt k e).1
        rcases q with q | q
        · omega
        · rcases h5.2 with hn | ⟨g', cap', cur', e1, e2, e3, e4⟩
          · rw [hn.1] at e
            cases e
          · rw [e1] at e
            cases e
            rw [show g' = D1 from q, hd] at e3
            cases e3
      · exact (HIN.out U h1).2.trans (hk.below (HIN.out U h1).2.size (fun i q => by omega)))
    have HQ := hidS (And.intro q0_4 (And.intro q1_4 (And.intro q2_4 q3_4)))
    have HI := hidS (And.intro h1 (And.intro h2 (And.intro h3 h5)))
    have HD := hidS (And.intro hd hD)
    clear h1 h2 h3 h4 h5 hd hD b1 b2 b3 b4 q0 q1 q2 q3 odU q0_1 q0_2 q0_3 q0_4 q1_1 q1_2 q1_3 q1_4 q2_1 q2_2 q2_3 q2_4 q3_1 q3_2 q3_3 q3_4
    rw [HT.out]
    gi_wp2
    refine wpIn_wide.2 ?_
    go_region
    gi_wp2
    refine ⟨by simp, .inl ⟨_, _, rfl, run_takeDeferred HD4.out, ?_⟩⟩
    have hDz := HD.out.2
    have c1 := (show Boxed (((((U.setCell ⟨w.heap.size + 1, 0, none⟩ (.slice (some ⟨w.heap.size + 6, 0, none⟩) L.length L.length)).setCell ⟨w.heap.size + 1 + 1, 0, none⟩ (.slice la (bgs L).length lc)).setCell ⟨w.heap.size + 1 + 1 + 1, 0, none⟩ (.int .i64 0)).setCell ⟨w.heap.size + 1 + 1 + 1 + 1, 0, none⟩ (.int .i64 0)).drew.putObj D1 (.deferred none)) (w.heap.size + 1) 52 (.slice (some ⟨w.heap.size + 6, 0, none⟩) L.length L.length) from (World.putObj_heap_other (by omega)).trans HQ.out.1).cell
    have c2 := (show Boxed (((((U.setCell ⟨w.heap.size + 1, 0, none⟩ (.slice (some ⟨w.heap.size + 6, 0, none⟩) L.length L.length)).setCell ⟨w.heap.size + 1 + 1, 0, none⟩ (.slice la (bgs L).length lc)).setCell ⟨w.heap.size + 1 + 1 + 1, 0, none⟩ (.int .i64 0)).setCell ⟨w.heap.size + 1 + 1 + 1 + 1, 0, none⟩ (.int .i64 0)).drew.putObj D1 (.deferred none)) (w.heap.size + 1 + 1) 52 (.slice la (bgs L).length lc) from (World.putObj_heap_other (by omega)).trans HQ.out.2.1).cell
    have c3 := (show Boxed (((((U.setCell ⟨w.heap.size + 1, 0, none⟩ (.slice (some ⟨w.heap.size + 6, 0, none⟩) L.length L.length)).setCell ⟨w.heap.size + 1 + 1, 0, none⟩ (.slice la (bgs L).length lc)).setCell ⟨w.heap.size + 1 + 1 + 1, 0, none⟩ (.int .i64 0)).setCell ⟨w.heap.size + 1 + 1 + 1 + 1, 0, none⟩ (.int .i64 0)).drew.putObj D1 (.deferred none)) (w.heap.size + 1 + 1 + 1) 3 (.int .i64 0) from (World.putObj_heap_other (by omega)).trans HQ.out.2.2.1).cell
    have c4 := (show Boxed (((((U.setCell ⟨w.heap.size + 1, 0, none⟩ (.slice (some ⟨w.heap.size + 6, 0, none⟩) L.length L.length)).setCell ⟨w.heap.size + 1 + 1, 0, none⟩ (.slice la (bgs L).length lc)).setCell ⟨w.heap.size + 1 + 1 + 1, 0, none⟩ (.int .i64 0)).setCell ⟨w.heap.size + 1 + 1 + 1 + 1, 0, none⟩ (.int .i64 0)).drew.putObj D1 (.deferred none)) (w.heap.size + 1 + 1 + 1 + 1) 30 (.int .i64 0) from (World.putObj_heap_other (by omega)).trans HQ.out.2.2.2).cell
    refine ⟨.tuple #[(.slice (some ⟨w.heap.size + 6, 0, none⟩) L.length L.length), (.slice la (bgs L).length lc), .int .i64 0, .int .i64 0], ?_, HF.out.2.2, .inr ⟨w.heap.size + 6, L.length, .slice la (bgs L).length lc, D, N, by rw [HI.out.2.2.1.len], HF.out.1, HF.out.2.1, HI.out.2.2.1⟩⟩
    simp [results, Tryz.f29, go_sem, c1, c2, c3, c4]
  case stop =>
    rintro D1 c pre U hD hS ⟨rfl, hbU, i, x, b1, b2, b3, b4, hx, hno⟩ hd
    have HB := hidS (And.intro b1 (And.intro b2 (And.intro b3 (And.intro b4 (And.intro hbU (And.intro hx hno))))))
    have HD := hidS (And.intro hd hD)
    clear b1 b2 b3 b4 hd hD hbU hx hno
    rw [HT.out]
    gi_wp2
    refine ⟨by simp, .inl ⟨_, _, rfl, run_takeDeferred HD.out.1, ?_⟩⟩
    obtain ⟨b1, b2, b3, b4, hbU, hx, hno⟩ := HB.out
    have hDz := HD.out.2
    have c1 := ((show Boxed (U.putObj D1 (.deferred none)) (w.heap.size + 1) 52 (.slice none 0 0) from (World.putObj_heap_other (by omega)).trans b1)).cell
    have c2 := ((show Boxed (U.putObj D1 (.deferred none)) (w.heap.size + 1 + 1) 52 (.slice none 0 0) from (World.putObj_heap_other (by omega)).trans b2)).cell
    have c3 := ((show Boxed (U.putObj D1 (.deferred none)) (w.heap.size + 1 + 1 + 1) 3 (.int .i64 i) from (World.putObj_heap_other (by omega)).trans b3)).cell
    have c4 := ((show Boxed (U.putObj D1 (.deferred none)) (w.heap.size + 1 + 1 + 1 + 1) 30 (.int .i64 x) from (World.putObj_heap_other (by omega)).trans b4)).cell
    refine ⟨.tuple #[.slice none 0 0, .slice none 0 0, .int .i64 i, .int .i64 x], ?_, ?_, .inl ⟨i, x, rfl, hx, hno⟩⟩
    · simp [results, Tryz.f29, go_sem, c1, c2, c3, c4]
    · exact hbU.grown (grownBy_putObj' _ D1 (.deferred none)) hbU.size (fun k e => by cases e; omega)
end Go.Proofs.YtgbpfejodpplbaaGreatDoor
