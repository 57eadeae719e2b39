import Derived.Test.YtonmoidalkcmoaaCZTh
namespace Go.Proofs.Ytonmoidalkcmoaa
open Go.RowKit Go.WideShapes Go.Shelf
set_option maxRecDepth 100000
attribute [local go_sem] Oper.semAt_some

theorem things_in (n : Nat) (ao : Option Addr) (len cap at_ : Nat) (w : World) :
    CallsIn Fence.wide n Try.prog 14 #[.slice ao len cap, .int .u32 (at_ : Int)] w fun e w' => e = .returned (.func (.func 24) #[] #[.pointer (some ⟨w.heap.size + 1, 0, none⟩), .pointer (some ⟨w.heap.size, 0, none⟩)]) ∧ w' = (w.alloc (.cells #[.slice ao len cap] 22)).alloc (.cells #[.int .u32 (at_ : Int)] 23) := by
  refine callsIn_of_wp Try.func14 rfl trivial ?_ rfl
  simp only [Try.ntmps14, List.size_toArray, List.length_cons, List.length_nil, Nat.reduceAdd, Nat.reduceSub, Array.replicate_succ, Array.replicate_zero, List.push_toArray, List.append_toArray, List.nil_append, List.cons_append]
  gi_wp2
  go_ret
  exact ⟨rfl, rfl⟩
theorem ths_stops (n : Nat) (hn1 : 1 ≤ n) (b1 b2 Bc : Nat) (ao : Option Addr) (cap at_ : Nat) (L : List (Nat × Nat)) (w : World) 
    (hcap : L.length ≤ cap) (hlen : at_ + L.length < 4294967296) (hwf : Wfc L)
    (h1 : Boxed w b1 23 (.int .u32 (at_ : Int))) (h2 : Boxed w b2 22 (.slice ao L.length cap)) (hr : CRd w ao L Bc) (hBc : Bc ≤ w.heap.size) :
    SeqStopsK Fence.wide n Try.prog 24 #[.pointer (some ⟨b1, 0, none⟩), .pointer (some ⟨b2, 0, none⟩)] encZ (Kz w.heap.size ao L Bc) (fun ys => ys = thsV L at_) (fun pre => pre <+: thsV L at_) 4294967296 w :=
  fun l J Jx W hW hJ _ hY h0 => th1_in n hn1 l b1 b2 Bc ao cap at_ L J Jx W hJ w.heap.size hW.size hcap hlen hwf hY ((hW.block b1 h1.lt).trans h1) ((hW.block b2 h2.lt).trans h2) (hr.below (hW.mono hBc)) (Nat.le_trans hBc hW.size) h0
attribute [local go_sem] Oper.semAt_some

theorem fl_bad {L : List (Nat × Nat)} {a e : Nat} (h : ¬ flE L a e = 0) : flV L a e = fz0 := if_neg h
theorem crd_takeZ {w : World} {ao : Option Addr} {L : List (Nat × Nat)} {B : Nat} (h : CRd w ao L B) (k : Nat) : CRd w ao (L.take k) B := by
  intro hl
  rw [List.length_take] at hl
  obtain ⟨b, off, e, hlt, hc⟩ := h (by omega)
  refine ⟨b, off, e, hlt, fun j hj => ?_⟩
  rw [List.length_take] at hj
  have e1 : (L.take k).getD j (0, 0) = L.getD j (0, 0) := by rw [List.getD_eq_getElem?_getD, List.getElem?_take_of_lt (by omega), List.getD_eq_getElem?_getD]
  rw [e1]
  exact hc j (by omega)
theorem wfc_takeZ {L : List (Nat × Nat)} (h : Wfc L) (k : Nat) : Wfc (L.take k) := fun p hp => h p (List.mem_of_mem_take hp)
theorem getD_td (L : List (Nat × Nat)) (a e : Nat) (h : a < e) : ((L.drop a).take (e - a)).getD 0 (0, 0) = L.getD a (0, 0) := by
  rw [List.getD_eq_getElem?_getD, List.getElem?_take_of_lt (by omega), List.getElem?_drop, List.getD_eq_getElem?_getD, Nat.add_zero]
theorem row_stepz {A B : World} {row : Option Nat} {b t : Nat} {cs : Array Value} (h : A.heap[b]? = some (.cells cs t)) (hg : A.grownBy B row) (hr : ∀ r, row = some r → ∃ o : Obj, A.heap[r]? = some o ∧ o.isCells = false) : B.heap[b]? = some (.cells cs t) := by
  refine (hg.block b (Array.getElem?_eq_some_iff.1 h).1 (fun e => ?_)).trans h
  obtain ⟨o, ho, hc⟩ := hr b e.symm
  rw [h] at ho
  cases ho
  cases hc
theorem liB_no {n a e : Nat} (h : ¬ (a < e ∧ e ≤ n)) : liB n a e = false := decide_eq_false h
set_option maxHeartbeats 8000000 in
theorem flongest_any (ao : Option Addr) (cap a e : Nat) (L : List (Nat × Nat)) (w : World) (hn : L.length ≤ 9223372036854775807) (hcap : L.length ≤ cap) (ha : a < 4294967296) (he : e < 4294967296) (hwf : Wfc L) (hr : CRd w ao L w.heap.size) :
    Calls Try.prog 5 #[.slice ao L.length cap, .int .u32 (a : Int), .int .u32 (e : Int)] w fun en w' => en = .returned (.tuple #[.agg (fzA (flV L a e)), .int .i64 (flE L a e : Nat)]) ∧ Below w.heap.size w w' := by
  have HL := dhid (fun W => lies_any ao cap L.length a e W hn ha he)
  refine (callsIn_wide (n := 9)).1 ?_
  refine callsIn_of_wp_marks Try.func5 rfl trivial ?_ rfl
  simp only [Try.ntmps5, List.size_toArray, List.length_cons, List.length_nil, Nat.reduceAdd, Nat.reduceSub, Array.replicate_succ, Array.replicate_zero, List.push_toArray, List.append_toArray, List.nil_append, List.cons_append]
  by_cases hl : a < e ∧ e ≤ L.length
  · have hB : liB L.length a e = true := decide_eq_true hl
    rw [hB] at HL
    have hr' := hr
    obtain ⟨b, off, rfl, hbl, hc⟩ := hr (by omega)
    obtain ⟨hop, harg⟩ := hwf.at (show a < L.length by omega)
    have X0 := dhid (fun (W : World) (hW : Below w.heap.size w W) => (hW.cell (p := ⟨b, off + a * 2, none⟩) hbl).trans (hc a (by omega)).1)
    have X1 := dhid (fun (W : World) (hW : Below w.heap.size w W) => (hW.cell (p := ⟨b, off + a * 2 + 1, none⟩) hbl).trans (hc a (by omega)).2)
    have hE : flE L a e = erV (L.getD a (0, 0)).1 (L.getD a (0, 0)).2 := if_pos hl
    have HPP := dhid (show ∃ pp, L.getD a (0, 0) = pp from ⟨_, rfl⟩)
    generalize hpp : L.getD a (0, 0) = pp at X0 X1 hE hop harg
    obtain ⟨op, arg⟩ := pp
    simp only at X0 X1 hE hop harg
    have HCK := dhid (fun W => (callsIn_wide (n := 8)).2 (fcheck_any op arg W hop))
    have haI : (a : Int) < (L.length : Int) := by omega
    have y0 := X0.out _ (bel1 w (.cells #[.int .u32 0, .int .u32 0, .int .u8 0, .int .u8 0, .int .u32 0, .int .u32 0] 30))
    have y1 := X1.out _ (bel1 w (.cells #[.int .u32 0, .int .u32 0, .int .u8 0, .int .u8 0, .int .u32 0, .int .u32 0] 30))
    by_cases her : erV op arg = 0
    · have hd : ((erV op arg : Int) != 0) = false := by rw [her]; rfl
      have hd' : (erV op arg : Int) = 0 := by omega
      obtain ⟨S, hS⟩ : ∃ S, S = (L.drop a).take (e - a) := ⟨_, rfl⟩
      have hSl : S.length = e - a := by rw [hS, List.length_take, List.length_drop]; omega
      have hV : flV L a e = bst S a 15 := by rw [hS]; exact if_pos (hE.trans her)
      rw [hV, hE, her]
      have HSR := dhid (show ∀ W, Below w.heap.size w W → CRd W (some ⟨b, off + a * 2, none⟩) S w.heap.size from fun W hW => by rw [hS]; exact crd_takeZ (crd_drop (hr'.below hW) a) _)
      have HWS := dhid (show Wfc S by rw [hS]; exact wfc_takeZ (wfc_drop hwf a) _)
      have HSA := dhid (show S.getD 0 (0, 0) = (op, arg) ∧ 0 < S.length from ⟨by rw [← hpp, hS]; exact getD_td L a e hl.1, by omega⟩)
      have hac : ¬ a = cap := by omega
      have hac' : ¬ cap = a := by omega
      have haeI : (a : Int) ≤ (e : Int) := by omega
      have hecI : (e : Int) ≤ (cap : Int) := by omega
      have HSL := dhid hSl
      clear hE hpp hc hwf hB hS hV hSl
      gi_wp2_with (first
        | ((first | refine ⟨trivial, fun _ => by omega, ?_⟩ | refine ⟨trivial, ?_⟩); gi_at_call 12; refine ((callsIn_wide (n := 8)).2 (HL.out _)).mono ?_; rintro en w1 ⟨rfl, hw1⟩; subst hw1)
        | ((first | refine ⟨trivial, fun _ => by omega, ?_⟩ | refine ⟨trivial, ?_⟩); gi_at_call 13; refine (HCK.out _).mono ?_; rintro en w2 ⟨rfl, hb2⟩)
        | ((first | refine ⟨trivial, fun _ => by omega, ?_⟩ | refine ⟨trivial, ?_⟩); gi_at_call 14; refine (things_in _ _ _ _ _ _).mono ?_; rintro en wq ⟨rfl, hq⟩; subst wq))
      obtain ⟨W0, hW0⟩ : ∃ W0, (((w2.alloc (Obj.cells #[.int .u32 0, .int .u32 0, .int .u8 0, .int .u8 0, .int .u32 0, .int .u32 0] 30)).alloc (Obj.cells #[.slice (some ⟨b, off + a * 2, none⟩) (e - a) (cap - a)] 22)).alloc (Obj.cells #[.int .u32 (a : Int)] 23)) = W0 := ⟨_, rfl⟩
      have hb20 : Below w2.heap.size w2 W0 := by rw [← hW0]; exact ((bel1 w2 _).alloc (by simp) _).alloc (by simp; omega) _
      have b1 : Boxed W0 (w2.heap.size + 1 + 1) 23 (.int .u32 (a : Int)) := by
        rw [← hW0]; simpa using Boxed.new ((w2.alloc (Obj.cells #[.int .u32 0, .int .u32 0, .int .u8 0, .int .u8 0, .int .u32 0, .int .u32 0] 30)).alloc (Obj.cells #[.slice (some ⟨b, off + a * 2, none⟩) (e - a) (cap - a)] 22)) 23 (.int .u32 (a : Int))
      have b2 : Boxed W0 (w2.heap.size + 1) 22 (.slice (some ⟨b, off + a * 2, none⟩) S.length (cap - a)) := by
        rw [← hW0, HSL.out]; simpa using (Boxed.new (w2.alloc (Obj.cells #[.int .u32 0, .int .u32 0, .int .u8 0, .int .u8 0, .int .u32 0, .int .u32 0] 30)) 22 (.slice (some ⟨b, off + a * 2, none⟩) (e - a) (cap - a))).alloc (Obj.cells #[.int .u32 (a : Int)] 23)
      have b0 : W0.heap[w2.heap.size]? = some (.cells (fzA fz0) 30) := by
        rw [← hW0]; exact (Below.heap_alloc _ _ _ (by simp; omega)).trans ((Below.heap_alloc _ _ _ (by simp)).trans (heap_alloc_new w2 _))
      have hB1 : Below w.heap.size w w2 := (bel1 w _).trans (hb2.mono (by simp))
      have hz2 : w.heap.size < w2.heap.size := by have := hb2.size; simp at this; omega
      have r0 : W0.heap[w.heap.size]? = some (.cells (fzA fz0) 30) := (hb20.block _ hz2).trans ((hb2.block w.heap.size (by simp)).trans (heap_alloc_new w _))
      have hB0 : Below w.heap.size w W0 := hB1.trans (hb20.mono (by omega))
      have hsz : W0.heap.size = w2.heap.size + 3 := by rw [← hW0]; simp
      have hW0' := hW0
      rw [hW0]
      clear hW0 hW0'
      refine wpIn_rangeFunc_ownH (F := Fence.wide) rfl (by decide) (gf := 24) (lb := #[.pointer (some ⟨w2.heap.size + 1 + 1, 0, none⟩), .pointer (some ⟨w2.heap.size + 1, 0, none⟩)]) rfl trivial (enters_of Try.func24 (by kernel_rfl) rfl)
        (ths_stops (9 - 1) (by decide) (w2.heap.size + 1 + 1) (w2.heap.size + 1) w.heap.size _ (cap - a) a S W0 (by rw [HSL.out]; omega) (by rw [HSL.out]; omega) HWS.out b1 b2 (HSR.out W0 hB0) (by omega)) Kz_t (Kz_b (w := W0)) (Below.refl _ _) (fun _ => rfl)
        (fun pre W => (pre = [] ∧ (∃ y, W.heap[w2.heap.size]? = some (.cells (fzA y) 30)) ∧ W.heap[w.heap.size]? = some (.cells (fzA fz0) 30)) ∧ Below w.heap.size w W)
        (fun c pre W => (c = .exit 0 ∧ ∃ x, pre = [x] ∧ W.heap[w2.heap.size]? = some (.cells (fzA x) 30) ∧ W.heap[w.heap.size]? = some (.cells (fzA fz0) 30)) ∧ Below w.heap.size w W)
        (OwnFrom.and (Own.from (fun t A B row h hg hr => ⟨h.1, ⟨_, row_stepz h.2.1.choose_spec hg hr⟩, row_stepz h.2.2 hg hr⟩) _) (ownFrom_below (Nat.le_refl _) (by omega)))
        (fun c => OwnFrom.and (Own.from (fun t A B row h hg hr => by
          obtain ⟨h1, x, h2, h3, h4⟩ := h
          exact ⟨h1, x, h2, row_stepz h3 hg hr, row_stepz h4 hg hr⟩) _) (ownFrom_below (Nat.le_refl _) (by omega)))
        ⟨⟨rfl, ⟨_, b0⟩, r0⟩, hB0⟩
        (fun x a' W => W.heap[w2.heap.size]? = some (.cells (fzA x) 30) ∧ a' = { tmps := #[.slice (some ⟨b, off, none⟩) L.length cap, .int .u32 (a : Int), .int .u32 (e : Int), undef, undef, undef, .pointer (some ⟨w.heap.size, 0, none⟩), .int .i64 0, .int .i64 0, .pointer (some ⟨w2.heap.size, 0, none⟩), .slice (some ⟨b, off, none⟩) L.length cap, .int .u32 (a : Int), .int .u32 (e : Int), .bool true, .bool false, undef, .slice (some ⟨b, off, none⟩) L.length cap, .int .u32 (a : Int), .pointer (some ⟨b, off + a * 2, none⟩), .agg #[.int .u8 (op : Int), .int .u32 (arg : Int)], .int .i64 0, .int .i64 0, .bool false, undef, undef, .slice (some ⟨b, off, none⟩) L.length cap, .int .u32 (a : Int), .int .u32 (e : Int), .slice (some ⟨b, off + a * 2, none⟩) (e - a) (cap - a), .int .u32 (a : Int), .func (.func 24) #[] #[.pointer (some ⟨w2.heap.size + 1 + 1, 0, none⟩), .pointer (some ⟨w2.heap.size + 1, 0, none⟩)], .agg (fzA x), undef], defers := [] })
        (fun x a' => Own.from (fun t A B row h hg hr => ⟨row_stepz h.1 hg hr, h.2⟩) _)
        ?assign ?body ?done ?stop
      case assign =>
        intro l pre x W K hI hK
        obtain ⟨⟨hp, ⟨y, h0⟩, h1⟩, hB⟩ := hI
        conv => arg 6; simp [encZ]
        have hk := KpSetRow (S := fun i => i = w2.heap.size) W w2.heap.size (fzA x) rfl
        have hbl := hk.below (B := w.heap.size) hB.size (fun i e => by omega)
        have hlt1 : w.heap.size < W.heap.size := (Array.getElem?_eq_some_iff.1 h1).1
        have HK := dhid (hK { tmps := #[.slice (some ⟨b, off, none⟩) L.length cap, .int .u32 (a : Int), .int .u32 (e : Int), undef, undef, undef, .pointer (some ⟨w.heap.size, 0, none⟩), .int .i64 0, .int .i64 0, .pointer (some ⟨w2.heap.size, 0, none⟩), .slice (some ⟨b, off, none⟩) L.length cap, .int .u32 (a : Int), .int .u32 (e : Int), .bool true, .bool false, undef, .slice (some ⟨b, off, none⟩) L.length cap, .int .u32 (a : Int), .pointer (some ⟨b, off + a * 2, none⟩), .agg #[.int .u8 (op : Int), .int .u32 (arg : Int)], .int .i64 0, .int .i64 0, .bool false, undef, undef, .slice (some ⟨b, off, none⟩) L.length cap, .int .u32 (a : Int), .int .u32 (e : Int), .slice (some ⟨b, off + a * 2, none⟩) (e - a) (cap - a), .int .u32 (a : Int), .func (.func 24) #[] #[.pointer (some ⟨w2.heap.size + 1 + 1, 0, none⟩), .pointer (some ⟨w2.heap.size + 1, 0, none⟩)], .agg (fzA x), undef], defers := [] } _ ⟨hk.size, fun k o q1 q2 _ => (hk.block k (Array.getElem?_eq_some_iff.1 q2).1 (by omega)).trans q2⟩
          ⟨⟨hk.size, fun i cs t fr q1 q2 => (hk.block i (Array.getElem?_eq_some_iff.1 q2).1 (by omega)).trans q2⟩, fun hc => hc.below hbl⟩
          ⟨⟨hp, ⟨_, setRow_heap _ _ _ _ _ _ h0⟩, (hk.block _ hlt1 (by omega)).trans h1⟩, hB.trans hbl⟩ ⟨setRow_heap _ _ _ _ _ _ h0, rfl⟩)
        clear hK
        gi_wp2_with (refine wpListIn_store_rowZ rfl _ _ _ rfl w2.heap.size (fzA y) (fzA x) rfl rfl h0 (by rw [sizeFz]; rfl) rfl (by simp [fzA, Value.oneCell']) ?_)
        exact HK.out
      case body =>
        rintro l pre x a' W hl hrec ⟨⟨rfl, _, h1⟩, hB⟩ ⟨h0, rfl⟩ hlen
        gi_wp2
        exact ⟨KeepsFrom.refl _ _, ⟨rfl, x, rfl, h0, h1⟩, hB⟩
      case done =>
        rintro D ys W hD hys ⟨⟨rfl, _, _⟩, hB⟩ hK
        exfalso
        obtain ⟨hq, hS0⟩ := HSA.out
        match S, hq, hS0, hys with
        | q :: R, hq, _, hys =>
          have : q = (op, arg) := hq
          subst this
          unfold thsV at hys
          rw [List.length_cons, thS_step _ _ _ _ her] at hys
          cases hys
      case stop =>
        rintro D c pre W hD hpre ⟨⟨rfl, x, rfl, h0, h1⟩, hB⟩ hK
        obtain ⟨c0, c1, c2, c3, c4, c5⟩ := fz_cells h0
        have hx : bst S a 15 = x := by
          obtain ⟨hq, hS0⟩ := HSA.out
          match S, hq, hS0, hpre with
          | q :: R, hq, _, hpre =>
            have : q = (op, arg) := hq
            subst this
            unfold thsV at hpre
            rw [List.length_cons, thS_step _ _ _ _ her] at hpre
            obtain ⟨r, hr⟩ := hpre
            injection hr with h1 _
            exact h1.symm
        have HXX := dhid hx
        clear hx hpre
        gi_wp2_with (refine wpListIn_store_rowZ rfl _ _ _ rfl w.heap.size (fzA fz0) (fzA x) rfl rfl h1 (by rw [sizeFz]; rfl) rfl (by simp [fzA, Value.oneCell']) ?_)
        have hk := KpSetRow (S := fun i => i = w.heap.size) W w.heap.size (fzA x) rfl
        have hbl := hk.below (B := w.heap.size) hB.size (fun i e => by omega)
        have hK' := (hk.block D (Array.getElem?_eq_some_iff.1 hK).1 (by omega)).trans hK
        have hR := setRow_heap W w.heap.size _ (fzA x) _ _ h1
        have hR2 := row_stepz hR (grownBy_putObj' _ D (.deferred none)) (fun r e => by cases e; exact ⟨_, hK', rfl⟩)
        refine ⟨by simp, .inl ⟨_, _, rfl, run_takeDeferred hK', ?_⟩⟩
        refine ⟨_, resFzB (p := 6) (u := 7) (by kernel_rfl) _ _ w.heap.size _ rfl hR2 _ rfl rfl, by rw [HXX.out]; rfl, (hB.trans hbl).trans (belowK_b (w := w) (Nat.le_refl _) _ D _ _ (by omega) hK' rfl rfl)⟩
    · rw [fl_bad (by rw [hE]; exact her), hE]
      have hd : ((erV op arg : Int) != 0) = true := by simp; omega
      have hd' : ¬ (erV op arg : Int) = 0 := by omega
      have HE := dhid hE
      clear hE hpp hc hr hr' hwf hB
      gi_wp2_with (first
        | ((first | refine ⟨trivial, fun _ => by omega, ?_⟩ | refine ⟨trivial, ?_⟩); gi_at_call 12; refine ((callsIn_wide (n := 8)).2 (HL.out _)).mono ?_; rintro en w1 ⟨rfl, hw1⟩; subst hw1)
        | ((first | refine ⟨trivial, fun _ => by omega, ?_⟩ | refine ⟨trivial, ?_⟩); gi_at_call 13; refine (HCK.out _).mono ?_; rintro en w2 ⟨rfl, hb2⟩)
        | (refine wpListIn_store_rowZ rfl _ _ _ rfl w.heap.size (fzA fz0) (fzA fz0) rfl rfl ((hb2.block w.heap.size (by simp)).trans (heap_alloc_new w _)) (by rw [sizeFz]; rfl) rfl (by simp [fzA, Value.oneCell']) ?_))
      have hS := setRow_heap w2 w.heap.size _ (fzA fz0) _ _ ((hb2.block w.heap.size (by simp)).trans (heap_alloc_new w _))
      exact ⟨_, resFzB (p := 6) (u := 7) (by kernel_rfl) _ _ w.heap.size _ rfl hS _ rfl rfl, rfl, ((bel1 w _).trans (hb2.mono (by simp))).trans ((KpSetRow (S := fun i => i = w.heap.size) _ _ _ rfl).below (by have := hb2.size; simp at this; omega) (fun i e => by omega))⟩
  · have hE : flE L a e = 2 := if_neg hl
    rw [fl_bad (by rw [hE]; decide), hE]
    have hB := liB_no hl
    rw [hB] at HL
    gi_wp2_with (first
      | ((first | refine ⟨trivial, fun _ => by omega, ?_⟩ | refine ⟨trivial, ?_⟩); gi_at_call 12; refine ((callsIn_wide (n := 8)).2 (HL.out _)).mono ?_; rintro en w1 ⟨rfl, hw1⟩; subst hw1)
      | (refine wpListIn_store_rowZ rfl _ _ _ rfl w.heap.size (fzA fz0) (fzA fz0) rfl rfl (heap_alloc_new w _) (by rw [sizeFz]; rfl) rfl (by simp [fzA, Value.oneCell']) ?_))
    have hS := setRow_heap (w.alloc (.cells (fzA fz0) 30)) w.heap.size _ (fzA fz0) _ _ (heap_alloc_new w _)
    exact ⟨_, resFzB (p := 6) (u := 7) (by kernel_rfl) _ _ w.heap.size _ rfl hS _ rfl rfl, rfl, (bel1 w _).trans ((KpSetRow (S := fun i => i = w.heap.size) _ _ _ rfl).below (by simp) (fun i e => by omega))⟩
end Go.Proofs.Ytonmoidalkcmoaa
