import Derived.Test.YtfolcjamefgphaaGsA
namespace Go.Proofs.Ytfolcjamefgphaa
open Go.RowKit Go.Shelf
attribute [local go_sem] Oper.semAt_some
theorem grow_step {A B : World} {row : Option Nat} {b e n : Nat} {v : Value} {xs : List Value} (h : A.ownsRow b e 1 v n xs) (hg : A.grownBy B row) (hr : ∀ r, row = some r → ∃ o : Obj, A.heap[r]? = some o ∧ o.isCells = false) : B.ownsRow b e 1 v n xs := by
  refine h.kept hg ?_
  rcases h.2 with ⟨rfl, _⟩ | ⟨g, cap, cur, rfl, _, hh, _⟩
  · exact .inl rfl
  · right
    intro e
    obtain ⟨o, ho, hc⟩ := hr g e.symm
    rw [hh] at ho
    cases ho
    simp [Obj.isCells] at hc
theorem hid_of {p : Prop} (h : p) : Hid p := h
theorem gbox {B b t e n : Nat} {w w1 : World} {v v0 : Value} {ys : List Value} {o : Obj} (h : Boxed w b t v) (hb : b < B) (own : w.ownsRow B e 1 v0 n ys) (hg : (w.alloc o).grownBy w1 v0.ownBlock) : Boxed w1 b t v :=
  (h.alloc o).kept hg (fun e => by have := (own.lt b e.symm).1; omega)
theorem ez_len (r : Int) : 1 ≤ (Lib.encodeRuneZ r).length ∧ (Lib.encodeRuneZ r).length ≤ 4 := by
  unfold Lib.encodeRuneZ
  repeat (first | (split) | (constructor <;> simp))
theorem rc_bv (r : Int) : Lib.runeCells r = bv (Lib.encodeRuneZ r) := rfl
theorem gfm {w : World} {base size n : Nat} {e : TypeId} {v : Value} {xs : List Value} (h : w.ownsRow base e size v n xs) (hn : 0 < n) : ∃ g cap, v = .slice (some ⟨g, 0, none⟩) n cap := by
  rcases h.2 with ⟨_, rfl⟩ | ⟨g, cap, cur, rfl, _⟩
  · omega
  · exact ⟨g, cap, rfl⟩
theorem row_setg {W : World} {b e n c : Nat} {v : Value} {xs : List Value} (h : W.ownsRow b e 1 v n xs) (hc : c < b) (u' : Value) : (W.setCell ⟨c, 0, none⟩ u').ownsRow b e 1 v n xs :=
  ownsRow_setCell_other h (fun e => by have := (h.lt c e).1; omega) u'
theorem body_end {w W W1 : World} {s : ByteArray} {v v' : Value} {o1 : Obj} {n n' : Nat} {xs xs' : List Value} (h0 : Boxed W w.heap.size 32 v) (hown : W.ownsRow (w.heap.size + 2) 5 1 v n xs) (hB : Below w.heap.size w W) (hWs : w.heap.size + 2 ≤ W.heap.size)
    (own1 : W1.ownsRow (w.heap.size + 2) 5 1 v' n' xs') (hg1 : (W.alloc o1).grownBy W1 v.ownBlock) :
    KeepsOthers W (W1.setCell ⟨w.heap.size, 0, none⟩ v') ∧ Kp (w.heap.size + 1) s W (W1.setCell ⟨w.heap.size, 0, none⟩ v') ∧ Boxed (W1.setCell ⟨w.heap.size, 0, none⟩ v') w.heap.size 32 v' ∧ (W1.setCell ⟨w.heap.size, 0, none⟩ v').ownsRow (w.heap.size + 2) 5 1 v' n' xs' ∧ Below w.heap.size w (W1.setCell ⟨w.heap.size, 0, none⟩ v') ∧ w.heap.size + 2 ≤ (W1.setCell ⟨w.heap.size, 0, none⟩ v').heap.size := by
  have hko : KeepsOthers W (W1.setCell ⟨w.heap.size, 0, none⟩ v') := by
    refine ((KeepsOthers.alloc W o1).trans (KeepsOthers.of_grownBy hg1 ?_)).trans (KeepsOthers.setCell _ _ _)
    intro j o hj ho
    rcases (hown.alloc o1).2 with ⟨rfl, _⟩ | ⟨g, cap, cur, rfl, _, hh, _⟩
    · simp [Value.ownBlock] at hj
    · simp [Value.ownBlock] at hj
      subst hj
      rw [hh] at ho
      cases ho
      rfl
  have hsz : W.heap.size ≤ W1.heap.size := by have := hg1.size; simp at this; omega
  refine ⟨hko, ⟨fun hx => (gbox hx (by omega) hown hg1).other (by omega) _, hko.walks⟩, (gbox h0 (by omega) hown hg1).set _, row_setg own1 (by omega) _, ?_, ?_⟩
  · refine Below.setCell ?_ (p := ⟨w.heap.size, 0, none⟩) (Nat.le_refl _) _
    exact (hB.alloc (by omega) o1).grown hg1 (by simp; omega) (fun k e => by have := (hown.lt k e).1; omega)
  · have : (W1.setCell ⟨w.heap.size, 0, none⟩ v').heap.size = W1.heap.size := by simp
    omega
theorem own_heap {w w' : World} {B e sz n : Nat} {v : Value} {xs : List Value} (hh : w'.heap = w.heap) (h : w.ownsRow B e sz v n xs) : w'.ownsRow B e sz v n xs := by
  refine ⟨h.1, ?_⟩
  rcases h.2 with h1 | ⟨g, cap, cur, h1, h2, h3, h4⟩
  · exact .inl h1
  · exact .inr ⟨g, cap, cur, h1, h2, by rw [hh]; exact h3, h4⟩
theorem conv_own {w : World} {B : Nat} {v : Value} {L : List Int} (h : w.ownsRow B 5 1 v L.length (bv L)) : ∀ dst, Try.prog.underlying dst = some .string → (convert 32 dst v).run Try.prog w = .ok (.string (strOfNums L)) w := by
  intro dst hd
  rcases h.2 with ⟨rfl, h0⟩ | ⟨g, cap, cur, rfl, _⟩
  · have : L = [] := List.eq_nil_of_length_eq_zero h0
    subst this
    exact run_convert_bytes_nil w 32 5 Try.underlying32 Try.underlying5 0 0 dst hd
  · refine run_convert_bytes_arg w 32 5 Try.underlying32 Try.underlying5 g 0 L.length cap L rfl (fun i hi => ?_) dst hd
    exact own_cell h hi
theorem gsx_len {s : ByteArray} (x : Cut s) : (gsx x).length ≤ 4 := by
  unfold gsx
  split
  · exact (ez_len _).2
  · simp
theorem gsL_len {s : ByteArray} (pre : List (Cut s)) : (gsL pre).length ≤ 4 * pre.length := by
  unfold gsL
  induction pre with
  | nil => simp
  | cons a l ih => have := gsx_len a; simp only [List.flatMap_cons, List.length_append, List.length_cons]; omega
set_option maxRecDepth 100000 in
set_option maxHeartbeats 4000000 in
theorem guest_2 (g off cap : Nat) (zs : List Int) (w : World) (hn : zs.length ≤ 4194304) (hcap : zs.length ≤ cap) (hwf : ∀ z ∈ zs, 0 ≤ z ∧ z ≤ 255) (hg : g < w.heap.size) (hc : ∀ i, i < zs.length → w.cell? ⟨g, off + i, none⟩ = some (.int .u8 (zs.getD i 0))) (hz : ¬ (pz zs).length = zs.length) :
    Calls Try.prog 9 #[.slice (some ⟨g, off, none⟩) zs.length cap] w fun e w' => e = .returned (.string (strOfNums (gsL (cuts (strOfNums (pz zs)))))) ∧ Below w.heap.size w w' := by
  have hib := Try.bytes_IndexByte g off zs.length cap zs 0 w rfl hc
  rw [pz_ix zs hwf, if_neg hz] at hib
  have hpl := pz_len zs
  have hcv := run_convert_bytes_arg (P := Try.prog) (w.alloc (.cells #[.slice none 0 0] 32)) 32 5 Try.underlying32 Try.underlying5 g off (pz zs).length cap (pz zs) rfl (fun i hi => by rw [cell_al _ _ _ hg, hc i (by omega), pz_at zs i hi]) 9 Try.underlying9
  have hss : (strOfNums (pz zs)).size ≤ 4194304 := by rw [strOfNums_size]; omega
  obtain ⟨s, hs⟩ : ∃ s, strOfNums (pz zs) = s := ⟨_, rfl⟩
  rw [hs] at hcv hss ⊢
  obtain ⟨N, hN⟩ : ∃ N, (pz zs).length = N := ⟨_, rfl⟩
  rw [hN] at hcv hpl hz hib
  obtain ⟨M, hM⟩ : ∃ M, zs.length = M := ⟨_, rfl⟩
  rw [hM] at hib hpl hz hn hcap ⊢
  have hN1 : (N : Int) < (M : Int) := by omega
  have hnc : ¬ 0 = cap := by omega
  have hnc2 : ¬ cap = 0 := by omega
  clear hc hwf hN hM hs
  refine (callsIn_wide (n := 9)).1 ?_
  refine callsIn_of_wp_marks Try.func9 rfl trivial ?_ rfl
  simp only [Try.ntmps9, List.size_toArray, List.length_cons, List.length_nil, Nat.reduceAdd, Nat.reduceSub, Array.replicate_succ, Array.replicate_zero, List.push_toArray, List.append_toArray, List.nil_append, List.cons_append]
  gi_wp2_with (first | (refine ⟨trivial, ?_⟩; gi_at_call 17; refine (callsIn_wide.2 hib).mono ?_; rintro e wq ⟨rfl, hq⟩; subst wq) | (refine ⟨trivial, ?_⟩; gi_at_call 10; refine (runes_in _ _ _).mono ?_; rintro e wq ⟨rfl, hq⟩; subst wq))
  obtain ⟨W0, hW0⟩ : ∃ W0, ((w.alloc (Obj.cells #[Value.slice none 0 0] 32)).alloc (Obj.cells #[Value.string s] 9)) = W0 := ⟨_, rfl⟩
  have b0 : Boxed W0 w.heap.size 32 (.slice none 0 0) := by rw [← hW0]; exact (Boxed.new w 32 _).alloc _
  have b1 : Boxed W0 (w.heap.size + 1) 9 (.string s) := by
    rw [← hW0]; have := Boxed.new (w.alloc (Obj.cells #[Value.slice none 0 0] 32)) 9 (.string s)
    rwa [World.size_alloc] at this
  have hB0 : Below w.heap.size w W0 := by rw [← hW0]; exact ((Below.refl _ w).alloc (Nat.le_refl _) _).alloc (by simp) _
  have hsz : W0.heap.size = w.heap.size + 2 := by rw [← hW0]; simp
  rw [hW0]
  clear hW0
  refine wpIn_rangeFunc_ownF (F := Fence.wide) rfl (by decide) (gf := 19) (lb := #[.pointer (some ⟨w.heap.size + 1, 0, none⟩)]) rfl trivial (enters_of Try.func19 (by kernel_rfl) rfl)
    (runes_stops (9 - 1) (by decide) (w.heap.size + 1) s W0 b1) Kp_t (Kp_b (w := W0)) (Below.refl _ _) (fun _ => rfl)
    (fun pre W => (∃ v, Boxed W w.heap.size 32 v ∧ W.ownsRow (w.heap.size + 2) 5 1 v (gsL pre).length (bv (gsL pre))) ∧ Below w.heap.size w W ∧ w.heap.size + 2 ≤ W.heap.size)
    (fun _ _ _ => False)
    (OwnFrom.and (Own.from (fun t A B row h hg hr => by
      obtain ⟨v, h1, h2⟩ := h
      exact ⟨v, boxed_step h1 hg hr, grow_step h2 hg hr⟩) _) (OwnFrom.and (ownFrom_below (Nat.le_refl _) (by omega)) (fun _ _ _ _ h hg _ => Nat.le_trans h hg.size)))
    (fun c => fun _ _ _ _ h _ _ => h)
    ⟨⟨_, b0, World.ownsRow_nil _ _ _ _⟩, hB0, by omega⟩
    (fun x => { tmps := #[.slice (some ⟨g, off, none⟩) N cap, undef, .string ⟨#[]⟩, .int .i64 (N : Int), .pointer (some ⟨w.heap.size, 0, none⟩), undef, .int .i32 x.1.2, .slice (some ⟨g, off, none⟩) M cap, .int .i64 (N : Int), .int .i64 (N : Int), .bool true, .slice (some ⟨g, off, none⟩) M cap, .int .i64 (N : Int), .slice (some ⟨g, off, none⟩) N cap, .slice (some ⟨g, off, none⟩) N cap, .string s, .func (.func 19) #[] #[.pointer (some ⟨w.heap.size + 1, 0, none⟩)], .int .i64 (x.1.1 : Int), .int .i32 x.1.2, undef, undef, undef, undef, undef, undef, undef, undef], defers := [] }) ?assign ?body ?done ?stop
  case assign =>
    intro l x W K hK
    unfold encs
    gi_wp2
    exact hK
  case body =>
    rintro l pre x W ⟨⟨v, h0, hown⟩, hB, hWs⟩ hlen
    have c0 := h0.cell; have f0 := h0.frozen
    obtain ⟨hx1, hx2, hx3⟩ := x.2
    have hgl := gsL_len pre
    have HSN := hid_of (gsL_snoc pre x)
    cases hp : prn x.1.2
    · have HX : Hid (gsx x = [63]) := by rw [Hid]; unfold gsx; rw [hp, if_neg (by decide)]
      have ha := Try.utf8_AppendRune_plain (w.heap.size + 2) v (gsL pre).length (bv (gsL pre)) 63 (by decide) (by decide) W hown (by omega) hWs
      gi_wp2_with (first
        | (refine ⟨trivial, ?_⟩; gi_at_call 18; refine ((callsIn_wide.2 (isp_any _ _)).inRound l).mono ?_; rw [hp]; rintro e wq ⟨rfl, hq⟩; subst wq)
        | (refine ⟨trivial, ?_⟩; gi_at_call 16; refine ((callsIn_wide.2 ha).inRound l).mono ?_; rintro e W1 ⟨v', he, own1, o1, hg1⟩; obtain ⟨g1, k1, rfl⟩ := gfm own1 (by rw [rc_bv, bv_len]; have := (ez_len 63).1; omega); subst he; have hbx := gbox h0 (by omega) hown hg1; have c1 := hbx.cell; have f1 := hbx.frozen))
      obtain ⟨k1, k2, k3, k4, k5, k6⟩ := body_end (s := s) h0 hown hB hWs own1 hg1
      refine ⟨k1, k2, ⟨_, k3, ?_⟩, k5, k6⟩
      rw [HSN.out, HX.out, List.length_append, bv_append]
      exact k4
    · have HX : Hid (gsx x = Lib.encodeRuneZ x.1.2) := by rw [Hid]; unfold gsx; rw [hp, if_pos rfl]
      have ha := Try.utf8_AppendRune_plain (w.heap.size + 2) v (gsL pre).length (bv (gsL pre)) x.1.2 (by omega) (by omega) W hown (by omega) hWs
      gi_wp2_with (first
        | (refine ⟨trivial, ?_⟩; gi_at_call 18; refine ((callsIn_wide.2 (isp_any _ _)).inRound l).mono ?_; rw [hp]; rintro e wq ⟨rfl, hq⟩; subst wq)
        | (refine ⟨trivial, ?_⟩; gi_at_call 16; refine ((callsIn_wide.2 ha).inRound l).mono ?_; rintro e W1 ⟨v', he, own1, o1, hg1⟩; obtain ⟨g1, k1, rfl⟩ := gfm own1 (by rw [rc_bv, bv_len]; have := (ez_len x.1.2).1; omega); subst he; have hbx := gbox h0 (by omega) hown hg1; have c1 := hbx.cell; have f1 := hbx.frozen))
      obtain ⟨k1, k2, k3, k4, k5, k6⟩ := body_end (s := s) h0 hown hB hWs own1 hg1
      refine ⟨k1, k2, ⟨_, k3, ?_⟩, k5, k6⟩
      rw [HSN.out, HX.out, List.length_append, bv_append]
      rw [show (Lib.encodeRuneZ x.1.2).length = (Lib.runeCells x.1.2).length by rw [rc_bv, bv_len]]
      exact k4
  case done =>
    rintro D ys W hD hys ⟨⟨v, h0, hown⟩, hB, hWs⟩ hK
    have c0 := h0.cell
    subst hys
    have hcv2 := fun W' (h : W'.heap = W.heap) => conv_own (w := W') (own_heap h hown) 9 Try.underlying9
    have hcv3 := hcv2 W rfl
    have hcv4 := hcv2 W.drew rfl
    clear hcv2
    gi_wp2
    refine ⟨by simp, .inl ⟨_, _, rfl, run_takeDeferred (w := W) hK, ?_⟩⟩
    refine ⟨.string (strOfNums (gsL (cuts s))), ?_, rfl, hB.trans (belowK_b (w := w) (Nat.le_refl _) W D _ _ (by omega) hK rfl rfl)⟩
    simp [results, Try.f9, go_sem]
  case stop =>
    rintro D c pre W hD hpre hF hK
    exact hF.elim
set_option maxRecDepth 100000 in
set_option maxHeartbeats 4000000 in
theorem guest_core (ao : Option Addr) (N cap : Nat) (s : ByteArray) (w : World) (hss : s.size ≤ 4194304)
    (hib : Calls Try.prog 17 #[.slice ao N cap, .int .u8 0] w fun e w' => e = .returned (.int .i64 (-1)) ∧ w' = w)
    (hcv : Sem.run Try.prog (convert 32 9 (.slice ao N cap)) (w.alloc (Obj.cells #[Value.slice none 0 0] 32)) = .ok (.string s) (w.alloc (Obj.cells #[Value.slice none 0 0] 32))) :
    Calls Try.prog 9 #[.slice ao N cap] w fun e w' => e = .returned (.string (strOfNums (gsL (cuts s)))) ∧ Below w.heap.size w w' := by
  refine (callsIn_wide (n := 9)).1 ?_
  refine callsIn_of_wp_marks Try.func9 rfl trivial ?_ rfl
  simp only [Try.ntmps9, List.size_toArray, List.length_cons, List.length_nil, Nat.reduceAdd, Nat.reduceSub, Array.replicate_succ, Array.replicate_zero, List.push_toArray, List.append_toArray, List.nil_append, List.cons_append]
  gi_wp2_with (first | (refine ⟨trivial, ?_⟩; gi_at_call 17; refine (callsIn_wide.2 hib).mono ?_; rintro e wq ⟨rfl, hq⟩; subst wq) | (refine ⟨trivial, ?_⟩; gi_at_call 10; refine (runes_in _ _ _).mono ?_; rintro e wq ⟨rfl, hq⟩; subst wq))
  obtain ⟨W0, hW0⟩ : ∃ W0, ((w.alloc (Obj.cells #[Value.slice none 0 0] 32)).alloc (Obj.cells #[Value.string s] 9)) = W0 := ⟨_, rfl⟩
  have b0 : Boxed W0 w.heap.size 32 (.slice none 0 0) := by rw [← hW0]; exact (Boxed.new w 32 _).alloc _
  have b1 : Boxed W0 (w.heap.size + 1) 9 (.string s) := by
    rw [← hW0]; have := Boxed.new (w.alloc (Obj.cells #[Value.slice none 0 0] 32)) 9 (.string s)
    rwa [World.size_alloc] at this
  have hB0 : Below w.heap.size w W0 := by rw [← hW0]; exact ((Below.refl _ w).alloc (Nat.le_refl _) _).alloc (by simp) _
  have hsz : W0.heap.size = w.heap.size + 2 := by rw [← hW0]; simp
  rw [hW0]
  clear hW0
  refine wpIn_rangeFunc_ownF (F := Fence.wide) rfl (by decide) (gf := 19) (lb := #[.pointer (some ⟨w.heap.size + 1, 0, none⟩)]) rfl trivial (enters_of Try.func19 (by kernel_rfl) rfl)
    (runes_stops (9 - 1) (by decide) (w.heap.size + 1) s W0 b1) Kp_t (Kp_b (w := W0)) (Below.refl _ _) (fun _ => rfl)
    (fun pre W => (∃ v, Boxed W w.heap.size 32 v ∧ W.ownsRow (w.heap.size + 2) 5 1 v (gsL pre).length (bv (gsL pre))) ∧ Below w.heap.size w W ∧ w.heap.size + 2 ≤ W.heap.size)
    (fun _ _ _ => False)
    (OwnFrom.and (Own.from (fun t A B row h hg hr => by
      obtain ⟨v, h1, h2⟩ := h
      exact ⟨v, boxed_step h1 hg hr, grow_step h2 hg hr⟩) _) (OwnFrom.and (ownFrom_below (Nat.le_refl _) (by omega)) (fun _ _ _ _ h hg _ => Nat.le_trans h hg.size)))
    (fun c => fun _ _ _ _ h _ _ => h)
    ⟨⟨_, b0, World.ownsRow_nil _ _ _ _⟩, hB0, by omega⟩
    (fun x => { tmps := #[.slice ao N cap, undef, .string ⟨#[]⟩, .int .i64 (-1), .pointer (some ⟨w.heap.size, 0, none⟩), undef, .int .i32 x.1.2, .slice ao N cap, .int .i64 (-1), .int .i64 (-1), .bool false, undef, undef, undef, .slice ao N cap, .string s, .func (.func 19) #[] #[.pointer (some ⟨w.heap.size + 1, 0, none⟩)], .int .i64 (x.1.1 : Int), .int .i32 x.1.2, undef, undef, undef, undef, undef, undef, undef, undef], defers := [] }) ?assign ?body ?done ?stop
  case assign =>
    intro l x W K hK
    unfold encs
    gi_wp2
    exact hK
  case body =>
    rintro l pre x W ⟨⟨v, h0, hown⟩, hB, hWs⟩ hlen
    have c0 := h0.cell; have f0 := h0.frozen
    obtain ⟨hx1, hx2, hx3⟩ := x.2
    have hgl := gsL_len pre
    have HSN := hid_of (gsL_snoc pre x)
    cases hp : prn x.1.2
    · have HX : Hid (gsx x = [63]) := by rw [Hid]; unfold gsx; rw [hp, if_neg (by decide)]
      have ha := Try.utf8_AppendRune_plain (w.heap.size + 2) v (gsL pre).length (bv (gsL pre)) 63 (by decide) (by decide) W hown (by omega) hWs
      gi_wp2_with (first
        | (refine ⟨trivial, ?_⟩; gi_at_call 18; refine ((callsIn_wide.2 (isp_any _ _)).inRound l).mono ?_; rw [hp]; rintro e wq ⟨rfl, hq⟩; subst wq)
        | (refine ⟨trivial, ?_⟩; gi_at_call 16; refine ((callsIn_wide.2 ha).inRound l).mono ?_; rintro e W1 ⟨v', he, own1, o1, hg1⟩; obtain ⟨g1, k1, rfl⟩ := gfm own1 (by rw [rc_bv, bv_len]; have := (ez_len 63).1; omega); subst he; have hbx := gbox h0 (by omega) hown hg1; have c1 := hbx.cell; have f1 := hbx.frozen))
      obtain ⟨k1, k2, k3, k4, k5, k6⟩ := body_end (s := s) h0 hown hB hWs own1 hg1
      refine ⟨k1, k2, ⟨_, k3, ?_⟩, k5, k6⟩
      rw [HSN.out, HX.out, List.length_append, bv_append]
      exact k4
    · have HX : Hid (gsx x = Lib.encodeRuneZ x.1.2) := by rw [Hid]; unfold gsx; rw [hp, if_pos rfl]
      have ha := Try.utf8_AppendRune_plain (w.heap.size + 2) v (gsL pre).length (bv (gsL pre)) x.1.2 (by omega) (by omega) W hown (by omega) hWs
      gi_wp2_with (first
        | (refine ⟨trivial, ?_⟩; gi_at_call 18; refine ((callsIn_wide.2 (isp_any _ _)).inRound l).mono ?_; rw [hp]; rintro e wq ⟨rfl, hq⟩; subst wq)
        | (refine ⟨trivial, ?_⟩; gi_at_call 16; refine ((callsIn_wide.2 ha).inRound l).mono ?_; rintro e W1 ⟨v', he, own1, o1, hg1⟩; obtain ⟨g1, k1, rfl⟩ := gfm own1 (by rw [rc_bv, bv_len]; have := (ez_len x.1.2).1; omega); subst he; have hbx := gbox h0 (by omega) hown hg1; have c1 := hbx.cell; have f1 := hbx.frozen))
      obtain ⟨k1, k2, k3, k4, k5, k6⟩ := body_end (s := s) h0 hown hB hWs own1 hg1
      refine ⟨k1, k2, ⟨_, k3, ?_⟩, k5, k6⟩
      rw [HSN.out, HX.out, List.length_append, bv_append]
      rw [show (Lib.encodeRuneZ x.1.2).length = (Lib.runeCells x.1.2).length by rw [rc_bv, bv_len]]
      exact k4
  case done =>
    rintro D ys W hD hys ⟨⟨v, h0, hown⟩, hB, hWs⟩ hK
    have c0 := h0.cell
    subst hys
    have hcv2 := fun W' (h : W'.heap = W.heap) => conv_own (w := W') (own_heap h hown) 9 Try.underlying9
    have hcv3 := hcv2 W rfl
    have hcv4 := hcv2 W.drew rfl
    clear hcv2
    gi_wp2
    refine ⟨by simp, .inl ⟨_, _, rfl, run_takeDeferred (w := W) hK, ?_⟩⟩
    refine ⟨.string (strOfNums (gsL (cuts s))), ?_, rfl, hB.trans (belowK_b (w := w) (Nat.le_refl _) W D _ _ (by omega) hK rfl rfl)⟩
    simp [results, Try.f9, go_sem]
  case stop =>
    rintro D c pre W hD hpre hF hK
    exact hF.elim
theorem guest_1 (g off cap : Nat) (zs : List Int) (w : World) (hn : zs.length ≤ 4194304) (hwf : ∀ z ∈ zs, 0 ≤ z ∧ z ≤ 255) (hg : g < w.heap.size) (hc : ∀ i, i < zs.length → w.cell? ⟨g, off + i, none⟩ = some (.int .u8 (zs.getD i 0))) (hz : (pz zs).length = zs.length) :
    Calls Try.prog 9 #[.slice (some ⟨g, off, none⟩) zs.length cap] w fun e w' => e = .returned (.string (strOfNums (gsL (cuts (strOfNums (pz zs)))))) ∧ Below w.heap.size w w' := by
  have hib := Try.bytes_IndexByte g off zs.length cap zs 0 w rfl hc
  rw [pz_ix zs hwf, if_pos hz] at hib
  have hcv := run_convert_bytes_arg (P := Try.prog) (w.alloc (.cells #[.slice none 0 0] 32)) 32 5 Try.underlying32 Try.underlying5 g off (pz zs).length cap (pz zs) rfl (fun i hi => by rw [cell_al _ _ _ hg, hc i (by omega), pz_at zs i hi]) 9 Try.underlying9
  rw [hz] at hcv
  exact guest_core _ _ _ _ w (by rw [strOfNums_size]; omega) hib hcv
theorem ib_empty (ao : Option Addr) (cap : Nat) (w : World) : Calls Try.prog 17 #[.slice ao 0 cap, .int .u8 0] w fun e w' => e = .returned (.int .i64 (-1)) ∧ w' = w := by
  have hrun : (Extern.BytealgIndexByte.indexByte #[.slice ao 0 cap, .int .u8 0]).run Try.prog w = .ok (.int .i64 (-1)) w := by
    rcases ao with _ | a
    · exact Lib.run_indexByteNil w 0 cap 0
    · have hl := Lib.run_loadBytesX (P := Try.prog) w [] a .empty (fun j x hj => by simp at hj)
      have hs := Lib.run_indexByteString (P := Try.prog) .empty 0 w
      change Sem.run Try.prog (do
        let b ← Extern.Bytes.bytesOf (.slice (some a) 0 cap)
        let c ← Extern.Bytes.asByte (.int .u8 0)
        match (List.range b.size).find? fun i => b[i]! == c with
        | some i => pure (goInt i)
        | none => pure (goInt (-1))) w = _
      change Sem.run Try.prog (do
        let b ← Extern.Bytes.bytesOf (.string .empty)
        let c ← Extern.Bytes.asByte (.int .u8 0)
        match (List.range b.size).find? fun i => b[i]! == c with
        | some i => pure (goInt i)
        | none => pure (goInt (-1))) w = _ at hs
      have he : (⟨ByteArray.empty.data ++ (Lib.bytesOf []).toArray⟩ : ByteArray) = .empty := rfl
      rw [he] at hl
      simp only [List.length_nil] at hl
      simp only [Extern.Bytes.bytesOf, Sem.run_bind, Sem.run_pure, hl, Result.andThen] at hs ⊢
      exact hs
  go_enter Try.func17, Try.ntmps17
  go_wp2
  rw [run_callFunc_extern Try.func35 (by kernel_rfl) (by kernel_rfl) (by kernel_rfl) (e := Extern.BytealgIndexByte.indexByte) (by kernel_rfl), hrun]
  simp only [Result.andThen]
  rw [Oper.upon_value]
  go_wp2
  go_ret
  exact ⟨rfl, rfl⟩
theorem conv_empty (ao : Option Addr) (cap : Nat) (w : World) : ∀ dst, Try.prog.underlying dst = some .string → (convert 32 dst (.slice ao 0 cap)).run Try.prog w = .ok (.string (strOfNums [])) w := by
  intro dst hd
  rcases ao with _ | a
  · exact run_convert_bytes_nil w 32 5 Try.underlying32 Try.underlying5 0 cap dst hd
  · have hl : (loadCells a 0).run Try.prog w = .ok (([] : List Int).map (Value.int .u8)).toArray w := by
      have := run_loadCells_list (P := Try.prog) w a [] (fun j v hj => by simp at hj)
      simpa using this
    rw [run_convert_bytes_string w 32 dst 5 _ 0 cap Try.underlying32 Try.underlying5 hd, run_bytesToString w _ 0 cap [] hl]
    rfl
theorem guest_any (ao : Option Addr) (cap : Nat) (zs : List Int) (w : World) (hn : zs.length ≤ 4194304) (hcap : zs.length ≤ cap) (hwf : ∀ z ∈ zs, 0 ≤ z ∧ z ≤ 255) (hr : Reads w ao zs w.heap.size) :
    Calls Try.prog 9 #[.slice ao zs.length cap] w fun e w' => e = .returned (.string (strOfNums (gsL (cuts (strOfNums (pz zs)))))) ∧ Below w.heap.size w w' := by
  rcases Nat.eq_zero_or_pos zs.length with h | h
  · have : zs = [] := List.eq_nil_of_length_eq_zero h
    subst this
    exact guest_core ao 0 cap (strOfNums []) w (by rw [strOfNums_size]; simp) (ib_empty ao cap w) (conv_empty ao cap _ 9 Try.underlying9)
  · obtain ⟨b, off, rfl, hbl, hc⟩ := hr h
    by_cases hz : (pz zs).length = zs.length
    · exact guest_1 b off cap zs w hn hwf hbl hc hz
    · exact guest_2 b off cap zs w hn hcap hwf hbl hc hz
end Go.Proofs.Ytfolcjamefgphaa
