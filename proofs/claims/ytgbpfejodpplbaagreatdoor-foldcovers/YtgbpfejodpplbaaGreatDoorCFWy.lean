import Derived.Test.YtgbpfejodpplbaaGreatDoorCFNx
import Derived.Test.YtgbpfejodpplbaaGreatDoorCPNk
namespace Go.Proofs.YtgbpfejodpplbaaGreatDoor
open Go.RowKit Go.WideShapes Go.Shelf
set_option maxRecDepth 100000
attribute [local go_sem] Oper.semAt_some

/-- what the iterator over ways keeps by it -/
structure InW (w0 : World) (f e kc b1 b2 b3 : Nat) (W : World) : Prop where
  bl : Below w0.heap.size w0 W
  x1 : Boxed W b1 25 (.int .u32 f)
  x2 : Boxed W b2 25 (.int .u32 e)
  x3 : Boxed W b3 81 (.pointer (some ⟨kc, 0, none⟩))
theorem InW.step {w0 : World} {f e kc b1 b2 b3 : Nat} {A C : World} {row : Option Nat} (h : InW w0 f e kc b1 b2 b3 A) (hg : A.grownBy C row) (hr : ∀ r, row = some r → w0.heap.size ≤ r ∧ ∃ o : Obj, A.heap[r]? = some o ∧ o.isCells = false) : InW w0 f e kc b1 b2 b3 C :=
  ⟨h.bl.grown hg h.bl.size (fun k q => (hr k q).1), boxed_stepP h.x1 hg (fun r q => (hr r q).2), boxed_stepP h.x2 hg (fun r q => (hr r q).2), boxed_stepP h.x3 hg (fun r q => (hr r q).2)⟩
theorem InW.below {w0 : World} {f e kc b1 b2 b3 : Nat} {A C : World} (h : InW w0 f e kc b1 b2 b3 A) (hb : Below A.heap.size A C) : InW w0 f e kc b1 b2 b3 C :=
  ⟨btP h.bl hb, box_thru hb h.x1, box_thru hb h.x2, box_thru hb h.x3⟩
/-- what whoever ranges over ways may change -/
def Xw (gd kw : Nat) (W : World) (k : Nat) : Prop := k = gd ∨ k = kw ∨ ∃ n c, W.heap[kw]? = some (.cells #[.slice (some ⟨k, 0, none⟩) n c] 159 (0, 0))
structure KeW (w0 : World) (gd kw f e kc b1 b2 b3 : Nat) (W W' : World) : Prop where
  sz : W.heap.size ≤ W'.heap.size
  inw : InW w0 f e kc b1 b2 b3 W → InW w0 f e kc b1 b2 b3 W'
  cl : ∀ k cs t fr, W.heap[k]? = some (.cells cs t fr) → ¬ Xw gd kw W k → W'.heap[k]? = some (.cells cs t fr) ∧ ¬ Xw gd kw W' k
theorem KeW_t {w0 : World} {gd kw f e kc b1 b2 b3 : Nat} {A B C : World} (h : KeW w0 gd kw f e kc b1 b2 b3 A B) (k : KeW w0 gd kw f e kc b1 b2 b3 B C) : KeW w0 gd kw f e kc b1 b2 b3 A C :=
  ⟨Nat.le_trans h.sz k.sz, fun x => k.inw (h.inw x), fun i cs t fr h1 h2 => k.cl i cs t fr (h.cl i cs t fr h1 h2).1 (h.cl i cs t fr h1 h2).2⟩
theorem KeW_b {w0 : World} {gd kw f e kc b1 b2 b3 : Nat} {w : World} (hw : w0.heap.size ≤ w.heap.size) (hk : kw < w.heap.size) (W : World) (l : Nat) (o o' : Obj) (hl : w.heap.size ≤ l) (h : W.heap[l]? = some o) (hc : o.isCells = false) (_ : o.isWalk = false) : KeW w0 gd kw f e kc b1 b2 b3 W (W.putObj l o') := by
  refine ⟨by simp, fun x => x.step (grownBy_putObj' W l o') (fun r q => by cases q; exact ⟨by omega, o, h, hc⟩), fun k cs t fr h1 h2 => ⟨?_, fun q => h2 ?_⟩⟩
  · refine (World.putObj_heap_other (fun e => ?_)).trans h1
    subst e
    rw [h] at h1
    cases h1
    cases hc
  · rcases q with q | q | ⟨n, c, q⟩
    · exact .inl q
    · exact .inr (.inl q)
    · exact .inr (.inr ⟨n, c, by rw [← q]; exact (World.putObj_heap_other (by omega)).symm⟩)
/-- what stands when a range over ways begins -/
structure XwS (w0 : World) (gd kw : Nat) (W : World) : Prop where
  gd1 : w0.heap.size ≤ gd ∧ gd < W.heap.size
  kw1 : w0.heap.size ≤ kw ∧ kw < W.heap.size
  row : ∃ g n c, W.heap[kw]? = some (.cells #[.slice (some ⟨g, 0, none⟩) n c] 159 (0, 0)) ∧ w0.heap.size ≤ g ∧ g < W.heap.size
theorem XwS.below {w0 : World} {gd kw : Nat} {W V : World} (h : XwS w0 gd kw W) (hb : Below W.heap.size W V) : XwS w0 gd kw V := by
  have := hb.size
  obtain ⟨g, n, c, h1, h2, h3⟩ := h.row
  exact ⟨⟨h.gd1.1, by have := h.gd1.2; omega⟩, ⟨h.kw1.1, by have := h.kw1.2; omega⟩, g, n, c, (hb.block kw h.kw1.2).trans h1, h2, by omega⟩
theorem XwS.not {w0 : World} {gd kw : Nat} {W V : World} (h : XwS w0 gd kw W) (hb : Below W.heap.size W V) {k : Nat} (hk : k < w0.heap.size ∨ W.heap.size ≤ k) : ¬ Xw gd kw V k := by
  obtain ⟨g, n, c, h1, h2, h3⟩ := h.row
  have q1 := h.gd1
  have q2 := h.kw1
  rintro (q | q | ⟨n', c', q⟩)
  · omega
  · omega
  · rw [hb.block kw h.kw1.2, h1] at q
    cases q
    omega
theorem cell_obj {w : World} {b o : Nat} {v : Value} (h : w.cell? ⟨b, o, none⟩ = some v) : ∃ cs t fr, w.heap[b]? = some (.cells cs t fr) := by
  unfold World.cell? at h
  split at h
  · exact ⟨_, _, _, by assumption⟩
  · cases h
/-- the row that is gone through -/
def RowK (gd kw : Nat) (a : Option Addr) (nx : List Nat) (V : World) : Prop := 0 < nx.length → ∃ b off cs ty fr, a = some ⟨b, off, none⟩ ∧ V.heap[b]? = some (.cells cs ty fr) ∧ ¬ Xw gd kw V b ∧ ∀ j, j < nx.length → V.cell? ⟨b, off + j, none⟩ = some (.int .u32 (nx.getD j 0 : Nat))
theorem RowK.ke {w0 : World} {gd kw f e kc b1 b2 b3 : Nat} {A C : World} {a : Option Addr} {nx : List Nat} (h : RowK gd kw a nx A) (hk : KeW w0 gd kw f e kc b1 b2 b3 A C) : RowK gd kw a nx C := fun q => by
  obtain ⟨b, off, cs, ty, fr, h1, h2, h3, h4⟩ := h q
  obtain ⟨k1, k2⟩ := hk.cl b cs ty fr h2 h3
  exact ⟨b, off, cs, ty, fr, h1, k1, k2, fun j hj => (World.cell?_of_block (w := A) (a := ⟨b, off + j, none⟩) (k1.trans h2.symm)).trans (h4 j hj)⟩
set_option maxHeartbeats 4000000 in
theorem ways1_in {w0 : World} {kc pp : Nat} {ta : Option Addr} {tc : Nat} {ao : Option Addr} {cap : Nat} {L : List (Nat × Nat)} {J : List Nat} (h : ChS w0 kc pp ta tc ao cap L J) (hl : L.length ≤ 16384) (hE : isEn L 0 = true) (hop : ∀ i, i < L.length → opL L i < 256)
    (n : Nat) (hn1 : 2 ≤ n) (l f gd kw b1 b2 b3 : Nat) (hf : f < L.length) (Jq Jx : List Nat → World → Prop) (W : World) (hX : XwS w0 gd kw W)
    (hY : ∀ pre (x : Nat) W1, Jq pre W1 → pre.length < 16385 → pre ++ [x] <+: nxt L J f → YieldAt Fence.wide (n - 1) Tryz.prog l #[.int .u32 f, .int .u32 x] W1 fun en W' =>
      (en = .returned (.bool true) ∧ Jq (pre ++ [x]) W' ∧ KeW w0 gd kw f (f + 1) kc b1 b2 b3 W1 W' ∧ Upon W.heap.size W1 W') ∨ (en = .returned (.bool false) ∧ Jx (pre ++ [x]) W' ∧ Upon W.heap.size W1 W'))
    (hJ : OwnFrom W.heap.size Jq) (hP : InW w0 f (f + 1) kc b1 b2 b3 W) (h0 : Jq [] W) :
    CallsIn Fence.wide n Tryz.prog 102 #[.func (.yield l) #[] #[], .pointer (some ⟨b1, 0, none⟩), .pointer (some ⟨b2, 0, none⟩), .pointer (some ⟨b3, 0, none⟩)] W fun en W' => (∃ v, en = .returned v) ∧
      ((∃ ys, ys = nxt L J f ∧ Jq ys W') ∨ (∃ pre, pre <+: nxt L J f ∧ Jx pre W')) := by
  refine callsIn_of_wp Tryz.func102 rfl trivial ?_ rfl
  simp only [Tryz.ntmps102, List.size_toArray, List.length_cons, List.length_nil, Nat.reduceAdd, Nat.reduceSub, Array.replicate_succ, Array.replicate_zero, List.push_toArray, List.append_toArray, List.nil_append, List.cons_append]
  have hn0 : 1 ≤ n := by omega
  have HP := hidS hP
  have HJ := hidS hJ
  have HNx : Hid (Calls Tryz.prog 103 #[.pointer (some ⟨kc, 0, none⟩), .int .u32 f] W fun en w' => ∃ a c, en = .returned (.slice a (nxt L J f).length c) ∧ JRy w0 W a (nxt L J f) w' ∧ Below W.heap.size W w') := hidS (next_any' h hP.bl hl hE f hf (hop f hf))
  have hnl : (nxt L J f).length ≤ 16384 := nxt_len hl f
  have c1 := hP.x1.cell
  have HXN : Hid (∀ V, Below W.heap.size W V → ∀ k, (k < w0.heap.size ∨ W.heap.size ≤ k) → ¬ Xw gd kw V k) := hidS (fun V hV k hk => hX.not hV hk)
  have hw1 : IntKind.u32.wrap ((f : Int) + 1) = (f : Int) + 1 := by rw [IntKind.wrap_u32]; omega
  clear hP h hop hX hE hJ
  generalize nxt L J f = nx at *
  gi_wp2
  clear c1
  gi_loopw [5] (fun u wr => (u = .int .u32 f ∧ wr = W) ∨ (u = .int .u32 ((f : Int) + 1) ∧ InW w0 f (f + 1) kc b1 b2 b3 wr ∧ Jq nx wr))
    (fun u _ => f + 1 - (intOf u).toNat)
  case atStart => exact .inl ⟨rfl, rfl⟩
  case round =>
    rcases hrel with ⟨rfl, hwr⟩ | ⟨rfl, hP, hj⟩
    · subst hwr
      rename World => W
      have c2 := HP.out.x2.cell
      have c3 := HP.out.x3.cell
      have hlI : (f : Int) < ((f + 1 : Nat) : Int) := by omega
      have HN := (callsIn_wide (n := n - 1)).2 HNx.out
      gi_wp2_with ((first | refine ⟨trivial, fun _ => by omega, ?_⟩ | refine ⟨trivial, ?_⟩); gi_at_call 103; refine HN.mono ?_; rintro en w2 ⟨a2, cc2, rfl, hJ2, hb2⟩)
      have HRK : Hid (RowK gd kw a2 nx w2) := hidS (fun q => by
        obtain ⟨b, off, e1, e2, e3, e4⟩ := hJ2 q
        obtain ⟨cs, ty, fr, ho⟩ := cell_obj (e4 0 q)
        exact ⟨b, off, cs, ty, fr, e1, ho, HXN.out w2 hb2 b e3, e4⟩)
      have HP2 := HP.out.below hb2
      have HPh := hidS (And.intro HP2 (And.intro hb2.size (HJ.out [] W w2 none h0 (grown_belowP hb2) (fun r q => by cases q))))
      clear HP HN HNx HXN hJ2 hb2 HP2 h0 c2 c3
      gi_loopw [18] (fun u wr => ∃ t : Nat, u = .int .i64 t ∧ t ≤ nx.length ∧ InW w0 f (f + 1) kc b1 b2 b3 wr ∧ W.heap.size ≤ wr.heap.size ∧ Jq (nx.take t) wr ∧ RowK gd kw a2 nx wr)
        (fun u _ => nx.length - (intOf u).toNat)
      case atStart => exact ⟨0, rfl, Nat.zero_le _, HPh.out.1, HPh.out.2.1, HPh.out.2.2, HRK.out⟩
      case round =>
        clear HPh HRK
        obtain ⟨t, rfl, htl, hP, hsz, hj, hrk⟩ := hrel
        by_cases hlt : t < nx.length
        · have htI : (t : Int) < (nx.length : Int) := by omega
          have HRK := hidS hrk
          obtain ⟨b, off, cs, ty, fr, rfl, ho, _, hcl⟩ := hrk (by omega)
          have v0 := hcl t hlt
          have hsp : nx.take t ++ [nx.getD t 0] <+: nx := by
            rw [List.getD_eq_getElem?_getD, List.getElem?_eq_getElem hlt]
            simp only [Option.getD_some]
            rw [List.take_append_getElem]
            exact List.take_prefix _ _
          have htk : nx.take (t + 1) = nx.take t ++ [nx.getD t 0] := by
            rw [List.getD_eq_getElem?_getD, List.getElem?_eq_getElem hlt]
            simp only [Option.getD_some]
            rw [List.take_append_getElem]
          have hlen : (nx.take t).length < 16385 := by rw [List.length_take]; omega
          have hY2 := hY (nx.take t) (nx.getD t 0) wr hj hlen hsp
          have HTK := hidS htk
          generalize nx.getD t 0 = x at v0 hY2 HTK
          obtain ⟨fn, tmps, assign, body, hy, hR⟩ := hY2
          have hy' : (Instr.yield l #[.int .u32 (f : Int), .int .u32 (x : Int)]).run Tryz.prog wr = .ok (.round l fn tmps assign body) wr := hy
          have HPp := hidS (And.intro hP hsz)
          clear hcl hP hY hy hsp hlen ho htk hj
          gi_wp2
          refine hR.mono ?_
          clear hy' hR v0
          rintro en W3 (⟨rfl, hJ3, hk3, hu3⟩ | ⟨rfl, hJx3, hu3⟩)
          · gi_wp2
            go_roundw
            case rel => exact ⟨t + 1, by go_num, by omega, hk3.inw HPp.out.1, Nat.le_trans HPp.out.2 hk3.sz, by rw [HTK.out]; exact hJ3, HRK.out.ke hk3⟩
            case measure => simp [intOf]; omega
          · gi_wp2
            refine bodyPost_ret (results_none rfl _ _ _) rfl ?_
            exact ⟨⟨_, rfl⟩, .inr ⟨_, by rw [← HTK.out]; exact List.take_prefix _ _, hJx3⟩⟩
        · have htI : ¬ (t : Int) < (nx.length : Int) := by omega
          have HH : Hid (InW w0 f (f + 1) kc b1 b2 b3 wr ∧ Jq nx wr) := hidS ⟨hP, by rw [List.take_of_length_le (by omega)] at hj; exact hj⟩
          clear hY hj hrk hP
          gi_wp2
          go_roundw
          case rel => exact .inr ⟨by go_num, HH.out.1, HH.out.2⟩
          case measure => simp [intOf]
    · have c2 := hP.x2.cell
      have hlI : ¬ (f : Int) + 1 < ((f + 1 : Nat) : Int) := by omega
      have HH : Hid (Jq nx wr) := hidS hj
      clear hY hj HNx h0
      gi_wp2
      go_end0
      exact ⟨⟨_, rfl⟩, .inl HH.out⟩
theorem seqW {w0 : World} {kc pp : Nat} {ta : Option Addr} {tc : Nat} {ao : Option Addr} {cap : Nat} {L : List (Nat × Nat)} {J : List Nat} (h : ChS w0 kc pp ta tc ao cap L J) (hl : L.length ≤ 16384) (hE : isEn L 0 = true) (hop : ∀ i, i < L.length → opL L i < 256)
    (n : Nat) (hn1 : 2 ≤ n) (f gd kw b1 b2 b3 : Nat) (hf : f < L.length) (w : World) (hX : XwS w0 gd kw w) (hP : InW w0 f (f + 1) kc b1 b2 b3 w) :
    SeqOwn Fence.wide n Tryz.prog 102 #[.pointer (some ⟨b1, 0, none⟩), .pointer (some ⟨b2, 0, none⟩), .pointer (some ⟨b3, 0, none⟩)] (fun x : Nat => #[.int .u32 f, .int .u32 x]) (KeW w0 gd kw f (f + 1) kc b1 b2 b3) (fun ys => ys = nxt L J f) (fun pre => pre <+: nxt L J f) 16385 w :=
  fun l Jq Jx W hW hJ _ hY h0 => ways1_in h hl hE hop n hn1 l f gd kw b1 b2 b3 hf Jq Jx W (hX.below hW) hY hJ (hP.below hW) h0
theorem ways_any (kc f e : Nat) (w : World) : Calls Tryz.prog 85 #[.pointer (some ⟨kc, 0, none⟩), .int .u32 f, .int .u32 e] w fun en w' => en = .returned (.func (.func 102) #[] #[.pointer (some ⟨w.heap.size + 1, 0, none⟩), .pointer (some ⟨w.heap.size + 2, 0, none⟩), .pointer (some ⟨w.heap.size, 0, none⟩)]) ∧ Below w.heap.size w w' ∧ w'.heap.size = w.heap.size + 3 ∧ Boxed w' w.heap.size 81 (.pointer (some ⟨kc, 0, none⟩)) ∧ Boxed w' (w.heap.size + 1) 25 (.int .u32 f) ∧ Boxed w' (w.heap.size + 2) 25 (.int .u32 e) := by
  have b3 : Boxed (((w.alloc (.cells #[.pointer (some ⟨kc, 0, none⟩)] 81)).alloc (.cells #[.int .u32 (f : Int)] 25)).alloc (.cells #[.int .u32 (e : Int)] 25)) w.heap.size 81 (.pointer (some ⟨kc, 0, none⟩)) := ((Boxed.new _ _ _).alloc _).alloc _
  have b1 : Boxed (((w.alloc (.cells #[.pointer (some ⟨kc, 0, none⟩)] 81)).alloc (.cells #[.int .u32 (f : Int)] 25)).alloc (.cells #[.int .u32 (e : Int)] 25)) (w.heap.size + 1) 25 (.int .u32 f) := by
    have := (Boxed.new (w.alloc (.cells #[.pointer (some ⟨kc, 0, none⟩)] 81)) 25 (.int .u32 (f : Int))).alloc (.cells #[.int .u32 (e : Int)] 25)
    rw [World.size_alloc] at this
    exact this
  have b2 : Boxed (((w.alloc (.cells #[.pointer (some ⟨kc, 0, none⟩)] 81)).alloc (.cells #[.int .u32 (f : Int)] 25)).alloc (.cells #[.int .u32 (e : Int)] 25)) (w.heap.size + 2) 25 (.int .u32 e) := by
    have := Boxed.new ((w.alloc (.cells #[.pointer (some ⟨kc, 0, none⟩)] 81)).alloc (.cells #[.int .u32 (f : Int)] 25)) 25 (.int .u32 (e : Int))
    rw [World.size_alloc, World.size_alloc] at this
    exact this
  have HB := hidS (And.intro b3 (And.intro b1 b2))
  clear b1 b2 b3
  go_enter Tryz.func85, Tryz.ntmps85
  go_wp2
  go_ret
  exact ⟨rfl, belP (belP (belP (Below.refl _ _))), by simp, HB.out.1, HB.out.2.1, HB.out.2.2⟩
/-- mkD of ranges that have come to their end -/
def mkD (Ds : List Nat) : List Deferred := Ds.map fun d => { target := .collected d, args := #[] }
theorem leaves_marks {F : Fence} {n : Nat} {P : Program} {fn : Func} {tmps : Array Value} {R : Ending → World → Prop} (Rw : World → Prop) (Pd : Nat → Prop) (hR : ∀ W, Rw W → LeavesInM F n P fn tmps R [] .returning W) (hput : ∀ W d, Pd d → Rw W → W.heap[d]? = some (.deferred (some [])) → Rw (W.putObj d (.deferred none))) :
    ∀ (Ds : List Nat) (W : World), Ds.Nodup → (∀ d ∈ Ds, Pd d ∧ W.heap[d]? = some (.deferred (some []))) → Rw W → LeavesInM F n P fn tmps R (mkD Ds) .returning W
  | [], W, _, _, h => hR W h
  | d :: Ds, W, hn, hd, h => by
    have hd0 := hd d (List.mem_cons_self ..)
    refine ⟨by simp, .inl ⟨d, _, rfl, run_takeDeferred hd0.2, ?_⟩⟩
    refine leaves_marks Rw Pd hR hput Ds _ (List.nodup_cons.1 hn).2 (fun y hy => ⟨(hd y (List.mem_cons_of_mem _ hy)).1, ?_⟩) (hput W d hd0.1 h hd0.2)
    exact (World.putObj_heap_other (fun q => (List.nodup_cons.1 hn).1 (by rw [← q]; exact hy))).trans (hd y (List.mem_cons_of_mem _ hy)).2
end Go.Proofs.YtgbpfejodpplbaaGreatDoor
