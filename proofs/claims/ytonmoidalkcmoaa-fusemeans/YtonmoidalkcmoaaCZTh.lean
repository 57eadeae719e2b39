import Derived.Test.YtonmoidalkcmoaaCZTm
import Derived.RangeFuncNested
import Derived.RangeFuncBound
import Derived.RangeFuncCalls
import Derived.RangeFuncLeaves
import Derived.OwnWalkIn
import Derived.TacticsInMore
import Derived.LoopNIn
import Derived.LoopIn
namespace Go.Proofs.Ytonmoidalkcmoaa
open Go.RowKit Go.WideShapes Go.Shelf
set_option maxRecDepth 100000
attribute [local go_sem] Oper.semAt_some

abbrev encZ (x : Fz) : Array Value := #[.agg (fzA x)]
/-- what a round that goes on keeps -/
def Kz (B : Nat) (ao : Option Addr) (L : List (Nat × Nat)) (Bc : Nat) (W W' : World) : Prop := Fr B W W' ∧ (CRd W ao L Bc → CRd W' ao L Bc)
theorem Kz_t {B : Nat} {ao : Option Addr} {L : List (Nat × Nat)} {Bc : Nat} {a b c : World} (h : Kz B ao L Bc a b) (k : Kz B ao L Bc b c) : Kz B ao L Bc a c := ⟨h.1.trans k.1, fun x => k.2 (h.2 x)⟩
theorem heap_putz {W : World} {l b : Nat} {o o' : Obj} {cs : Array Value} {t : Nat} {fr : Nat × Nat} (h : W.heap[l]? = some o) (hc : o.isCells = false) (hb : W.heap[b]? = some (.cells cs t fr)) : (W.putObj l o').heap[b]? = some (.cells cs t fr) := by
  refine ((grownBy_putObj' W l o').block b (Array.getElem?_eq_some_iff.1 hb).1 ?_).trans hb
  intro e
  cases e
  rw [hb] at h
  cases h
  cases hc
theorem cellv_of {w W : World} (h : ∀ (i : Nat) (cs : Array Value) (t : TypeId) (fr : Nat × Nat), w.heap[i]? = some (.cells cs t fr) → W.heap[i]? = some (.cells cs t fr)) {p : Addr} {v : Value} (hv : w.cell? p = some v) : W.cell? p = some v := by
  have hv0 := hv
  unfold World.cell? at hv
  split at hv
  · rename_i cs t fr ho
    exact (World.cell?_of_block ((h _ cs t fr ho).trans ho.symm)).trans hv0
  · cases hv
theorem crd_of {w W : World} (h : ∀ (i : Nat) (cs : Array Value) (t : TypeId) (fr : Nat × Nat), w.heap[i]? = some (.cells cs t fr) → W.heap[i]? = some (.cells cs t fr)) {ao : Option Addr} {L : List (Nat × Nat)} {B : Nat} (hr : CRd w ao L B) : CRd W ao L B := fun hl => by
  obtain ⟨b, off, e, hb, hx⟩ := hr hl
  exact ⟨b, off, e, hb, fun j hj => ⟨cellv_of h (hx j hj).1, cellv_of h (hx j hj).2⟩⟩
theorem Kz_b {B : Nat} {ao : Option Addr} {L : List (Nat × Nat)} {Bc : Nat} {w : World} (W : World) (l : Nat) (o o' : Obj) (_ : w.heap.size ≤ l) (h : W.heap[l]? = some o) (hc : o.isCells = false) (_ : o.isWalk = false) : Kz B ao L Bc W (W.putObj l o') :=
  ⟨⟨by simp, fun _ _ _ _ _ q => heap_putz h hc q⟩, crd_of (fun _ _ _ _ q => heap_putz h hc q)⟩
/-- all things of a stretch -/
def thsV (L : List (Nat × Nat)) (at_ : Nat) : List Fz := thS L.length L at_
theorem thS_step (n : Nat) (p : Nat × Nat) (R : List (Nat × Nat)) (at_ : Nat) (h : erV p.1 p.2 = 0) : thS (n + 1) (p :: R) at_ = bst (p :: R) at_ 15 :: thS n ((p :: R).drop (bst (p :: R) at_ 15).len) (at_ + (bst (p :: R) at_ 15).len) := if_pos h
theorem thS_no (n : Nat) (p : Nat × Nat) (R : List (Nat × Nat)) (at_ : Nat) (h : ¬ erV p.1 p.2 = 0) : thS n (p :: R) at_ = [] := by
  cases n with
  | zero => rfl
  | succ n => exact if_neg h
theorem thS_nil (n : Nat) (at_ : Nat) : thS n [] at_ = [] := by cases n <;> rfl
/-- where the loop over the things stands -/
structure ThS (L : List (Nat × Nat)) (at_ cap : Nat) (ao : Option Addr) (Bc B : Nat) (w1 : World) (T : Nat) (cs : Array Value) (p : Nat) (a : Option Addr) (pre : List Fz) (W : World) : Prop where
  pl : p ≤ L.length
  pa : p < L.length → ∃ b off, ao = some ⟨b, off, none⟩ ∧ a = some ⟨b, off + p * 2, none⟩
  rest : ∃ f, pre ++ thS f (L.drop p) (at_ + p) = thsV L at_ ∧ L.length ≤ p + f
  np : pre.length ≤ p
  fr : Fr B w1 W
  rd : CRd W ao L Bc
  tb : W.heap[T]? = some (.cells cs 72)
  hz : B ≤ W.heap.size ∧ B ≤ T ∧ Bc ≤ W.heap.size
theorem wpListIn_store_rowZ {F : Fence} {n : Nat} {P : Program} {ops : Array Oper} {Q : Exit → Act → World → Prop} {rest : List Oper} {o : Oper} {a : Act} {w : World} (hg : o.guard = none) (t : TypeId) (p q : Operand) (ho : o.op = .store t p q)
    (b : Nat) (cs cs' : Array Value) (h0 : a.eval p = .pointer (some ⟨b, 0, none⟩)) (h1 : a.eval q = .agg cs') (hb : w.heap[b]? = some (.cells cs t)) (hi : (P.info? t).map (·.size) = some cs'.size) (hs : cs.size = cs'.size) (h2 : cs'.all (·.oneCell') = true)
    (h : wpListIn F n P ops Q rest (a.put o.dst undef) (w.setRow b cs')) : wpListIn F n P ops Q (o :: rest) a w := by
  refine wpListIn_plain hg fun _ hK => ?_
  have := run_storeVar_row (P := P) w b t t cs cs' hb hi hs h2
  have hr : (execOp a.eval o).run P w = .ok .skip (w.setRow b cs') := by
    simp only [execOp, ho, h0, h1, Instr.storeAt, Instr.sureAddr, Sem.run_bind, Sem.run_pure, Result.andThen, this]
  refine ⟨fun f hf => ?_, ?_⟩
  · simp [Oper.about, ho] at hf
  · have hs : (o.semAt F.round a.eval).run P w = .ok .skip (w.setRow b cs') := by
      rw [← hr]; congr 1; simp [Oper.semAt, ho, execOp]
    rw [hs]
    exact hK _ _ h
theorem all_one {cs : Array Value} (hs : cs.size = 16) (h : ∀ k, k < 16 → (cs.getD k .nilFunc).oneCell' = true) : cs.all (·.oneCell') = true := by
  rw [Array.all_eq_true]
  intro i hi
  have := h i (by omega)
  rw [Array.getD_eq_getD_getElem?, Array.getElem?_eq_getElem hi] at this
  simpa using this
def nil16 : Array Value := #[.nilFunc, .nilFunc, .nilFunc, .nilFunc, .nilFunc, .nilFunc, .nilFunc, .nilFunc, .nilFunc, .nilFunc, .nilFunc, .nilFunc, .nilFunc, .nilFunc, .nilFunc, .nilFunc]
/-- the table laid -/
theorem ths_start {L : List (Nat × Nat)} {at_ cap Bc B : Nat} {ao : Option Addr} {W w1 : World} {cs : Array Value} (hB : B ≤ W.heap.size) (hb : Below W.heap.size W w1) (hr : CRd W ao L Bc) (hBc : Bc ≤ W.heap.size) :
    ThS L at_ cap ao Bc B w1 w1.heap.size cs 0 ao [] ((w1.alloc (.cells nil16 72)).setRow w1.heap.size cs) := by
  have hk := KpSetRow (S := fun k => k = w1.heap.size) (w1.alloc (.cells nil16 72)) w1.heap.size cs rfl
  have hb2 : Below w1.heap.size w1 ((w1.alloc (.cells nil16 72)).setRow w1.heap.size cs) := (bel1 w1 _).trans (hk.below (by simp) (fun i e => by omega))
  have hb3 := hb.trans (hb2.mono hb.size)
  refine ⟨Nat.zero_le _, fun h => ?_, ⟨L.length, rfl, by omega⟩, Nat.le_refl _, Fr.of hb2, hr.below (hb3.mono hBc), setRow_heap _ _ _ _ _ _ (heap_alloc_new w1 _), by have := hb3.size; omega, by have := hb.size; omega, by have := hb3.size; omega⟩
  obtain ⟨b, off, e, _⟩ := hr h
  exact ⟨b, off, e, by simp [e]⟩
theorem boxed_belz {W V : World} {b t : Nat} {v : Value} (h : Boxed W b t v) (hb : Below W.heap.size W V) : Boxed V b t v := (hb.block b h.lt).trans h
theorem ThS.drew {L : List (Nat × Nat)} {at_ cap p T Bc B : Nat} {ao a : Option Addr} {w1 W : World} {cs : Array Value} {pre : List Fz} (h : ThS L at_ cap ao Bc B w1 T cs p a pre W) : ThS L at_ cap ao Bc B w1 T cs p a pre W.drew :=
  ⟨h.pl, h.pa, h.rest, h.np, h.fr, h.rd, h.tb, h.hz⟩
theorem ThS.below {L : List (Nat × Nat)} {at_ cap p T Bc B : Nat} {ao a : Option Addr} {w1 W W' : World} {cs : Array Value} {pre : List Fz} (h : ThS L at_ cap ao Bc B w1 T cs p a pre W) (hb : Below W.heap.size W W') : ThS L at_ cap ao Bc B w1 T cs p a pre W' :=
  ⟨h.pl, h.pa, h.rest, h.np, h.fr.trans (Fr.of hb), h.rd.below (hb.mono h.hz.2.2), (hb.block T (Array.getElem?_eq_some_iff.1 h.tb).1).trans h.tb, Nat.le_trans h.hz.1 hb.size, h.hz.2.1, Nat.le_trans h.hz.2.2 hb.size⟩
/-- the code that is left -/
theorem ThS.left {L : List (Nat × Nat)} {at_ cap p T Bc B : Nat} {ao a : Option Addr} {w1 W : World} {cs : Array Value} {pre : List Fz} (h : ThS L at_ cap ao Bc B w1 T cs p a pre W) : CRd W a (L.drop p) Bc := by
  intro hl
  rw [List.length_drop] at hl
  obtain ⟨b, off, e, ea⟩ := h.pa (by omega)
  have hr := h.rd
  subst e
  subst ea
  exact crd_drop hr p (by rw [List.length_drop]; exact hl)
/-- the inner loop: the longest thing of the kinds below k, the world since the outer round's beginning -/
structure InZ (V W : World) (R : List (Nat × Nat)) (beg k : Nat) : Prop where
  bl : Below V.heap.size V W
  lg : W.heap[V.heap.size]? = some (.cells (fzA (bst R beg (k - 1))) 30)
theorem InZ.th {V W W2 : World} {R : List (Nat × Nat)} {beg k : Nat} (h : InZ V W R beg k) (hb : Below W.heap.size W W2) (f : Fz) :
    let W3 := (W2.alloc (.cells #[.int .u32 0, .int .u32 0, .int .u8 0, .int .u8 0, .int .u32 0, .int .u32 0] 30)).setRow W2.heap.size (fzA f)
    Below V.heap.size V W3 ∧ W3.heap[V.heap.size]? = some (.cells (fzA (bst R beg (k - 1))) 30) ∧ W3.heap[W2.heap.size]? = some (.cells (fzA f) 30) ∧ V.heap.size ≠ W2.heap.size := by
  have hk := KpSetRow (S := fun k => k = W2.heap.size) (W2.alloc (.cells #[.int .u32 0, .int .u32 0, .int .u8 0, .int .u8 0, .int .u32 0, .int .u32 0] 30)) W2.heap.size (fzA f) rfl
  have hl : V.heap.size < W.heap.size := (Array.getElem?_eq_some_iff.1 h.lg).1
  have hs := hb.size
  have hb2 : Below W2.heap.size W2 ((W2.alloc (.cells #[.int .u32 0, .int .u32 0, .int .u8 0, .int .u8 0, .int .u32 0, .int .u32 0] 30)).setRow W2.heap.size (fzA f)) := (bel1 W2 _).trans (hk.below (by simp) (fun i e => by omega))
  exact ⟨(h.bl.trans (hb.mono h.bl.size)).trans (hb2.mono (by omega)), ((hb2.block _ (by omega)).trans (hb.block _ hl)).trans h.lg, setRow_heap _ _ _ _ _ _ (heap_alloc_new W2 _), by omega⟩
theorem InZ.make {V W : World} {R : List (Nat × Nat)} {beg k : Nat} {f : Fz} (h1 : Below V.heap.size V W) (h2 : W.heap[V.heap.size]? = some (.cells (fzA f) 30)) (hq : bst R beg k = f) : InZ V W R beg (k + 1) := ⟨h1, by rw [Nat.add_sub_cancel, hq]; exact h2⟩
theorem InZ.put {V W : World} {R : List (Nat × Nat)} {beg k : Nat} {f g : Fz} (h1 : Below V.heap.size V W) (h2 : W.heap[V.heap.size]? = some (.cells (fzA g) 30)) (hq : bst R beg k = f) : InZ V (W.setRow V.heap.size (fzA f)) R beg (k + 1) :=
  InZ.make (h1.trans ((KpSetRow (S := fun i => i = V.heap.size) _ _ _ rfl).below h1.size (fun i e => by omega))) (setRow_heap _ _ _ _ _ _ h2) hq
theorem bst_yes {R : List (Nat × Nat)} {beg k : Nat} {f : Fz} {b : Bool} (hk : 1 ≤ k) (h : fkV R beg k = (f, b)) (hlt : (bst R beg (k - 1)).len < f.len) : bst R beg k = f := by
  obtain ⟨k, rfl⟩ : ∃ j, k = j + 1 := ⟨k - 1, by omega⟩
  rw [Nat.add_sub_cancel] at hlt
  unfold bst
  rw [h, if_pos hlt]
theorem bst_not {R : List (Nat × Nat)} {beg k : Nat} {f : Fz} {b : Bool} (hk : 1 ≤ k) (h : fkV R beg k = (f, b)) (hlt : ¬ (bst R beg (k - 1)).len < f.len) : bst R beg k = bst R beg (k - 1) := by
  obtain ⟨k, rfl⟩ : ∃ j, k = j + 1 := ⟨k - 1, by omega⟩
  rw [Nat.add_sub_cancel] at hlt
  have h2 : bst R beg (k + 1) = if (bst R beg k).len < (fkV R beg (k + 1)).1.len then (fkV R beg (k + 1)).1 else bst R beg k := rfl
  rw [h2, h, if_neg hlt, Nat.add_sub_cancel]
theorem thS_none {R : List (Nat × Nat)} {beg : Nat} {f : Fz} (h0 : 0 < R.length) (h : fkV R beg 1 = (f, false)) (n at_ : Nat) : thS n R at_ = [] := by
  match R, h0 with
  | q :: R, _ =>
    rw [fkV_one] at h
    by_cases he : erV q.1 q.2 = 0
    · rw [if_pos he] at h; cases h
    · exact thS_no n q R at_ he
theorem thS_some {R : List (Nat × Nat)} {beg : Nat} {f : Fz} (h0 : 0 < R.length) (h : fkV R beg 1 = (f, true)) : 1 ≤ (bst R beg 15).len ∧ ∀ n, thS (n + 1) R beg = bst R beg 15 :: thS n (R.drop (bst R beg 15).len) (beg + (bst R beg 15).len) := by
  match R, h0 with
  | q :: R, _ =>
    rw [fkV_one] at h
    by_cases he : erV q.1 q.2 = 0
    · exact ⟨bst_pos he beg 14, fun n => thS_step n q R beg he⟩
    · rw [if_neg he] at h; cases h
/-- a round's thing, and what is left -/
theorem ThS.cut {L : List (Nat × Nat)} {at_ cap p T Bc B : Nat} {ao a : Option Addr} {w1 W : World} {cs : Array Value} {pre : List Fz} (h : ThS L at_ cap ao Bc B w1 T cs p a pre W) (hwf : Wfc L) (hp : p < L.length) {f : Fz} (h1 : fkV (L.drop p) (at_ + p) 1 = (f, true)) :
    1 ≤ (bst (L.drop p) (at_ + p) 15).len ∧ p + (bst (L.drop p) (at_ + p) 15).len ≤ L.length ∧ pre ++ [bst (L.drop p) (at_ + p) 15] <+: thsV L at_ ∧ (∃ f', pre ++ [bst (L.drop p) (at_ + p) 15] ++ thS f' (L.drop (p + (bst (L.drop p) (at_ + p) 15).len)) (at_ + (p + (bst (L.drop p) (at_ + p) 15).len)) = thsV L at_ ∧ L.length ≤ p + (bst (L.drop p) (at_ + p) 15).len + f') := by
  obtain ⟨hp1, hst⟩ := thS_some (by rw [List.length_drop]; omega) h1
  have hle := bst_le (wfc_drop hwf p) (at_ + p) 15
  rw [List.length_drop] at hle
  obtain ⟨f', hf, hfl⟩ := h.rest
  obtain ⟨f', rfl⟩ : ∃ g, f' = g + 1 := ⟨f' - 1, by omega⟩
  rw [hst f', List.drop_drop, Nat.add_assoc] at hf
  refine ⟨hp1, by omega, ⟨_, by rw [List.append_assoc]; exact hf⟩, f', by rw [List.append_assoc]; exact hf, by omega⟩
def sizeOf_ (v : Value) : Nat := match v with | .slice _ n _ => n | _ => 0
set_option maxHeartbeats 8000000 in
theorem th1_in (n : Nat) (hn1 : 1 ≤ n) (l b1 b2 Bc : Nat) (ao : Option Addr) (cap at_ : Nat) (L : List (Nat × Nat)) (J Jx : List Fz → World → Prop) (W : World) (hJ : AbidesFrom W.heap.size J) (B : Nat) (hB : B ≤ W.heap.size)
    (hcap : L.length ≤ cap) (hlen : at_ + L.length < 4294967296) (hwf : Wfc L)
    (hY : ∀ pre x W1, J pre W1 → pre.length < 4294967296 → YieldAt Fence.wide (n - 1) Try.prog l (encZ x) W1 fun e W' =>
      (e = .returned (.bool true) ∧ J (pre ++ [x]) W' ∧ Kz B ao L Bc W1 W') ∨ (e = .returned (.bool false) ∧ Jx (pre ++ [x]) W'))
    (h1 : Boxed W b1 23 (.int .u32 (at_ : Int))) (h2 : Boxed W b2 22 (.slice ao L.length cap)) (hr : CRd W ao L Bc) (hBc : Bc ≤ W.heap.size) (h0 : J [] W) :
    CallsIn Fence.wide n Try.prog 24 #[.func (.yield l) #[] #[], .pointer (some ⟨b1, 0, none⟩), .pointer (some ⟨b2, 0, none⟩)] W fun e W' => (∃ v, e = .returned v) ∧
      ((∃ ys, ys = thsV L at_ ∧ J ys W') ∨ (∃ pre, pre <+: thsV L at_ ∧ Jx pre W')) := by
  refine callsIn_of_wp Try.func24 rfl trivial ?_ rfl
  simp only [Try.ntmps24, List.size_toArray, List.length_cons, List.length_nil, Nat.reduceAdd, Nat.reduceSub, Array.replicate_succ, Array.replicate_zero, List.push_toArray, List.append_toArray, List.nil_append, List.cons_append]
  have HS := dhid (shapes_any W)
  gi_step
  refine wpIn_wide.2 (wp_scope_straight ((wpIn_wide (n := n)).1 ?_))
  gi_wp2_with (first
    | ((first | refine ⟨trivial, fun _ => by omega, ?_⟩ | refine ⟨trivial, ?_⟩); gi_at_call 25; refine ((callsIn_wide (n := n - 1)).2 HS.out).mono ?_; rintro e w1 ⟨cs, rfl, hcs, hsh, hone, hb1⟩)
    | (refine wpListIn_store_rowZ rfl _ _ _ rfl w1.heap.size nil16 cs rfl rfl (heap_alloc_new w1 _) (by rw [sizeSh, hcs]) hcs.symm (all_one hcs hone) ?_
       have H0 : Hid (ThS L at_ cap ao Bc B w1 w1.heap.size cs 0 ao [] ((w1.alloc (Obj.cells #[.nilFunc, .nilFunc, .nilFunc, .nilFunc, .nilFunc, .nilFunc, .nilFunc, .nilFunc, .nilFunc, .nilFunc, .nilFunc, .nilFunc, .nilFunc, .nilFunc, .nilFunc, .nilFunc] 72)).setRow w1.heap.size cs)) := dhid (ths_start hB hb1 hr hBc)
       have hb3 : Below W.heap.size W ((w1.alloc (Obj.cells #[.nilFunc, .nilFunc, .nilFunc, .nilFunc, .nilFunc, .nilFunc, .nilFunc, .nilFunc, .nilFunc, .nilFunc, .nilFunc, .nilFunc, .nilFunc, .nilFunc, .nilFunc, .nilFunc] 72)).setRow w1.heap.size cs) := (hb1.trans ((bel1 w1 _).mono hb1.size)).trans ((KpSetRow (S := fun k => k = w1.heap.size) _ _ cs rfl).below (by have := hb1.size; simp; omega) (fun i e => by have := hb1.size; omega))
       generalize hV0 : (w1.alloc (Obj.cells #[.nilFunc, .nilFunc, .nilFunc, .nilFunc, .nilFunc, .nilFunc, .nilFunc, .nilFunc, .nilFunc, .nilFunc, .nilFunc, .nilFunc, .nilFunc, .nilFunc, .nilFunc, .nilFunc] 72)).setRow w1.heap.size cs = V0 at *
       clear hV0
       have c1 := (boxed_belz h1 hb3).cell
       have c2 := (boxed_belz h2 hb3).cell
       have HJ0 := dhid (hJ [] W V0 none h0 (grown_of_below hb3) (fun r e => by cases e))
       have HSH := dhid hsh
       have HONE := dhid hone
       have HCS := dhid hcs
       have HB1 := dhid hb1
       clear h1 h2 hr HS hb3 hsh hone hcs hb1))
  simp only [Act.put]
  gi_region
  have H1 := dhid H0.out.drew
  have HJ1 := dhid (hJ [] V0 V0.drew none HJ0.out (grown_of_below (show Below V0.heap.size V0 V0.drew from ⟨rfl, rfl, rfl, Nat.le_refl _, fun _ _ => rfl⟩)) (fun r e => by cases e))
  clear HJ0 H0 c1 c2
  generalize V0.drew = V1 at *
  gi_wp2
  refine wpIn_label ?_
  gi_wp2
  gi_loopw [5, 6] (fun u v wr => ∃ (p beg : Nat) (a : Option Addr) (pre : List Fz), Hid (beg = at_ + p) ∧ u = .int .u32 (beg : Int) ∧ v = .slice a (L.length - p) (cap - p) ∧ Hid (ThS L at_ cap ao Bc B w1 w1.heap.size cs p a pre wr) ∧ Hid (J pre wr)) (fun _ v _ => sizeOf_ v)
  case atStart => exact ⟨0, at_, ao, [], dhid rfl, rfl, rfl, H1, HJ1⟩
  case round =>
    clear H1 HJ1
    obtain ⟨p, beg, a, pre, HBG, rfl, rfl, H, HJ⟩ := hrel
    rename World => V
    by_cases hpl : p < L.length
    · have hplI : (0 : Int) < ((L.length - p : Nat) : Int) := by omega
      obtain ⟨R, hR⟩ : ∃ R, R = L.drop p := ⟨_, rfl⟩
      have hRl : R.length = L.length - p := by rw [hR, List.length_drop]
      have HW := dhid (show Wfc R by rw [hR]; exact wfc_drop hwf p)
      have HRl := dhid hRl
      gi_wp2
      have HI0 : Hid (InZ V (V.alloc (.cells #[.int .u32 0, .int .u32 0, .int .u8 0, .int .u8 0, .int .u32 0, .int .u32 0] 30)) R beg 1) := dhid ⟨bel1 _ _, heap_alloc_new _ _⟩
      have hrs := H.out.hz
      have hplN : 0 < L.length - p := by omega
      simp only [decide_eq_true hplN]
      gi_loopw [8] (fun u w2 => ∃ k : Nat, u = .int .u8 (k : Int) ∧ 1 ≤ k ∧ k ≤ 16 ∧ Hid (InZ V w2 R beg k) ∧ Hid (2 ≤ k → ∃ f, fkV R beg 1 = (f, true))) (fun u _ => 16 - (intOf u).toNat)
      case atStart => exact ⟨1, rfl, Nat.le_refl _, by decide, HI0, dhid (fun h => absurd h (by decide))⟩
      case round =>
        rename World => w2
        clear HI0
        obtain ⟨k, rfl, hk1, hk2, HI, HP⟩ := hrel
        by_cases hk : k ≤ 15
        · have hkI : (k : Int) ≤ 15 := by omega
          have hkI' : (k : Int) < 16 := by omega
          obtain ⟨fv, hfv⟩ : ∃ fv, fv = cs.getD k .nilFunc := ⟨_, rfl⟩
          have cT : w2.cell? ⟨w1.heap.size, k, none⟩ = some fv := by
            rw [obj_cell (H.out.below HI.out.bl).tb k, hfv]
            have hkc : k < cs.size := by rw [HCS.out]; omega
            rw [Array.getD_eq_getD_getElem?, Array.getElem?_eq_getElem hkc]
            rfl
          have HFT : Hid (Calls Try.prog 26 #[fv, .int .u8 (k : Int), .slice a (L.length - p) (cap - p), .int .u32 (beg : Int)] w2 fun e w' => e = .returned (.tuple #[.agg (fzA (fkV R beg k).1), .bool (fkV R beg k).2]) ∧ Below w2.heap.size w2 w') := dhid (by
            have hT := H.out.below HI.out.bl
            have := fit_any (B := W.heap.size + 1) fv (shK k) k beg a (cap - p) R w2 w1 (hfv ▸ HSH.out k hk1 hk) (hT.fr.weak (by omega)) (by omega) (by omega) (by omega) HW.out (by rw [hR]; exact hT.left.mono hT.hz.2.2)
            rw [hRl] at this
            exact this)
          have HFK := dhid (show fkV R beg k = fkV R beg k from rfl)
          generalize hfk : fkV R beg k = fk at HFT
          obtain ⟨f, ok⟩ := fk
          simp only at HFT
          have HL := dhid (fun (w3 : World) (hb : Below w2.heap.size w2 w3) => ((hb.block V.heap.size (Array.getElem?_eq_some_iff.1 HI.out.lg).1).trans HI.out.lg))
          have HBV := dhid (fun (w3 : World) (hb : Below w2.heap.size w2 w3) => HI.out.bl.trans (hb.mono HI.out.bl.size))
          have hVl : V.heap.size < w2.heap.size := (Array.getElem?_eq_some_iff.1 HI.out.lg).1
          have HFK2 := dhid hfk
          have HR := dhid hR
          have HC := dhid (fun (w3 : World) (hb : Below w2.heap.size w2 w3) => InZ.th HI.out hb f)
          clear hRl hR hfv hfk HFK hY HSH HCS HONE hwf HL HBV
          gi_wp2_with fail
          refine ⟨trivial, ?_⟩
          refine ((callsIn_wide (n := n - 1)).2 HFT.out).mono ?_
          rintro e w3 ⟨rfl, hb3⟩
          clear HFT cT
          by_cases hk0 : k = 1
          · cases ok with
            | false =>
              have hE := dhid (fun n at_ => thS_none (R := R) (by rw [HRl.out]; omega) (hk0 ▸ HFK2.out) n at_)
              have HB3 := dhid (HC.out w3 hb3).1
              subst hk0
              clear HC
              gi_wp2_with (refine wpListIn_store_rowZ rfl _ _ _ rfl w3.heap.size (fzA fz0) (fzA f) rfl rfl (heap_alloc_new w3 _) (by rw [sizeFz]; rfl) rfl (by simp [fzA, Value.oneCell']) ?_)
              rw [Exit.noGoto_normal]
              go_end0
              refine ⟨⟨_, rfl⟩, .inl ⟨pre, ?_, hJ pre V _ none HJ.out (grown_of_below HB3.out) (fun r e => by cases e)⟩⟩
              obtain ⟨f', hf, hfl⟩ := H.out.rest
              rw [← HR.out, hE.out, List.append_nil] at hf
              exact hf
            | true =>
              subst hk0
              have HP1 : Hid (2 ≤ 2 → ∃ f, fkV R beg 1 = (f, true)) := dhid (fun _ => ⟨_, HFK2.out⟩)
              by_cases hlt : (bst R beg (1 - 1)).len < f.len
              · have HQ := dhid (show bst R beg 1 = f from bst_yes (by omega) HFK2.out hlt)
                have hltI : ((bst R beg (1 - 1)).len : Int) < (f.len : Int) := by omega
                gi_wp2_with (first
                 | (
                   refine wpListIn_store_rowZ rfl _ _ _ rfl w3.heap.size (fzA fz0) (fzA f) rfl rfl (heap_alloc_new w3 _) (by rw [sizeFz]; rfl) rfl (by simp [fzA, Value.oneCell']) ?_
                   have HX := dhid (HC.out w3 hb3)
                   generalize (w3.alloc (Obj.cells #[.int .u32 0, .int .u32 0, .int .u8 0, .int .u8 0, .int .u32 0, .int .u32 0] 30)).setRow w3.heap.size (fzA f) = W3 at *
                   obtain ⟨x0, x1, x2, x3, x4, x5⟩ := fz_cells HX.out.2.2.1
                   have y1 := (fz_cells HX.out.2.1).2.1
                   clear HC)
                 | (refine wpListIn_store_rowZ rfl _ _ _ rfl V.heap.size (fzA (bst R beg (1 - 1))) (fzA f) rfl rfl HX.out.2.1 (by rw [sizeFz]; rfl) rfl (by simp [fzA, Value.oneCell']) ?_))
                go_roundw
                case rel => exact ⟨2, by go_num, by omega, by omega, dhid (InZ.put HX.out.1 HX.out.2.1 HQ.out), HP1⟩
                case measure => first | (simp [intOf]; done) | (simp [intOf]; omega)
              · have HQ := dhid (show bst R beg 1 = bst R beg (1 - 1) from bst_not (by omega) HFK2.out hlt)
                have hltI : ¬ ((bst R beg (1 - 1)).len : Int) < (f.len : Int) := by omega
                gi_wp2_with (
                   refine wpListIn_store_rowZ rfl _ _ _ rfl w3.heap.size (fzA fz0) (fzA f) rfl rfl (heap_alloc_new w3 _) (by rw [sizeFz]; rfl) rfl (by simp [fzA, Value.oneCell']) ?_
                   have HX := dhid (HC.out w3 hb3)
                   generalize (w3.alloc (Obj.cells #[.int .u32 0, .int .u32 0, .int .u8 0, .int .u8 0, .int .u32 0, .int .u32 0] 30)).setRow w3.heap.size (fzA f) = W3 at *
                   obtain ⟨x0, x1, x2, x3, x4, x5⟩ := fz_cells HX.out.2.2.1
                   have y1 := (fz_cells HX.out.2.1).2.1
                   clear HC)
                go_roundw
                case rel => exact ⟨2, by go_num, by omega, by omega, dhid (InZ.make HX.out.1 HX.out.2.1 HQ.out), HP1⟩
                case measure => first | (simp [intOf]; done) | (simp [intOf]; omega)
          · have hk0I : ¬ (k : Int) = 1 := by omega
            have HP1 : Hid (2 ≤ k + 1 → ∃ f, fkV R beg 1 = (f, true)) := dhid (fun _ => HP.out (by omega))
            by_cases hlt : (bst R beg (k - 1)).len < f.len
            · have HQ := dhid (show bst R beg k = f from bst_yes (by omega) HFK2.out hlt)
              have hltI : ((bst R beg (k - 1)).len : Int) < (f.len : Int) := by omega
              gi_wp2_with (first
               | (
                 refine wpListIn_store_rowZ rfl _ _ _ rfl w3.heap.size (fzA fz0) (fzA f) rfl rfl (heap_alloc_new w3 _) (by rw [sizeFz]; rfl) rfl (by simp [fzA, Value.oneCell']) ?_
                 have HX := dhid (HC.out w3 hb3)
                 generalize (w3.alloc (Obj.cells #[.int .u32 0, .int .u32 0, .int .u8 0, .int .u8 0, .int .u32 0, .int .u32 0] 30)).setRow w3.heap.size (fzA f) = W3 at *
                 obtain ⟨x0, x1, x2, x3, x4, x5⟩ := fz_cells HX.out.2.2.1
                 have y1 := (fz_cells HX.out.2.1).2.1
                 clear HC)
               | (refine wpListIn_store_rowZ rfl _ _ _ rfl V.heap.size (fzA (bst R beg (k - 1))) (fzA f) rfl rfl HX.out.2.1 (by rw [sizeFz]; rfl) rfl (by simp [fzA, Value.oneCell']) ?_))
              go_roundw
              case rel => exact ⟨k + 1, by go_num, by omega, by omega, dhid (InZ.put HX.out.1 HX.out.2.1 HQ.out), HP1⟩
              case measure => first | (simp [intOf]; done) | (simp [intOf]; omega)
            · have HQ := dhid (show bst R beg k = bst R beg (k - 1) from bst_not (by omega) HFK2.out hlt)
              have hltI : ¬ ((bst R beg (k - 1)).len : Int) < (f.len : Int) := by omega
              gi_wp2_with (
                 refine wpListIn_store_rowZ rfl _ _ _ rfl w3.heap.size (fzA fz0) (fzA f) rfl rfl (heap_alloc_new w3 _) (by rw [sizeFz]; rfl) rfl (by simp [fzA, Value.oneCell']) ?_
                 have HX := dhid (HC.out w3 hb3)
                 generalize (w3.alloc (Obj.cells #[.int .u32 0, .int .u32 0, .int .u8 0, .int .u8 0, .int .u32 0, .int .u32 0] 30)).setRow w3.heap.size (fzA f) = W3 at *
                 obtain ⟨x0, x1, x2, x3, x4, x5⟩ := fz_cells HX.out.2.2.1
                 have y1 := (fz_cells HX.out.2.1).2.1
                 clear HC)
              go_roundw
              case rel => exact ⟨k + 1, by go_num, by omega, by omega, dhid (InZ.make HX.out.1 HX.out.2.1 HQ.out), HP1⟩
              case measure => first | (simp [intOf]; done) | (simp [intOf]; omega)
        · have hkI : ¬ (k : Int) ≤ 15 := by omega
          have hk16 : k = 16 := by omega
          subst hk16
          have lg : w2.heap[V.heap.size]? = some (.cells (fzA (bst R beg 15)) 30) := HI.out.lg
          have hFI : Hid (∃ f, fkV R beg 1 = (f, true)) := dhid (HP.out (by decide))
          obtain ⟨f, hf1⟩ := hFI.out
          have HCU := dhid (H.out.cut hwf hpl (f := f) (by rw [← hR, ← HBG.out]; exact hf1))
          rw [← hR, ← HBG.out] at HCU
          generalize bst R beg 15 = g at lg HCU
          have hB2 := HI.out.bl
          have hJ2 := hJ pre V w2 none HJ.out (grown_of_below hB2) (fun r e => by cases e)
          obtain ⟨fn, tmps, assign, body, hy, hRR⟩ := hY pre g w2 hJ2 (by have := H.out.np; omega)
          have HVB : Hid (B ≤ V.heap.size ∧ B ≤ w1.heap.size ∧ Bc ≤ V.heap.size) := dhid ⟨H.out.hz.1, H.out.hz.2.1, H.out.hz.2.2⟩
          have H2 := dhid (H.out.below hB2)
          obtain ⟨c0, c1, c2, c3, c4, c5⟩ := fz_cells lg
          have hy' : (Instr.yield l #[.agg #[.int .u32 g.at_, .int .u32 g.len, .int .u8 g.kind, .int .u8 g.op, .int .u32 g.a, .int .u32 g.b]]).run Try.prog w2 = .ok (.round l fn tmps assign body) w2 := hy
          have LG := dhid lg
          have HWF := dhid hwf
          have HR := dhid hR
          clear hy hY HI HP hFI hf1 hJ2 hB2 HSH HONE HCS hwf hR hRl lg
          gi_wp2
          refine hRR.mono ?_
          clear hRR hy' c0 c1 c2 c3 c4 c5
          rintro e W3 (⟨rfl, hJ3, hk3⟩ | ⟨rfl, hJx3⟩)
          · have lg3 := hk3.1.2 _ _ _ _ HVB.out.1 LG.out
            have c1 := (fz_cells lg3).2.1
            have hg1 := HCU.out.1
            have hg2 := HCU.out.2.1
            have hbe : beg + g.len < 4294967296 := by have := HBG.out; omega
            have hwb : IntKind.u32.wrap ((beg : Int) + (g.len : Int)) = (beg : Int) + (g.len : Int) := by rw [IntKind.wrap_u32]; omega
            have hle1 : (g.len : Int) ≤ ((cap - p : Nat) : Int) := by omega
            have hle2 : g.len ≤ cap - p := by omega
            have hle3 : g.len ≤ L.length - p := by omega
            obtain ⟨b, off, ea0, rfl⟩ := H2.out.pa hpl
            have HEA := dhid ea0
            have H3 := dhid (show ∀ a' : Option Addr, (p + g.len < L.length → a' = some ⟨b, off + (p + g.len) * 2, none⟩) → ThS L at_ cap ao Bc B w1 w1.heap.size cs (p + g.len) a' (pre ++ [g]) W3 from fun a' ha' => by
              obtain ⟨f', hf, hfl⟩ := HCU.out.2.2.2
              have hn := H2.out.np
              have hz := hk3.1.1
              have hz2 := H2.out.hz
              exact ⟨hg2, fun h => ⟨b, off, HEA.out, ha' h⟩, ⟨f', hf, hfl⟩, by simp; omega, H2.out.fr.trans hk3.1, hk3.2 H2.out.rd, hk3.1.2 _ _ _ _ HVB.out.2.1 H2.out.tb, by omega, HVB.out.2.1, by omega⟩)
            have HBE := dhid (show beg + g.len = at_ + (p + g.len) by have := HBG.out; omega)
            have hle4 : (g.len : Int) ≤ ((L.length - p : Nat) : Int) := by omega
            clear ea0 hk3 lg3 hg2 hbe
            by_cases hcq : g.len = cap - p
            · have e1 : cap - p = g.len := hcq.symm
              have e2 : L.length - p = g.len := by omega
              have E1 := dhid (And.intro e1 e2)
              clear hle1 hle2 hle3 hle4 hplN hplI
              rw [e1, e2]
              clear hcq e1 e2
              gi_wp2
              go_roundw
              case rel => exact ⟨p + g.len, beg + g.len, some ⟨b, off + p * 2, none⟩, pre ++ [g], HBE, by go_num, by rw [← Nat.sub_sub, ← Nat.sub_sub, E1.out.1, E1.out.2, Nat.sub_self], dhid (H3.out _ (fun h => by have := E1.out.2; omega)), dhid hJ3⟩
              case measure => simp [sizeOf_]; omega
            · have hcq2 : ¬ cap - p = g.len := fun e => hcq e.symm
              gi_wp2
              go_roundw
              case rel => exact ⟨p + g.len, beg + g.len, some ⟨b, off + p * 2 + g.len * 2, none⟩, pre ++ [g], HBE, by go_num, by rw [Nat.sub_sub, Nat.sub_sub], dhid (H3.out _ (fun _ => by rw [Nat.add_mul, Nat.add_assoc])), dhid hJ3⟩
              case measure => simp [sizeOf_]; omega
          · gi_wp2
            rw [Exit.noGoto_normal]
            go_end0
            exact ⟨⟨_, rfl⟩, .inr ⟨_, HCU.out.2.2.1, hJx3⟩⟩
    · have hpq : ¬ (0 : Int) < ((L.length - p : Nat) : Int) := by omega
      gi_wp2
      go_end0
      refine ⟨⟨_, rfl⟩, .inl ⟨pre, ?_, HJ.out⟩⟩
      obtain ⟨f', hf, hfl⟩ := H.out.rest
      rw [List.drop_eq_nil_of_le (by omega), thS_nil, List.append_nil] at hf
      exact hf
end Go.Proofs.Ytonmoidalkcmoaa
