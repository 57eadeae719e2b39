import Derived.RangeFuncNested
import Derived.RangeFuncBound
import Derived.RangeFuncCalls
import Derived.Test.YtcielbkfolklbaaGreatDoorProg
namespace Go.Proofs.YtcielbkfolklbaaGreatDoor
open Go.RowKit
set_option maxRecDepth 100000

/-- the loops and marks that lay from a place on lie as they lay; cells may change -/
structure Upon (B : Nat) (W W' : World) : Prop where
  size : W.heap.size ≤ W'.heap.size
  same : ∀ (k : Nat) (o : Obj), B ≤ k → W.heap[k]? = some o → o.isCells = false → W'.heap[k]? = some o
theorem Upon.refl (B : Nat) (W : World) : Upon B W W := ⟨Nat.le_refl _, fun _ _ _ h _ => h⟩
theorem Upon.trans {B : Nat} {W X Y : World} (h : Upon B W X) (h' : Upon B X Y) : Upon B W Y := ⟨Nat.le_trans h.size h'.size, fun k o hB hk hc => h'.same k o hB (h.same k o hB hk hc) hc⟩
theorem Upon.mono {B C : Nat} {W W' : World} (h : Upon B W W') (hBC : B ≤ C) : Upon C W W' := ⟨h.size, fun k o hC hk hc => h.same k o (Nat.le_trans hBC hC) hk hc⟩
theorem Upon.of_below {B : Nat} {W W' : World} (h : Below W.heap.size W W') : Upon B W W' := ⟨h.size, fun k _ _ hk _ => (h.block k (Array.getElem?_eq_some_iff.1 hk).1).trans hk⟩
theorem Upon.alloc (B : Nat) (W : World) (o : Obj) : Upon B W (W.alloc o) := ⟨by simp, fun k _ _ hk _ => (Below.heap_alloc W o k (Array.getElem?_eq_some_iff.1 hk).1).trans hk⟩
theorem Upon.putObj {B l : Nat} (W : World) (o : Obj) (h : l < B) : Upon B W (W.putObj l o) := ⟨by simp, fun k _ hB hk _ => (World.putObj_heap_other (by omega)).trans hk⟩
theorem Upon.setCell {B : Nat} (W : World) (a : Addr) (v : Value) : Upon B W (W.setCell a v) := ⟨(KeepsWalks.setCell W a v).size, fun k o _ hk hc => (KeepsOthers.setCell W a v).same k o hk hc⟩
theorem Upon.at {B l : Nat} {W W' : World} {o : Obj} (h : Upon B W W') (hB : B ≤ l) (hl : W.heap[l]? = some o) (hc : o.isCells = false := by rfl) : W'.heap[l]? = some o := h.same l o hB hl hc
theorem Upon.from {B : Nat} {W W' : World} (h : Upon B W W') : KeepsFrom B W W' := ⟨h.size, fun _ _ hB hk hc => h.at hB hk hc⟩
/-- how the body of a round may be left -/
def uponPost {α : Type} (B : Nat) (Kp : World → World → Prop) (I : List α → World → Prop) (Ix : Code → List α → World → Prop) (xs : List α) (W : World) : Exit → Act → World → Prop
  | .normal, _, W' => Upon B W W' ∧ Kp W W' ∧ I xs W'
  | .ret, _, W' => Upon B W W' ∧ Ix .ret xs W'
  | .exit id, _, W' => Upon B W W' ∧ Ix (.exit id) xs W'
  | .goto t, _, W' => Upon B W W' ∧ Ix (.goto t) xs W'
  | .panic _, _, _ => False
  | .outgrown, _, _ => False
/-- what an iterator promises that may itself range over an iterator: the caller's word speaks of cells alone -/
def SeqOwn {α : Type} (F : Fence) (n : Nat) (P : Program) (g : Nat) (lb : Array Value) (encs : α → Array Value) (Kp : World → World → Prop) (S Sp : List α → Prop) (N : Nat) (w : World) : Prop :=
  ∀ (l : Nat) (J Jx : List α → World → Prop) (W : World), Below w.heap.size w W → OwnFrom W.heap.size J → OwnFrom W.heap.size Jx →
    (∀ pre x W1, J pre W1 → pre.length < N → Sp (pre ++ [x]) → YieldAt F (n - 1) P l (encs x) W1 fun e W' =>
      (e = .returned (.bool true) ∧ J (pre ++ [x]) W' ∧ Kp W1 W' ∧ Upon W.heap.size W1 W') ∨ (e = .returned (.bool false) ∧ Jx (pre ++ [x]) W' ∧ Upon W.heap.size W1 W')) →
    J [] W →
    CallsIn F n P g (#[.func (.yield l) #[] #[]] ++ lb) W fun e W' => (∃ v, e = .returned v) ∧ ((∃ xs, S xs ∧ J xs W') ∨ (∃ pre, Sp pre ∧ Jx pre W'))
theorem SeqOwn.later {α : Type} {F : Fence} {n : Nat} {P : Program} {g : Nat} {lb : Array Value} {encs : α → Array Value} {Kp : World → World → Prop} {S Sp : List α → Prop} {N : Nat} {w w' : World} (h : SeqOwn F n P g lb encs Kp S Sp N w) (hb : Below w.heap.size w w') : SeqOwn F n P g lb encs Kp S Sp N w' :=
  fun l J Jx W hW => h l J Jx W (hb.trans (hW.mono hb.size))
/-- a block that lies below what is turned -/
theorem low_kept {A C : World} {row : Option Nat} {B l : Nat} {o : Obj} (h : A.heap[l]? = some o) (hl : l < B) (hg : A.grownBy C row) (hr : ∀ r, row = some r → B ≤ r ∧ ∃ o : Obj, A.heap[r]? = some o ∧ o.isCells = false) : C.heap[l]? = some o :=
  (hg.block l (Array.getElem?_eq_some_iff.1 h).1 (fun e => by have := (hr l e.symm).1; omega)).trans h
/-- how a round of such a loop may be left -/
theorem seq_core {α : Type} {F : Fence} {m : Nat} {P : Program} {gf : Nat} {lb : Array Value} {encs : α → Array Value} {Kp : World → World → Prop} {S Sp : List α → Prop} {N : Nat} {w0 W1 : World} (hseq : SeqOwn F m P gf lb encs Kp S Sp N w0)
    (hKt : ∀ {A B C : World}, Kp A B → Kp B C → Kp A C) {B l : Nat} (hKb : ∀ (W : World) (o o' : Obj), W.heap[l]? = some o → o.isCells = false → o.isWalk = false → Kp W (W.putObj l o')) (hb1 : Below w0.heap.size w0 W1)
    (r0 : Loop) (hst : r0.state = .ready) (hpe : r0.pending = none) (hfn : F.fn r0.fn) (hps : ∀ x, (encs x).size = r0.params.size) (hL : W1.heap[l]? = some (.loop r0)) (hB : B ≤ l)
    (I : List α → World → Prop) (Ix : Code → List α → World → Prop) (hI : OwnFrom B I) (hIx : ∀ c, OwnFrom B (Ix c)) (h0 : I [] W1) (Ax : α → Act → World → Prop) (hAx : ∀ x a', OwnFrom B (fun (_ : Unit) W => Ax x a' W))
    (hassign : ∀ (pre : List α) (x : α) (W : World) (K : Act → World → Prop), I pre W → (∀ a' W', Upon B W W' → Kp W W' → I pre W' → Ax x a' W' → K a' W') →
      r0.assign.wpIn (F.inRound l) (m - 1) P (Exit.then K (fun _ _ _ => False)) { tmps := (r0.params.zip (encs x)).foldl (fun t (p, v) => t.setIfInBounds p v) r0.tmps, defers := [] } W)
    (hbody : ∀ (pre : List α) (x : α) (a' : Act) (W : World), (∃ r, W.heap[l]? = some (.loop r)) → I pre W → Ax x a' W → pre.length < N → Sp (pre ++ [x]) → r0.body.wpIn (F.inRound l) (m - 1) P (uponPost B Kp I Ix (pre ++ [x]) W) a' W)
    (X : World → Prop) (hX0 : X W1) (hXo : OwnFrom W1.heap.size (fun (_ : Unit) W => X W)) (hXp : ∀ W o', X W → X (W.putObj l o')) (hXk : ∀ W W', Upon B W W' → X W → X W') :
    CallsIn F m P gf (#[.func (.yield l) #[] #[]] ++ lb) W1 fun e W2 => (∃ v, e = .returned v) ∧
      ((∃ xs, S xs ∧ I xs W2 ∧ W2.heap[l]? = some (.loop r0) ∧ X W2) ∨ (∃ pre c, Sp pre ∧ Ix c pre W2 ∧ W2.heap[l]? = some (.loop { r0 with state := .done, pending := some c }) ∧ X W2)) := by
  have hlW : l < W1.heap.size := (Array.getElem?_eq_some_iff.1 hL).1
  have up : ∀ {A : World} {row : Option Nat}, (∀ r, row = some r → W1.heap.size ≤ r ∧ ∃ o : Obj, A.heap[r]? = some o ∧ o.isCells = false) → (∀ r, row = some r → B ≤ r ∧ ∃ o : Obj, A.heap[r]? = some o ∧ o.isCells = false) := fun h r e => ⟨by have := (h r e).1; omega, (h r e).2⟩
  refine (hseq l (fun pre W => I pre W ∧ W.heap[l]? = some (.loop r0) ∧ X W) (fun pre W => ∃ c, Ix c pre W ∧ W.heap[l]? = some (.loop { r0 with state := .done, pending := some c }) ∧ X W) W1 hb1
    (fun s A C row hs hg hr => ⟨hI s A C row hs.1 hg (up hr), low_kept hs.2.1 hlW hg hr, hXo () A C row hs.2.2 hg hr⟩)
    (fun s A C row ⟨c, hs1, hs2, hs3⟩ hg hr => ⟨c, hIx c s A C row hs1 hg (up hr), low_kept hs2 hlW hg hr, hXo () A C row hs3 hg hr⟩) ?_ ⟨h0, hL, hX0⟩).mono ?_
  · rintro pre x W ⟨hi, hl, hx⟩ hlen hsp
    refine ⟨r0.fn, _, r0.assign, r0.body, run_yield hl (hps x), roundIn_of_wpIn hfn (hassign pre x W _ hi ?_)⟩
    intro a' Wa hkf hkp hia hax
    have hla := hkf.at hB hl
    have hxa := hXk _ _ hkf hx
    have hll : l < Wa.heap.size := (Array.getElem?_eq_some_iff.1 hla).1
    refine ⟨_, run_beginRound hla hst, ?_⟩
    have hlb : (Wa.putObj l (.loop { r0 with state := .busy })).heap[l]? = some (.loop { r0 with state := .busy }) := World.putObj_heap_same hll
    refine wpIn_mono (hbody pre x a' _ ⟨_, hlb⟩ (hI.putObj _ hia hB hla rfl) ((hAx x a').putObj (s := ()) _ hax hB hla rfl) hlen hsp) ?_
    have hkb : Kp W (Wa.putObj l (.loop { r0 with state := .busy })) := hKt hkp (hKb _ _ _ hla rfl rfl)
    have upA : ∀ (W3 : World) (o : Obj), Upon B (Wa.putObj l (.loop { r0 with state := .busy })) W3 → Upon W1.heap.size W (W3.putObj l o) := fun W3 o hk3 => (((hkf.mono (by omega)).trans (Upon.putObj _ _ hlW)).trans (hk3.mono (by omega))).trans (Upon.putObj _ _ hlW)
    have leave : ∀ (W3 : World) (c : Code), Upon B (Wa.putObj l (.loop { r0 with state := .busy })) W3 → Ix c (pre ++ [x]) W3 →
        ∃ v W4, (Instr.endRound l (some c)).run P W3 = .ok v W4 ∧ ((Ending.returned v = .returned (.bool true) ∧ (I (pre ++ [x]) W4 ∧ W4.heap[l]? = some (.loop r0) ∧ X W4) ∧ Kp W W4 ∧ Upon W1.heap.size W W4) ∨ (Ending.returned v = .returned (.bool false) ∧ (∃ c', Ix c' (pre ++ [x]) W4 ∧ W4.heap[l]? = some (.loop { r0 with state := .done, pending := some c' }) ∧ X W4) ∧ Upon W1.heap.size W W4)) := fun W3 c hk3 hi3 => by
      have hl3 := hk3.at hB hlb
      exact ⟨_, _, run_endRound (some c) hl3, .inr ⟨rfl, ⟨c, (hIx c).putObj _ hi3 hB hl3 rfl, World.putObj_heap_same (Array.getElem?_eq_some_iff.1 hl3).1, hXp _ _ (hXk _ _ hk3 (hXp _ _ hxa))⟩, upA _ _ hk3⟩⟩
    rintro e a3 W3 hp
    cases e with
    | normal =>
      obtain ⟨hk3, hkp3, hi3⟩ := hp
      have hl3 := hk3.at hB hlb
      have he := run_endRound (P := P) none hl3
      have hre : ({ ({ r0 with state := .busy } : Loop) with state := if (none : Option Code).isNone then .ready else .done, pending := none } : Loop) = r0 := by
        cases r0
        simp only at hst hpe
        subst hst hpe
        rfl
      rw [hre] at he
      exact ⟨_, _, he, .inl ⟨rfl, ⟨hI.putObj _ hi3 hB hl3 rfl, World.putObj_heap_same (Array.getElem?_eq_some_iff.1 hl3).1, hXp _ _ (hXk _ _ hk3 (hXp _ _ hxa))⟩, hKt (hKt hkb hkp3) (hKb _ _ _ hl3 rfl rfl), upA _ _ hk3⟩⟩
    | ret => exact leave W3 .ret hp.1 hp.2
    | exit id => exact leave W3 (.exit id) hp.1 hp.2
    | goto t => exact leave W3 (.goto t) hp.1 hp.2
    | panic ch => exact hp.elim
    | outgrown => exact hp.elim
  · rintro e W2 ⟨hv, ⟨xs, hS, hi, hl, hx⟩ | ⟨pre, hSp, c, hi, hl, hx⟩⟩
    · exact ⟨hv, .inl ⟨xs, hS, hi, hl, hx⟩⟩
    · exact ⟨hv, .inr ⟨pre, c, hSp, hi, hl, hx⟩⟩
/-- a range over such an iterator, the outermost -/
theorem range_outer {α : Type} {F : Fence} {n : Nat} {P : Program} {g : Operand} {ps : Array Tmp} {assign body : Code} {Q : Exit → Act → World → Prop} {a : Act} {w : World} (hro : F.round = none) (h1 : 1 ≤ n) {gf : Nat} {lb : Array Value} (hg : a.eval g = .func (.func gf) #[] lb) (hFg : F.fn gf) (eg : ∀ args w, (callFunc gf args).run P w = .ok (.enter gf args) w)
    {encs : α → Array Value} {Kp : World → World → Prop} {S Sp : List α → Prop} {N : Nat} {w0 : World} (hseq : SeqOwn F (n - 1) P gf lb encs Kp S Sp N w0)
    (hKt : ∀ {A B C : World}, Kp A B → Kp B C → Kp A C) (hKb : ∀ (W : World) (l : Nat) (o o' : Obj), w.heap.size ≤ l → W.heap[l]? = some o → o.isCells = false → o.isWalk = false → Kp W (W.putObj l o')) (hb0 : Below w0.heap.size w0 w) (hps : ∀ x, (encs x).size = ps.size)
    (I : List α → World → Prop) (Ix : Code → List α → World → Prop) (hI : OwnFrom w.heap.size I) (hIx : ∀ c, OwnFrom w.heap.size (Ix c)) (h0 : I [] w) (Ax : α → Act → World → Prop) (hAx : ∀ x a', OwnFrom w.heap.size (fun (_ : Unit) W => Ax x a' W))
    (hassign : ∀ (l : Nat) (pre : List α) (x : α) (W : World) (K : Act → World → Prop), I pre W → (∀ a' W', Upon w.heap.size W W' → Kp W W' → I pre W' → Ax x a' W' → K a' W') →
      assign.wpIn (F.inRound l) (n - 1 - 1) P (Exit.then K (fun _ _ _ => False)) { tmps := (ps.zip (encs x)).foldl (fun t (p, v) => t.setIfInBounds p v) a.tmps, defers := [] } W)
    (hbody : ∀ (l : Nat) (pre : List α) (x : α) (a' : Act) (W : World), w.heap.size ≤ l → (∃ r, W.heap[l]? = some (.loop r)) → I pre W → Ax x a' W → pre.length < N → Sp (pre ++ [x]) → body.wpIn (F.inRound l) (n - 1 - 1) P (uponPost w.heap.size Kp I Ix (pre ++ [x]) W) a' W)
    (hdone : ∀ (D : Nat) (xs : List α) (W : World), w.heap.size ≤ D → S xs → I xs W → W.heap[D]? = some (.deferred (some [])) → Q .normal { a with defers := { target := .collected D, args := #[] } :: a.defers } W)
    (hstop : ∀ (D : Nat) (c : Code) (pre : List α) (W : World), w.heap.size ≤ D → Sp pre → Ix c pre W → W.heap[D]? = some (.deferred (some [])) → c.wpIn F n P Q { a with defers := { target := .collected D, args := #[] } :: a.defers } W) :
    (Code.rangeFunc g ps assign body).wpIn F n P Q a w := by
  refine wpIn_rangeFunc fun fn hfn => ?_
  rw [hro]
  obtain ⟨W1, hW1⟩ : ∃ W1, (w.alloc (.deferred (some []))).alloc (.loop { state := .ready, pending := none, fn, tmps := a.tmps, params := ps, assign, body, defers := w.heap.size }) = W1 := ⟨_, rfl⟩
  have hsz : W1.heap.size = w.heap.size + 1 + 1 := by rw [← hW1, World.size_alloc, World.size_alloc]
  have hL : W1.heap[w.heap.size + 1]? = some (.loop { state := .ready, pending := none, fn, tmps := a.tmps, params := ps, assign, body, defers := w.heap.size }) := by
    have := World.alloc_heap_new (w.alloc (.deferred (some []))) (.loop { state := .ready, pending := none, fn, tmps := a.tmps, params := ps, assign, body, defers := w.heap.size })
    rwa [World.size_alloc, hW1] at this
  have hD : W1.heap[w.heap.size]? = some (.deferred (some [])) := by
    rw [← hW1, Below.heap_alloc _ _ _ (by simp)]
    exact World.alloc_heap_new w _
  have hbW : Below w.heap.size w W1 := by
    rw [← hW1]
    exact ((Below.refl _ w).alloc (Nat.le_refl _) _).alloc (by simp) _
  refine ⟨_, _, W1, { target := .fn (.func gf) lb, args := #[.func (.yield (w.heap.size + 1)) #[] #[]] }, W1, gf, #[.func (.yield (w.heap.size + 1)) #[] #[]] ++ lb, W1, hW1 ▸ run_enterLoop_outer _ _ _ _ _, ?_, ?_, ?_, fun _ => h1, ?_⟩
  · simp only [resolve, hg]
    simp [go_sem]
  · intro f' hf'
    simp [Target.leads] at hf'
    subst hf'
    exact hFg
  · simp [invoke, go_sem, eg]
  · refine (seq_core hseq (fun x y => hKt x y) (B := w.heap.size) (l := w.heap.size + 1) (fun W o o' => hKb W _ o o' (by omega)) (hb0.trans (hbW.mono hb0.size)) _ rfl rfl hfn hps hL (by omega) I Ix hI hIx (by rw [← hW1]; exact hI.alloc _ (hI.alloc _ h0)) Ax hAx
      (fun pre x W K => hassign _ pre x W K) (fun pre x a' W => hbody _ pre x a' W (by omega)) (fun W => W.heap[w.heap.size]? = some (.deferred (some []))) hD (fun _ A C row hs hg' hr => low_kept hs (by omega) hg' hr) (fun W o' h => (World.putObj_heap_other (by omega)).trans h) (fun W W' hk h => hk.at (Nat.le_refl _) h)).mono ?_
    rintro e W2 ⟨⟨v, rfl⟩, ⟨xs, hS, hi, hl, hx⟩ | ⟨pre, c, hSp, hi, hl, hx⟩⟩
    · exact ⟨_, _, run_endLoop hl (by simp), hdone _ xs _ (Nat.le_refl _) hS (hI.putObj _ hi (by omega) hl rfl) ((World.putObj_heap_other (by omega)).trans hx)⟩
    · exact ⟨_, _, run_endLoop hl (by simp), hstop _ c pre _ (Nat.le_refl _) hSp ((hIx c).putObj _ hi (by omega) hl rfl) ((World.putObj_heap_other (by omega)).trans hx)⟩
/-- a range that is left by break alone: both ends lead to the same -/
theorem range_break {α : Type} {F : Fence} {n : Nat} {P : Program} {g : Operand} {ps : Array Tmp} {assign body : Code} {id : Nat} {Q : Exit → Act → World → Prop} {a : Act} {w : World} (hro : F.round = none) (h1 : 1 ≤ n) {gf : Nat} {lb : Array Value} (hg : a.eval g = .func (.func gf) #[] lb) (hFg : F.fn gf) (eg : ∀ args w, (callFunc gf args).run P w = .ok (.enter gf args) w)
    {encs : α → Array Value} {Kp : World → World → Prop} {S Sp : List α → Prop} {N : Nat} {w0 : World} (hseq : SeqOwn F (n - 1) P gf lb encs Kp S Sp N w0)
    (hKt : ∀ {A B C : World}, Kp A B → Kp B C → Kp A C) (hKb : ∀ (W : World) (l : Nat) (o o' : Obj), w.heap.size ≤ l → W.heap[l]? = some o → o.isCells = false → o.isWalk = false → Kp W (W.putObj l o')) (hb0 : Below w0.heap.size w0 w) (hps : ∀ x, (encs x).size = ps.size)
    (I Ib : List α → World → Prop) (hI : OwnFrom w.heap.size I) (hIb : OwnFrom w.heap.size Ib) (h0 : I [] w) (Ax : α → Act → World → Prop) (hAx : ∀ x a', OwnFrom w.heap.size (fun (_ : Unit) W => Ax x a' W))
    (hassign : ∀ (l : Nat) (pre : List α) (x : α) (W : World) (K : Act → World → Prop), I pre W → (∀ a' W', Upon w.heap.size W W' → Kp W W' → I pre W' → Ax x a' W' → K a' W') →
      assign.wpIn (F.inRound l) (n - 1 - 1) P (Exit.then K (fun _ _ _ => False)) { tmps := (ps.zip (encs x)).foldl (fun t (p, v) => t.setIfInBounds p v) a.tmps, defers := [] } W)
    (hbody : ∀ (l : Nat) (pre : List α) (x : α) (a' : Act) (W : World), w.heap.size ≤ l → (∃ r, W.heap[l]? = some (.loop r)) → I pre W → Ax x a' W → pre.length < N → Sp (pre ++ [x]) → body.wpIn (F.inRound l) (n - 1 - 1) P (uponPost w.heap.size Kp I (fun c pre W => c = .exit id ∧ Ib pre W) (pre ++ [x]) W) a' W)
    (hend : ∀ (D : Nat) (pre : List α) (W : World), w.heap.size ≤ D → ((S pre ∧ I pre W) ∨ (Sp pre ∧ Ib pre W)) → W.heap[D]? = some (.deferred (some [])) → Q .normal { a with defers := { target := .collected D, args := #[] } :: a.defers } W) :
    (Code.rangeFunc g ps assign body).wpIn F n P (Exit.inBlock id Q) a w :=
  range_outer hro h1 hg hFg eg hseq hKt hKb hb0 hps I (fun c pre W => c = .exit id ∧ Ib pre W) hI (fun c s A C row h hg hr => ⟨h.1, hIb s A C row h.2 hg hr⟩) h0 Ax hAx hassign hbody
    (fun D xs W hD hS hi hd => hend D xs W hD (.inl ⟨hS, hi⟩) hd)
    (fun D c pre W hD hS hi hd => by
      obtain ⟨rfl, hi⟩ := hi
      refine wpIn_exit ?_
      simp only [Exit.inBlock, if_true]
      exact hend D pre W hD (.inr ⟨hS, hi⟩) hd)
/-- a range over such an iterator, within a round of another -/
theorem range_inner {α : Type} {F : Fence} {n : Nat} {P : Program} {g : Operand} {ps : Array Tmp} {assign body : Code} {Q : Exit → Act → World → Prop} {a : Act} {w : World} {l0 : Nat} {q0 : Loop} (hro : F.round = some l0) (hq0 : w.heap[l0]? = some (.loop q0)) (h1 : 1 ≤ n) {gf : Nat} {lb : Array Value} (hg : a.eval g = .func (.func gf) #[] lb) (hFg : F.fn gf) (eg : ∀ args w, (callFunc gf args).run P w = .ok (.enter gf args) w)
    {encs : α → Array Value} {Kp : World → World → Prop} {S Sp : List α → Prop} {N : Nat} {w0 : World} (hseq : SeqOwn F (n - 1) P gf lb encs Kp S Sp N w0)
    (hKt : ∀ {A B C : World}, Kp A B → Kp B C → Kp A C) (hKb : ∀ (W : World) (l : Nat) (o o' : Obj), w.heap.size ≤ l → W.heap[l]? = some o → o.isCells = false → o.isWalk = false → Kp W (W.putObj l o')) (hb0 : Below w0.heap.size w0 w) (hps : ∀ x, (encs x).size = ps.size)
    (I : List α → World → Prop) (Ix : Code → List α → World → Prop) (hI : OwnFrom w.heap.size I) (hIx : ∀ c, OwnFrom w.heap.size (Ix c)) (h0 : I [] w) (Ax : α → Act → World → Prop) (hAx : ∀ x a', OwnFrom w.heap.size (fun (_ : Unit) W => Ax x a' W))
    (hassign : ∀ (l : Nat) (pre : List α) (x : α) (W : World) (K : Act → World → Prop), I pre W → (∀ a' W', Upon w.heap.size W W' → Kp W W' → I pre W' → Ax x a' W' → K a' W') →
      assign.wpIn (F.inRound l) (n - 1 - 1) P (Exit.then K (fun _ _ _ => False)) { tmps := (ps.zip (encs x)).foldl (fun t (p, v) => t.setIfInBounds p v) a.tmps, defers := [] } W)
    (hbody : ∀ (l : Nat) (pre : List α) (x : α) (a' : Act) (W : World), w.heap.size ≤ l → (∃ r, W.heap[l]? = some (.loop r)) → I pre W → Ax x a' W → pre.length < N → Sp (pre ++ [x]) → body.wpIn (F.inRound l) (n - 1 - 1) P (uponPost w.heap.size Kp I Ix (pre ++ [x]) W) a' W)
    (hdone : ∀ (xs : List α) (W : World), S xs → I xs W → Q .normal a W)
    (hstop : ∀ (c : Code) (pre : List α) (W : World), Sp pre → Ix c pre W → c.wpIn F n P Q a W) :
    (Code.rangeFunc g ps assign body).wpIn F n P Q a w := by
  refine wpIn_rangeFunc fun fn hfn => ?_
  rw [hro]
  obtain ⟨W1, hW1⟩ : ∃ W1, w.alloc (.loop { state := .ready, pending := none, fn, tmps := a.tmps, params := ps, assign, body, defers := q0.defers }) = W1 := ⟨_, rfl⟩
  have hsz : W1.heap.size = w.heap.size + 1 := by rw [← hW1, World.size_alloc]
  have hL : W1.heap[w.heap.size]? = some (.loop { state := .ready, pending := none, fn, tmps := a.tmps, params := ps, assign, body, defers := q0.defers }) := by rw [← hW1]; exact World.alloc_heap_new w _
  have hbW : Below w.heap.size w W1 := by rw [← hW1]; exact (Below.refl _ w).alloc (Nat.le_refl _) _
  refine ⟨_, _, W1, { target := .fn (.func gf) lb, args := #[.func (.yield w.heap.size) #[] #[]] }, W1, gf, #[.func (.yield w.heap.size) #[] #[]] ++ lb, W1, hW1 ▸ run_enterLoop_inner hq0 _ _ _ _ _, ?_, ?_, ?_, fun _ => h1, ?_⟩
  · simp only [resolve, hg]
    simp [go_sem]
  · intro f' hf'
    simp [Target.leads] at hf'
    subst hf'
    exact hFg
  · simp [invoke, go_sem, eg]
  · refine (seq_core hseq (fun x y => hKt x y) (B := w.heap.size) (l := w.heap.size) (fun W o o' => hKb W _ o o' (Nat.le_refl _)) (hb0.trans (hbW.mono hb0.size)) _ rfl rfl hfn hps hL (Nat.le_refl _) I Ix hI hIx (by rw [← hW1]; exact hI.alloc _ h0) Ax hAx
      (fun pre x W K => hassign _ pre x W K) (fun pre x a' W => hbody _ pre x a' W (Nat.le_refl _)) (fun _ => True) trivial (fun _ _ _ _ _ _ _ => trivial) (fun _ _ _ => trivial) (fun _ _ _ _ => trivial)).mono ?_
    rintro e W2 ⟨⟨v, rfl⟩, ⟨xs, hS, hi, hl, _⟩ | ⟨pre, c, hSp, hi, hl, _⟩⟩
    · exact ⟨_, _, run_endLoop hl (by simp), hdone xs _ hS (hI.putObj _ hi (Nat.le_refl _) hl rfl)⟩
    · exact ⟨_, _, run_endLoop hl (by simp), hstop c pre _ hSp ((hIx c).putObj _ hi (Nat.le_refl _) hl rfl)⟩
end Go.Proofs.YtcielbkfolklbaaGreatDoor
