import Derived.Test.YtonmoidalkcmoaaRows
import Derived.WalkKit
import Derived.Laws.BitsAllLaws
import Derived.Deep.QuietTactic
import Derived.BigQuiet
import Derived.WalkSmall
import Derived.WideShapes
import Derived.Laws.Cover3
import Derived.Laws.CopyOwn
import Derived.Laws.OwnMore
import Derived.Deep.RegionHeld3
import Derived.LaidEqlPtr
namespace Go.Proofs.Ytonmoidalkcmoaa
open Go.RowKit Go.WideShapes
set_option maxRecDepth 100000
theorem hidS {p : Prop} (h : p) : Hid p := h
/-- all blocks but those of S are as they were -/
structure Kp (S : Nat → Prop) (w w' : World) : Prop where
  os : w'.os = w.os
  tape : w'.tape = w.tape
  output : w'.output = w.output
  size : w.heap.size ≤ w'.heap.size
  block : ∀ k, k < w.heap.size → ¬ S k → w'.heap[k]? = w.heap[k]?
theorem Kp.refl (S : Nat → Prop) (w : World) : Kp S w w := ⟨rfl, rfl, rfl, Nat.le_refl _, fun _ _ _ => rfl⟩
theorem Kp.trans {S S' : Nat → Prop} {a b c : World} (h : Kp S a b) (k : Kp S' b c) (hs : ∀ i, i < a.heap.size → S' i → S i) : Kp S a c :=
  ⟨k.os.trans h.os, k.tape.trans h.tape, k.output.trans h.output, Nat.le_trans h.size k.size, fun i hi hn => (k.block i (Nat.lt_of_lt_of_le hi h.size) (fun e => hn (hs i hi e))).trans (h.block i hi hn)⟩
theorem Kp.mono {S S' : Nat → Prop} {a b : World} (h : Kp S a b) (hs : ∀ i, i < a.heap.size → S i → S' i) : Kp S' a b :=
  ⟨h.os, h.tape, h.output, h.size, fun i hi hn => h.block i hi (fun e => hn (hs i hi e))⟩
theorem Kp.below {S : Nat → Prop} {B : Nat} {a b : World} (h : Kp S a b) (hB : B ≤ a.heap.size) (hs : ∀ i, S i → B ≤ i) : Below B a b :=
  ⟨h.os, h.tape, h.output, h.size, fun k hk => h.block k (by omega) (fun e => by have := hs k e; omega)⟩
theorem Kp.ofBelow {S : Nat → Prop} {a b : World} (h : Below a.heap.size a b) : Kp S a b := ⟨h.os, h.tape, h.output, h.size, fun k hk _ => h.block k hk⟩
theorem Kp.ofGrown {S : Nat → Prop} {a b : World} {r : Option Nat} (h : a.grownBy b r) (hs : ∀ i, r = some i → i < a.heap.size → S i) : Kp S a b :=
  ⟨h.os, h.tape, h.output, h.size, fun k hk hn => h.block k hk (fun e => hn (hs k e.symm hk))⟩
theorem Kp.setCell {S : Nat → Prop} (w : World) (p : Addr) (u : Value) (hs : S p.block) : Kp S w (w.setCell p u) :=
  ⟨rfl, rfl, rfl, by simp [World.setCell], fun k _ hn => Below.heap_setCell _ _ _ _ (fun e => hn (e ▸ hs))⟩
theorem Kp.alloc {S : Nat → Prop} (w : World) (o : Obj) : Kp S w (w.alloc o) :=
  ⟨rfl, rfl, rfl, by simp, fun k hk _ => Below.heap_alloc _ _ _ hk⟩
theorem Kp.own {S : Nat → Prop} {w w' : World} (h : Kp S w w') {B e sz n : Nat} {v : Value} {xs : List Value} (ho : w.ownsRow B e sz v n xs) (hs : ∀ k, v.ownBlock = some k → ¬ S k) : w'.ownsRow B e sz v n xs := by
  refine ⟨ho.1, ?_⟩
  rcases ho.2 with hn | ⟨g, cap, cur, rfl, hb, hgg, rest⟩
  · exact .inl hn
  · exact .inr ⟨g, cap, cur, rfl, hb, by rw [h.block g (Array.getElem?_eq_some_iff.1 hgg).1 (hs g rfl)]; exact hgg, rest⟩
theorem Kp.cell {S : Nat → Prop} {w w' : World} (h : Kp S w w') {p : Addr} (hl : p.block < w.heap.size) (hs : ¬ S p.block) : w'.cell? p = w.cell? p := World.cell?_of_block (w := w) (h.block p.block hl hs)
theorem obj_cell {w : World} {a : Nat} {cs : Array Value} {t : TypeId} {fr : Nat × Nat} (h : w.heap[a]? = some (.cells cs t fr)) (i : Nat) : w.cell? ⟨a, i, none⟩ = cs[i]? := by
  simp [World.cell?, h]
theorem obj_frozen {w : World} {a : Nat} {cs : Array Value} {t : TypeId} (h : w.heap[a]? = some (.cells cs t (0, 0))) (i : Nat) : w.frozen? ⟨a, i, none⟩ = false := by
  simp [World.frozen?, h]
theorem own_base {w : World} {B B' e sz n : Nat} {v : Value} {xs : List Value} (h : w.ownsRow B e sz v n xs) (hb : B' ≤ B) : w.ownsRow B' e sz v n xs := by
  refine ⟨h.1, ?_⟩
  rcases h.2 with h2 | ⟨g, cap, cur, e1, e2, e3⟩
  · exact .inl h2
  · exact .inr ⟨g, cap, cur, e1, Nat.le_trans hb e2, e3⟩
/-- is the bit of a number set? -/
def hasW (ws : List Nat) (x : Nat) : Bool := (ws.getD (x / 64) 0).testBit (x % 64)
/-- the bit of a number turned -/
def flipW (ws : List Nat) (x : Nat) : List Nat := ws.set (x / 64) (ws.getD (x / 64) 0 ^^^ 2 ^ (x % 64))
theorem flipW_len (ws : List Nat) (x : Nat) : (flipW ws x).length = ws.length := by simp [flipW]
theorem hasW_flip {ws : List Nat} {x : Nat} (h : x / 64 < ws.length) (y : Nat) : hasW (flipW ws x) y = (hasW ws y ^^ decide (y = x)) := by
  unfold hasW flipW
  by_cases hy : y / 64 = x / 64
  · rw [hy]
    simp only [List.getD_eq_getElem?_getD, List.getElem?_set_self h, Option.getD_some, Nat.testBit_xor, Nat.testBit_two_pow]
    congr 1
    rw [decide_eq_decide]
    omega
  · have hne : ¬ y = x := fun e => hy (by rw [e])
    simp only [List.getD_eq_getElem?_getD, List.getElem?_set_ne (Ne.symm hy), hne, decide_false, Bool.xor_false]
theorem flipW_lt {ws : List Nat} {x : Nat} (h : ∀ z ∈ ws, z < 2 ^ 64) : ∀ z ∈ flipW ws x, z < 2 ^ 64 := by
  intro z hz
  rcases List.mem_or_eq_of_mem_set hz with hz | rfl
  · exact h z hz
  · refine Nat.xor_lt_two_pow ?_ (Nat.pow_lt_pow_right (by decide) (Nat.mod_lt _ (by decide)))
    rw [List.getD_eq_getElem?_getD]
    cases he : ws[x / 64]? with
    | none => simp
    | some v => exact h v (List.mem_of_getElem? he)
theorem hasW_off {ws : List Nat} {x : Nat} (h : ws.length ≤ x / 64) : hasW ws x = false := by
  unfold hasW
  rw [List.getD_eq_getElem?_getD, List.getElem?_eq_none h]
  simp
/-- the numbers of a set, rising -/
def els (n : Nat) (p : Nat → Bool) : List Nat := (List.range n).filter p
theorem els_succ (n : Nat) (p : Nat → Bool) : els (n + 1) p = els n p ++ (if p n then [n] else []) := by
  unfold els
  rw [List.range_succ, List.filter_append]
  by_cases h : p n <;> simp [h]
theorem mem_els {n : Nat} {p : Nat → Bool} {x : Nat} : x ∈ els n p ↔ x < n ∧ p x = true := by simp [els]
theorem els_put (n : Nat) (p q : Nat → Bool) (x : Nat) (hq : ∀ y, q y = (p y || decide (y = x))) (hx : p x = false) : (els n q).length = (els n p).length + (if x < n then 1 else 0) := by
  induction n with
  | zero => rfl
  | succ n ih =>
    rw [els_succ, els_succ, List.length_append, List.length_append, ih, hq n]
    by_cases h : n = x
    · subst h; simp [hx]
    · have : (x < n + 1) = (x < n) := by apply propext; omega
      simp only [this, h, decide_false, Bool.or_false]
      omega
theorem els_congr {n : Nat} {p q : Nat → Bool} (h : ∀ y, y < n → p y = q y) : els n p = els n q := by
  unfold els
  apply List.filter_congr
  intro x hx
  exact h x (List.mem_range.1 hx)
theorem els_beyond {n m : Nat} {p : Nat → Bool} (h : n ≤ m) (hp : ∀ y, p y = true → y < n) : els m p = els n p := by
  obtain ⟨d, rfl⟩ := Nat.exists_eq_add_of_le h
  clear h
  induction d with
  | zero => rfl
  | succ d ih =>
    rw [← Nat.add_assoc, els_succ, ih]
    have : p (n + d) = false := by
      cases he : p (n + d) with
      | false => rfl
      | true => have := hp _ he; omega
    simp [this]
/-- words with the same bits are the same -/
theorem hasW_ext {ws vs : List Nat} (hl : ws.length = vs.length) (hw : ∀ z ∈ ws, z < 2 ^ 64) (hv : ∀ z ∈ vs, z < 2 ^ 64) (h : ∀ x, hasW ws x = hasW vs x) : ws = vs := by
  apply List.ext_getElem hl
  intro i h1 h2
  apply Nat.eq_of_testBit_eq
  intro j
  by_cases hj : j < 64
  · have := h (64 * i + j)
    unfold hasW at this
    rw [show (64 * i + j) / 64 = i by omega, show (64 * i + j) % 64 = j by omega] at this
    simpa [List.getD_eq_getElem?_getD, h1, h2] using this
  · rw [Nat.testBit_lt_two_pow, Nat.testBit_lt_two_pow]
    · exact Nat.lt_of_lt_of_le (hv _ (List.getElem_mem h2)) (Nat.pow_le_pow_right (by decide) (by omega))
    · exact Nat.lt_of_lt_of_le (hw _ (List.getElem_mem h1)) (Nat.pow_le_pow_right (by decide) (by omega))
theorem hasW_zeros (n x : Nat) : hasW (List.replicate n 0) x = false := by
  unfold hasW
  rw [List.getD_eq_getElem?_getD, List.getElem?_replicate]
  split <;> simp
/-- a thing in memory, whose blocks are all of F -/
structure Pc where
  h : (Nat → Prop) → World → Prop
  fr : ∀ (F G S : Nat → Prop) (W W' : World), h F W → Kp S W W' → (∀ k, k < W.heap.size → F k → ¬ S k ∧ G k) → h G W'
def noP : Pc := ⟨fun _ _ => True, fun _ _ _ _ _ _ _ _ => trivial⟩
def objP (o : Nat) (cs : Array Value) (t : TypeId) : Pc := ⟨fun F W => W.heap[o]? = some (.cells cs t (0, 0)) ∧ F o, fun _ _ _ _ _ h hk hs => by
  have hl := (Array.getElem?_eq_some_iff.1 h.1).1
  exact ⟨(hk.block o hl (hs o hl h.2).1).trans h.1, (hs o hl h.2).2⟩⟩
def rowP (e sz : Nat) (v : Value) (n : Nat) (xs : List Value) : Pc := ⟨fun F W => W.ownsRow 0 e sz v n xs ∧ ∀ k, v.ownBlock = some k → F k, fun _ _ _ _ _ h hk hs =>
  ⟨hk.own h.1 (fun k hv => (hs k (h.1.lt k hv).2 (h.2 k hv)).1), fun k hv => (hs k (h.1.lt k hv).2 (h.2 k hv)).2⟩⟩
def outP (w0 : World) : Pc := ⟨fun F W => Below w0.heap.size w0 W ∧ ∀ k, k < w0.heap.size → F k, fun _ _ _ _ _ h hk hs =>
  ⟨⟨hk.os.trans h.1.os, hk.tape.trans h.1.tape, hk.output.trans h.1.output, Nat.le_trans h.1.size hk.size, fun k hl => (hk.block k (Nat.lt_of_lt_of_le hl h.1.size) (hs k (Nat.lt_of_lt_of_le hl h.1.size) (h.2 k hl)).1).trans (h.1.block k hl)⟩,
   fun k hl => (hs k (Nat.lt_of_lt_of_le hl h.1.size) (h.2 k hl)).2⟩⟩
/-- blocks of X are as they were in w0 -/
def frzP (X : Nat → Prop) (w0 : World) : Pc := ⟨fun F W => Kp (fun k => ¬ X k) w0 W ∧ ∀ k, k < w0.heap.size → X k → F k, fun _ _ _ _ _ h hk hs =>
  ⟨⟨hk.os.trans h.1.os, hk.tape.trans h.1.tape, hk.output.trans h.1.output, Nat.le_trans h.1.size hk.size, fun k hl hX => (hk.block k (Nat.lt_of_lt_of_le hl h.1.size) (hs k (Nat.lt_of_lt_of_le hl h.1.size) (h.2 k hl (Classical.not_not.1 hX))).1).trans (h.1.block k hl hX)⟩,
   fun k hl hX => (hs k (Nat.lt_of_lt_of_le hl h.1.size) (h.2 k hl hX)).2⟩⟩
/-- all things that are held, each with blocks of its own -/
abbrev Col := Nat × Nat
def Stt (W : World) (M : Col → Pc) : Prop := ∃ col : Nat → Col, ∀ d, (M d).h (fun k => col k = d) W
def upd (M : Col → Pc) (c : Col) (p : Pc) : Col → Pc := fun d => if d = c then p else M d
theorem upd_eq (M : Col → Pc) (c : Col) (p : Pc) : upd M c p c = p := by simp [upd]
theorem upd_ne {M : Col → Pc} {c d : Col} {p : Pc} (h : d ≠ c) : upd M c p d = M d := by simp [upd, h]
/-- one thing is changed, what is new may be its own -/
theorem stt_one {W W' : World} {M : Col → Pc} {col : Nat → Col} {c : Col} {p : Pc} (h : ∀ d, (M d).h (fun k => col k = d) W) (hp : p.h (fun k => k < W.heap.size → col k = c) W') (hk : Kp (fun k => k < W.heap.size → col k = c) W W') : Stt W' (upd M c p) := by
  refine ⟨fun k => if k < W.heap.size then col k else c, fun d => ?_⟩
  by_cases hd : d = c
  · subst hd
    rw [upd_eq]
    refine p.fr _ _ (fun _ => False) _ _ hp (Kp.refl _ _) (fun k _ hF => ⟨id, ?_⟩)
    by_cases hl : k < W.heap.size
    · simp only [hl, if_true]; exact hF hl
    · simp [hl]
  · rw [upd_ne hd]
    refine (M d).fr _ _ _ _ _ (h d) hk (fun k hl hF => ⟨fun hn => hd (hF.symm.trans (hn hl)), ?_⟩)
    simp only [hl, if_true]; exact hF
/-- one thing is changed, and a second one comes out of it or is new -/
theorem stt_two {W W' : World} {M : Col → Pc} {col : Nat → Col} {c c2 : Col} {p q : Pc} {G : Nat → Prop} (h : ∀ d, (M d).h (fun k => col k = d) W) (hp : p.h (fun k => (k < W.heap.size → col k = c) ∧ ¬ G k) W') (hq : q.h (fun k => (k < W.heap.size → col k = c) ∧ G k) W') (hk : Kp (fun k => k < W.heap.size → col k = c) W W') (hc : c ≠ c2) : Stt W' (upd (upd M c p) c2 q) := by
  classical
  refine ⟨fun k => if (k < W.heap.size → col k = c) then (if G k then c2 else c) else col k, fun d => ?_⟩
  by_cases hd2 : d = c2
  · subst hd2
    rw [upd_eq]
    refine q.fr _ _ (fun _ => False) _ _ hq (Kp.refl _ _) (fun k _ hF => ⟨id, ?_⟩)
    simp only [if_pos hF.1, if_pos hF.2]
  rw [upd_ne hd2]
  by_cases hd : d = c
  · subst hd
    rw [upd_eq]
    refine p.fr _ _ (fun _ => False) _ _ hp (Kp.refl _ _) (fun k _ hF => ⟨id, ?_⟩)
    simp only [if_pos hF.1, if_neg hF.2]
  · rw [upd_ne hd]
    refine (M d).fr _ _ _ _ _ (h d) hk (fun k hl hF => ⟨fun hn => hd (hF.symm.trans (hn hl)), ?_⟩)
    simp only
    rw [if_neg (fun hn => hd (hF.symm.trans (hn hl)))]; exact hF
theorem stt_below {W W' : World} {M : Col → Pc} (h : Stt W M) (hb : Below W.heap.size W W') : Stt W' M := by
  obtain ⟨col, h⟩ := h
  exact ⟨col, fun d => (M d).fr _ _ (fun _ => False) _ _ (h d) (Kp.ofBelow hb) (fun k _ hF => ⟨id, hF⟩)⟩
theorem stt_drewN {W : World} {M : Col → Pc} (n : Nat) (h : Stt W M) : Stt (W.drewN n) M := stt_below h ⟨rfl, rfl, rfl, Nat.le_refl _, fun _ _ => rfl⟩
theorem stt_drew {W : World} {M : Col → Pc} (h : Stt W M) : Stt W.drew M := stt_below h ((Below.refl _ _).drew)
/-- a new thing -/
theorem stt_new {W W' : World} {M : Col → Pc} {c : Col} {p : Pc} (h : Stt W M) (hb : Below W.heap.size W W') (hp : p.h (fun k => W.heap.size ≤ k) W') : Stt W' (upd M c p) := by
  obtain ⟨col, h⟩ := h
  refine ⟨fun k => if k < W.heap.size then col k else c, fun d => ?_⟩
  by_cases hd : d = c
  · subst hd
    rw [upd_eq]
    refine p.fr _ _ (fun _ => False) _ _ hp (Kp.refl _ _) (fun k _ hF => ⟨id, ?_⟩)
    exact if_neg (Nat.not_lt.2 hF)
  · rw [upd_ne hd]
    refine (M d).fr _ _ (fun _ => False) _ _ (h d) (Kp.ofBelow hb) (fun k hl hF => ⟨id, ?_⟩)
    simp only [hl, if_true]; exact hF
theorem stt_drop {W : World} {M M' : Col → Pc} (h : Stt W M) (hd : ∀ d, M' d = M d ∨ M' d = noP) : Stt W M' := by
  obtain ⟨col, h⟩ := h
  refine ⟨col, fun d => ?_⟩
  rcases hd d with e | e
  · rw [e]; exact h d
  · rw [e]; trivial
/-- what is held of one thing -/
theorem stt_get {W : World} {M : Col → Pc} {c : Col} {p : Pc} (h : Stt W M) (hc : M c = p) : ∃ F, p.h F W := by
  obtain ⟨col, h⟩ := h
  exact ⟨_, hc ▸ h c⟩
theorem stt_obj {W : World} {M : Col → Pc} {c : Col} {o : Nat} {cs : Array Value} {t : TypeId} (h : Stt W M) (hc : M c = objP o cs t) : W.heap[o]? = some (.cells cs t (0, 0)) := (stt_get h hc).choose_spec.1
theorem stt_cell {W : World} {M : Col → Pc} {c : Col} {o : Nat} {cs : Array Value} {t : TypeId} (h : Stt W M) (hc : M c = objP o cs t) (i : Nat) (v : Value) (hv : cs[i]? = some v) : W.cell? ⟨o, i, none⟩ = some v := (obj_cell (stt_obj h hc) i).trans hv
theorem stt_row {W : World} {M : Col → Pc} {c : Col} {e sz n : Nat} {v : Value} {xs : List Value} (h : Stt W M) (hc : M c = rowP e sz v n xs) : W.ownsRow 0 e sz v n xs := (stt_get h hc).choose_spec.1
theorem stt_out {W w0 : World} {M : Col → Pc} {c : Col} (h : Stt W M) (hc : M c = outP w0) : Below w0.heap.size w0 W := (stt_get h hc).choose_spec.1
/-- a call on one thing -/
theorem stt_call {P : Program} {f : Nat} {args : Array Value} {W : World} {M : Col → Pc} {c : Col} {Q : Ending → Prop} {p p' : Pc} (hM : M c = p) (hS : Stt W M)
    (hc : ∀ F : Nat → Prop, p.h F W → (∀ k, W.heap.size ≤ k → F k) → Calls P f args W fun e w' => Q e ∧ p'.h F w' ∧ Kp F W w') : Calls P f args W fun e w' => Q e ∧ Hid (Stt w' (upd M c p')) := by
  obtain ⟨col, h⟩ := hS
  refine (hc (fun k => k < W.heap.size → col k = c) ?_ (fun k hk hl => by omega)).mono fun e w' ⟨he, hp, hk⟩ => ⟨he, stt_one h hp hk⟩
  exact p.fr _ _ (fun _ => False) _ _ (hM ▸ h c) (Kp.refl _ _) (fun k _ hF => ⟨id, fun _ => hF⟩)
/-- a call on one thing that gives a second one -/
theorem stt_call2 {P : Program} {f : Nat} {args : Array Value} {W : World} {M : Col → Pc} {c c2 : Col} {α : Type} {Q : α → Ending → Prop} {p : Pc} {p' q : α → Pc} (hM : M c = p) (hS : Stt W M) (hne : c ≠ c2)
    (hc : ∀ F : Nat → Prop, p.h F W → (∀ k, W.heap.size ≤ k → F k) → Calls P f args W fun e w' => ∃ x, Q x e ∧ (∃ G : Nat → Prop, (p' x).h (fun k => F k ∧ ¬ G k) w' ∧ (q x).h (fun k => F k ∧ G k) w') ∧ Kp F W w') : Calls P f args W fun e w' => ∃ x, Q x e ∧ Hid (Stt w' (upd (upd M c (p' x)) c2 (q x))) := by
  obtain ⟨col, h⟩ := hS
  refine (hc (fun k => k < W.heap.size → col k = c) ?_ (fun k hk hl => by omega)).mono fun e w' ⟨x, he, ⟨G, hp, hq⟩, hk⟩ => ⟨x, he, stt_two h hp hq hk hne⟩
  exact p.fr _ _ (fun _ => False) _ _ (hM ▸ h c) (Kp.refl _ _) (fun k _ hF => ⟨id, fun _ => hF⟩)
theorem stt_frz {W w0 : World} {M : Col → Pc} {c : Col} {X : Nat → Prop} (h : Stt W M) (hc : M c = frzP X w0) : Kp (fun k => ¬ X k) w0 W := (stt_get h hc).choose_spec.1
theorem set_cells {w : World} {a i : Nat} {cs : Array Value} {v : Value} {t : TypeId} (h : w.heap[a]? = some (.cells cs t (0, 0))) : (w.setCell ⟨a, i, none⟩ v).heap[a]? = some (.cells (cs.setIfInBounds i v) t (0, 0)) := by
  rw [setCell_eq_setRow w a i _ t (0, 0) v h, setRow_heap w a _ _ t _ h]
/-- a cell of an object is written -/
theorem stt_set {W : World} {M : Col → Pc} {c : Col} {o i : Nat} {cs cs' : Array Value} {t : TypeId} (h : Stt W M) (ho : M c = objP o cs t) (v : Value) (hc : cs.setIfInBounds i v = cs') : Stt (W.setCell ⟨o, i, none⟩ v) (upd M c (objP o cs' t)) := by
  obtain ⟨col, h⟩ := h
  have hb := h c
  rw [ho] at hb
  subst hc
  exact stt_one h ⟨set_cells hb.1, fun _ => hb.2⟩ (Kp.setCell W _ v (fun _ => hb.2))
/-- a row that is made longer by an append -/
theorem stt_grow {W W1 w2 : World} {M : Col → Pc} {c : Col} {e sz n n' gg cc : Nat} {v : Value} {xs ys : List Value} (h : Stt W M) (hM : M c = rowP e sz v n xs) (hb : Below W.heap.size W W1) (own2 : w2.ownsRow 0 e sz (.slice (some ⟨gg, 0, none⟩) n' cc) n' ys) (hg2 : W1.grownBy w2 v.ownBlock) (hgg : v.ownBlock = some gg ∨ W1.heap.size ≤ gg) : Stt w2 (upd M c (rowP e sz (.slice (some ⟨gg, 0, none⟩) n' cc) n' ys)) := by
  have h1 := stt_below h hb
  obtain ⟨col, h1⟩ := h1
  have hr := h1 c
  rw [hM] at hr
  refine stt_one h1 ⟨own2, fun k e _ => ?_⟩ (Kp.ofGrown hg2 (fun i e _ _ => hr.2 i e))
  simp only [Value.ownBlock, Option.some.injEq] at e
  subst e
  rcases hgg with hgg | hgg
  · exact hr.2 gg hgg
  · omega
theorem upd_self {M : Col → Pc} {c : Col} {p : Pc} (h : M c = p) : upd M c p = M := by
  funext d
  by_cases e : d = c
  · rw [e, upd_eq, h]
  · rw [upd_ne e]
theorem upd_twice (M : Col → Pc) (c : Col) (p q : Pc) : upd (upd M c p) c q = upd M c q := by
  funext d
  by_cases e : d = c
  · rw [e, upd_eq, upd_eq]
  · rw [upd_ne e, upd_ne e, upd_ne e]
theorem upd_swap (M : Col → Pc) {c d : Col} (p q : Pc) (h : c ≠ d) : upd (upd M c p) d q = upd (upd M d q) c p := by
  funext e
  by_cases e1 : e = c
  · subst e1
    rw [upd_ne h, upd_eq, upd_eq]
  · by_cases e2 : e = d
    · subst e2
      rw [upd_eq, upd_ne e1, upd_eq]
    · rw [upd_ne e2, upd_ne e1, upd_ne e1, upd_ne e2]
end Go.Proofs.Ytonmoidalkcmoaa
