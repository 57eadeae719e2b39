import Derived.Test.YtcmfephbhbgoiaaDoorLClone
import Derived.Laws.CopyOwn
namespace Go.Proofs.YtcmfephbhbgoiaaDoor
open Go.RowKit Go.WideShapes
set_option maxRecDepth 100000

theorem hidS {p : Prop} (h : p) : Hid p := h
/-- all blocks but those of S are as they were -/
structure Kp (S : Nat → Prop) (w w' : World) : Prop where
  os : w'.os = w.os
  tape : w'.tape = w.tape
  output : w'.output = w.output
  size : w.heap.size ≤ w'.heap.size
  block : ∀ k, k < w.heap.size → ¬ S k → w'.heap[k]? = w.heap[k]?
theorem Kp.refl (S : Nat → Prop) (w : World) : Kp S w w := ⟨rfl, rfl, rfl, Nat.le_refl _, fun _ _ _ => rfl⟩
theorem Kp.trans {S S' : Nat → Prop} {a b c : World} (h : Kp S a b) (k : Kp S' b c) (hs : ∀ i, i < a.heap.size → S' i → S i) : Kp S a c :=
  ⟨k.os.trans h.os, k.tape.trans h.tape, k.output.trans h.output, Nat.le_trans h.size k.size, fun i hi hn => (k.block i (Nat.lt_of_lt_of_le hi h.size) (fun e => hn (hs i hi e))).trans (h.block i hi hn)⟩
theorem Kp.mono {S S' : Nat → Prop} {a b : World} (h : Kp S a b) (hs : ∀ i, i < a.heap.size → S i → S' i) : Kp S' a b :=
  ⟨h.os, h.tape, h.output, h.size, fun i hi hn => h.block i hi (fun e => hn (hs i hi e))⟩
theorem Kp.below {S : Nat → Prop} {B : Nat} {a b : World} (h : Kp S a b) (hB : B ≤ a.heap.size) (hs : ∀ i, S i → B ≤ i) : Below B a b :=
  ⟨h.os, h.tape, h.output, h.size, fun k hk => h.block k (by omega) (fun e => by have := hs k e; omega)⟩
theorem Kp.ofBelow {S : Nat → Prop} {a b : World} (h : Below a.heap.size a b) : Kp S a b := ⟨h.os, h.tape, h.output, h.size, fun k hk _ => h.block k hk⟩
theorem Kp.ofGrown {S : Nat → Prop} {a b : World} {r : Option Nat} (h : a.grownBy b r) (hs : ∀ i, r = some i → i < a.heap.size → S i) : Kp S a b :=
  ⟨h.os, h.tape, h.output, h.size, fun k hk hn => h.block k hk (fun e => hn (hs k e.symm hk))⟩
theorem Kp.setCell {S : Nat → Prop} (w : World) (p : Addr) (u : Value) (hs : S p.block) : Kp S w (w.setCell p u) :=
  ⟨rfl, rfl, rfl, by simp [World.setCell], fun k _ hn => Below.heap_setCell _ _ _ _ (fun e => hn (e ▸ hs))⟩
theorem Kp.setRow {S : Nat → Prop} (w : World) (g : Nat) (cs : Array Value) (hs : S g) : Kp S w (w.setRow g cs) :=
  ⟨rfl, rfl, rfl, by simp [World.setRow], fun k _ hn => setRow_other w g k cs (fun e => hn (e ▸ hs))⟩
theorem Kp.alloc {S : Nat → Prop} (w : World) (o : Obj) : Kp S w (w.alloc o) :=
  ⟨rfl, rfl, rfl, by simp, fun k hk _ => Below.heap_alloc _ _ _ hk⟩
theorem Kp.own {S : Nat → Prop} {w w' : World} (h : Kp S w w') {B e sz n : Nat} {v : Value} {xs : List Value} (ho : w.ownsRow B e sz v n xs) (hs : ∀ k, v.ownBlock = some k → ¬ S k) : w'.ownsRow B e sz v n xs := by
  refine ⟨ho.1, ?_⟩
  rcases ho.2 with hn | ⟨g, cap, cur, rfl, hb, hgg, rest⟩
  · exact .inl hn
  · exact .inr ⟨g, cap, cur, rfl, hb, by rw [h.block g (Array.getElem?_eq_some_iff.1 hgg).1 (hs g rfl)]; exact hgg, rest⟩
theorem Kp.cell {S : Nat → Prop} {w w' : World} (h : Kp S w w') {p : Addr} (hl : p.block < w.heap.size) (hs : ¬ S p.block) : w'.cell? p = w.cell? p := World.cell?_of_block (w := w) (h.block p.block hl hs)
theorem Kp.reads {S : Nat → Prop} {w w' : World} (h : Kp S w w') {ao : Option Addr} {zs : List Int} {B : Nat} (hr : Reads w ao zs B) (hB : B ≤ w.heap.size) (hs : ∀ k, k < B → ¬ S k) : Reads w' ao zs B := by
  intro hl
  obtain ⟨b, off, e, hlt, hc⟩ := hr hl
  exact ⟨b, off, e, hlt, fun j hj => (h.cell (p := ⟨b, off + j, none⟩) (Nat.lt_of_lt_of_le hlt hB) (hs b hlt)).trans (hc j hj)⟩

/-- how many bytes a segment may have -/
def Pw (n : Nat) : Prop := n = 256 ∨ n = 512 ∨ n = 1024 ∨ n = 2048 ∨ n = 4096 ∨ n = 8192 ∨ n = 16384 ∨ n = 32768 ∨ n = 65536
theorem Pw.bd {n : Nat} (h : Pw n) : 256 ≤ n ∧ n ≤ 65536 := by unfold Pw at h; omega
theorem Pw.mod {n : Nat} (h : Pw n) (x : Nat) : x % 4294967296 % n = x % n := by
  rcases h with rfl | rfl | rfl | rfl | rfl | rfl | rfl | rfl | rfl <;> omega

/-- the bytes from a place on -/
def rdL (bs : List Int) (p n : Nat) : List Int := (List.range n).map fun i => bs.getD ((p + i) % bs.length) 0
/-- bytes laid down from a place on -/
def wrL : List Int → Nat → List Int → List Int
  | bs, _, [] => bs
  | bs, p, d :: ds => wrL (bs.set (p % bs.length) d) (p + 1) ds
theorem rdL_len (bs : List Int) (p n : Nat) : (rdL bs p n).length = n := by simp [rdL]
theorem rdL_get (bs : List Int) (p n i : Nat) (h : i < n) : (rdL bs p n).getD i 0 = bs.getD ((p + i) % bs.length) 0 := by simp [rdL, h]
theorem rdL_zero (bs : List Int) (p : Nat) : rdL bs p 0 = [] := rfl
theorem rdL_add (bs : List Int) (p n m : Nat) : rdL bs p (n + m) = rdL bs p n ++ rdL bs (p + n) m := by
  simp [rdL, List.range_add, Function.comp_def, Nat.add_assoc]
theorem rdL_mod (bs : List Int) (p q n : Nat) (h : p % bs.length = q % bs.length) : rdL bs p n = rdL bs q n := by
  unfold rdL
  refine List.map_congr_left fun i _ => ?_
  rw [Nat.add_mod p, Nat.add_mod q, h]
theorem rdL_chunk (bs : List Int) (p n : Nat) (h : p + n ≤ bs.length) : rdL bs p n = (bs.drop p).take n := by
  apply List.ext_getElem?
  intro i
  by_cases hi : i < n
  · have : (p + i) % bs.length = p + i := Nat.mod_eq_of_lt (by omega)
    have h2 : p + i < bs.length := by omega
    simp [rdL, hi, this, h2]
  · rw [List.getElem?_eq_none (by rw [rdL_len]; omega), List.getElem?_eq_none (by simp; omega)]
theorem rdL_wf (bs : List Int) (p n : Nat) (h : ∀ z ∈ bs, 0 ≤ z ∧ z ≤ 255) (h0 : 0 < bs.length) : ∀ z ∈ rdL bs p n, 0 ≤ z ∧ z ≤ 255 := by
  intro z hz
  simp only [rdL, List.mem_map] at hz
  obtain ⟨i, _, rfl⟩ := hz
  exact h _ (getD_mem (Nat.mod_lt _ h0))
theorem wrL_len (ds : List Int) : ∀ (bs : List Int) (p : Nat), (wrL bs p ds).length = bs.length := by
  induction ds with
  | nil => intros; rfl
  | cons d ds ih => intro bs p; rw [wrL, ih]; simp
theorem wrL_append (xs : List Int) : ∀ (bs : List Int) (p : Nat) (ys : List Int), wrL bs p (xs ++ ys) = wrL (wrL bs p xs) (p + xs.length) ys := by
  induction xs with
  | nil => intros; rfl
  | cons d ds ih => intro bs p ys; rw [List.cons_append, wrL, ih, wrL]; congr 1; simp; omega
theorem wrL_mod (ds : List Int) : ∀ (bs : List Int) (p q : Nat), p % bs.length = q % bs.length → wrL bs p ds = wrL bs q ds := by
  induction ds with
  | nil => intros; rfl
  | cons d ds ih =>
    intro bs p q h
    rw [wrL, wrL, h]
    refine ih _ _ _ ?_
    rw [List.length_set, Nat.add_mod p, Nat.add_mod q, h]
theorem wrL_wf (ds : List Int) : ∀ (bs : List Int) (p : Nat), (∀ z ∈ bs, 0 ≤ z ∧ z ≤ 255) → (∀ z ∈ ds, 0 ≤ z ∧ z ≤ 255) → ∀ z ∈ wrL bs p ds, 0 ≤ z ∧ z ≤ 255 := by
  induction ds with
  | nil => intro bs p h _; exact h
  | cons d ds ih =>
    intro bs p h hd
    refine ih _ _ ?_ (fun z hz => hd z (by simp [hz]))
    intro z hz
    rcases List.mem_or_eq_of_mem_set hz with h1 | h1
    · exact h z h1
    · rw [h1]; exact hd d (by simp)
theorem splice_nil {α : Type} (L : List α) (off : Nat) : splice L off [] = L := by simp [splice]
theorem splice_cons {α : Type} (L : List α) (off : Nat) (c : α) (cs : List α) (h : off + cs.length + 1 ≤ L.length) : splice L off (c :: cs) = splice (L.set off c) (off + 1) cs := by
  unfold splice
  have h1 : (L.set off c).take (off + 1) = L.take off ++ [c] := by
    have : L[off]? = some L[off] := List.getElem?_eq_getElem (by omega)
    rw [List.take_set, List.take_add_one, List.set_append_right _ _ (by rw [List.length_take]; omega), this, List.length_take, show off - min off L.length = 0 by omega]
    rfl
  rw [h1, List.drop_set_of_lt (by omega)]
  simp [Nat.add_comm, Nat.add_left_comm]
theorem wrL_chunk (cs : List Int) : ∀ (bs : List Int) (p : Nat), p + cs.length ≤ bs.length → wrL bs p cs = splice bs p cs := by
  induction cs with
  | nil => intro bs p _; rw [splice_nil]; rfl
  | cons c cs ih =>
    intro bs p h
    simp only [List.length_cons] at h
    rw [wrL, Nat.mod_eq_of_lt (by omega), ih _ _ (by simp; omega), splice_cons _ _ _ _ (by omega)]
theorem splice_map (L cs : List Int) (off : Nat) : splice (bv L) off (bv cs) = bv (splice L off cs) := by simp [splice, bv]
theorem splice_append {α : Type} (L M : List α) (off : Nat) (cs : List α) (h : off + cs.length ≤ L.length) : splice (L ++ M) off cs = splice L off cs ++ M := by
  unfold splice
  rw [List.take_append_of_le_length (by omega), List.drop_append_of_le_length (by omega)]
  simp
theorem wrL_out (es : List Int) : ∀ (cs : List Int) (q j : Nat), (∀ i, i < es.length → (q + i) % cs.length ≠ j) → (wrL cs q es).getD j 0 = cs.getD j 0 := by
  induction es with
  | nil => intros; rfl
  | cons e es ihe =>
    intro cs q j hn
    rw [wrL, ihe _ _ _ (fun i hi => by have := hn (i + 1) (by simp; omega); rwa [List.length_set, show q + 1 + i = q + (i + 1) by omega])]
    have := hn 0 (by simp)
    rw [Nat.add_zero] at this
    simp [List.getD, this]
/-- what stands at a place behind laying down -/
theorem wrL_get (ds : List Int) : ∀ (bs : List Int) (p i : Nat), ds.length ≤ bs.length → i < ds.length → (wrL bs p ds).getD ((p + i) % bs.length) 0 = ds.getD i 0 := by
  induction ds with
  | nil => intro bs p i _ h; simp at h
  | cons d ds ih =>
    intro bs p i hl hi
    simp only [List.length_cons] at hl hi
    have hpos : 0 < bs.length := by omega
    cases i with
    | zero =>
      rw [wrL, Nat.add_zero]
      rw [wrL_out _ _ _ _ ?_]
      · simp [List.getD, Nat.mod_lt _ hpos]
      · intro i hi e
        rw [List.length_set] at e
        have h1 : (p + 1 + i) % bs.length = (p % bs.length + (1 + i)) % bs.length := by rw [Nat.add_assoc, Nat.mod_add_mod]
        rw [h1] at e
        have hm := Nat.mod_lt p hpos
        generalize p % bs.length = r at *
        by_cases hr : r + (1 + i) < bs.length
        · rw [Nat.mod_eq_of_lt hr] at e; omega
        · rw [Nat.mod_eq_sub_mod (by omega), Nat.mod_eq_of_lt (by omega)] at e; omega
    | succ i =>
      have := ih (bs.set (p % bs.length) d) (p + 1) i (by simp; omega) (by omega)
      rw [List.length_set] at this
      rw [wrL, show p + (i + 1) = p + 1 + i by omega, this]
      simp
/-- what was laid down is read -/
theorem rdL_wrL (bs ds : List Int) (p : Nat) (h : ds.length ≤ bs.length) : rdL (wrL bs p ds) p ds.length = ds := by
  apply List.ext_getElem?
  intro i
  by_cases hi : i < ds.length
  · have := wrL_get ds bs p i h hi
    have e : (rdL (wrL bs p ds) p ds.length)[i]? = some ((wrL bs p ds).getD ((p + i) % bs.length) 0) := by simp [rdL, hi, wrL_len]
    rw [e, this]
    simp [List.getD, List.getElem?_eq_getElem hi]
  · rw [List.getElem?_eq_none (by rw [rdL_len]; omega), List.getElem?_eq_none (by omega)]
end Go.Proofs.YtcmfephbhbgoiaaDoor
