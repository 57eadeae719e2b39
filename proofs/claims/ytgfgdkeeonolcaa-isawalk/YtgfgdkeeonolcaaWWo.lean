import Derived.Test.YtgfgdkeeonolcaaWWk
import Derived.Test.YtgfgdkeeonolcaaLClone
import Derived.Test.YtgfgdkeeonolcaaLKept
import Derived.Test.YtgfgdkeeonolcaaIPl
import Derived.Sort.QuietIn
namespace Go.Proofs.Ytgfgdkeeonolcaa
open Go.RowKit Go.Shelf
attribute [local go_sem] Oper.semAt_some

theorem run_store_func (P : Program) (w : World) (a : Addr) (f : Fn) (x y : Array Value) (m : Mode) : (store a (.func f x y) m).run P w = stored P w a (.func f x y) m := run_store P w a _ m rfl
theorem wnileq (b : Nat) (w : World) : (Op.equal 30 (.func (.func 13) #[] #[.pointer (some ⟨b, 0, none⟩)]) .nilFunc).run Try.prog w = .ok false w := by
  have hu := run_underlying (P := Try.prog) (w := w) Try.underlying30
  unfold Op.equal
  obtain ⟨d, hd⟩ : ∃ d, Op.maxDepth = d + 1 := ⟨_, rfl⟩
  rw [hd, Op.equalIn]
  simp only [Sem.run_bind, hu, Result.andThen]
  rfl
theorem wnilcmp (b : Nat) (w : World) : (binOp .eql 30 (.func (.func 13) #[] #[.pointer (some ⟨b, 0, none⟩)]) .nilFunc).run Try.prog w = .ok (.bool false) w := by
  have h := wnileq b w
  have e : binOp .eql 30 (.func (.func 13) #[] #[.pointer (some ⟨b, 0, none⟩)]) .nilFunc = (do pure (.bool (← Op.equal 30 (.func (.func 13) #[] #[.pointer (some ⟨b, 0, none⟩)]) .nilFunc))) := rfl
  rw [e, Sem.run_bind, h]
  rfl
set_option maxRecDepth 100000 in
set_option maxHeartbeats 1000000 in
theorem iwalk_any (ao : Option Addr) (cap : Nat) (zs : List Int) (w : World) (hn : zs.length ≤ 140737488355328) (hnil : ao = none → zs = []) (hr : Reads w ao zs w.heap.size) :
    Calls Try.prog 6 #[.slice ao zs.length cap] w fun e w' => ∃ (Bs : Nat) (v : Value), e = .returned (.func (.func 13) #[] #[.pointer (some ⟨Bs, 0, none⟩)]) ∧ w.heap.size ≤ Bs ∧ Boxed w' Bs 22 v ∧ w'.ownsRow w.heap.size 5 1 v zs.length (bv zs) ∧ Below w.heap.size w w' := by
  go_enter Try.func6, Try.ntmps6
  go_wp2_with (go_at_call 12; refine (clone_any _ _ _ _ hn hnil hr).mono ?_; rintro e wq ⟨v, rfl, hown, hq⟩; obtain ⟨va, vc, rfl⟩ := own_any hown)
  go_ret
  exact ⟨wq.heap.size, _, rfl, hq.size, Boxed.new wq _ _, hown.alloc _, hq.alloc hq.size _⟩
theorem calls_wide {n m l0 : Nat} {P : Program} {f : FuncId} {args : Array Value} {w : World} {R : Ending → World → Prop} (h : CallsIn Fence.wide n P f args w R) : CallsIn (Fence.wide.inRound l0) m P f args w R :=
  ⟨trivial, fun cs _ => h.2 cs (fun _ hd => by cases hd)⟩
theorem seq_wide {α : Type} {n m l0 : Nat} {P : Program} {g : Nat} {lb : Array Value} {encs : α → Array Value} {Kp : World → World → Prop} {S Sp : List α → Prop} {N : Nat} {w : World} (h : SeqOwn Fence.wide n P g lb encs Kp S Sp N w) : SeqOwn (Fence.wide.inRound l0) m P g lb encs Kp S Sp N w := by
  intro l J Jx W hW hJ hJx hY h0
  refine calls_wide (h l J Jx W hW hJ hJx (fun pre x W1 hj hl hs => ?_) h0)
  obtain ⟨fn, tmps, assign, body, hy, hR⟩ := hY pre x W1 hj hl hs
  exact ⟨fn, tmps, assign, body, hy, trivial, fun c cs _ => hR.2 c cs (fun _ hd => by cases hd)⟩
/-- the cells that stood stand, one block aside -/
def Agree (A : World) (k : Nat) (V : World) : Prop := A.heap.size ≤ V.heap.size ∧ ∀ j o, j ≠ k → A.heap[j]? = some o → o.isCells = true → V.heap[j]? = some o
theorem Agree.refl (A : World) (k : Nat) : Agree A k A := ⟨Nat.le_refl _, fun _ _ _ h _ => h⟩
theorem Agree.alloc {A V : World} {k : Nat} (h : Agree A k V) (o : Obj) : Agree A k (V.alloc o) :=
  ⟨by simp; exact Nat.le_succ_of_le h.1, fun j o' hj ho hc => by have := h.2 j o' hj ho hc; exact (Below.heap_alloc _ _ _ (Array.getElem?_eq_some_iff.1 this).1).trans this⟩
theorem Agree.set {A V : World} {k : Nat} (h : Agree A k V) (v : Value) : Agree A k (V.setCell ⟨k, 0, none⟩ v) :=
  ⟨by simp; exact h.1, fun j o hj ho hc => (heap_set_ne hj).trans (h.2 j o hj ho hc)⟩
theorem Agree.high {A V : World} {k b : Nat} (h : Agree A k V) (hb : A.heap.size ≤ b) (v : Value) : Agree A k (V.setCell ⟨b, 0, none⟩ v) :=
  ⟨by simp; exact h.1, fun j o hj ho hc => (heap_set_ne (by have := (Array.getElem?_eq_some_iff.1 ho).1; omega)).trans (h.2 j o hj ho hc)⟩
theorem Agree.step {A V C : World} {k : Nat} {row : Option Nat} (h : Agree A k V) (hg : V.grownBy C row) (hr : ∀ r, row = some r → ∃ o : Obj, V.heap[r]? = some o ∧ o.isCells = false) : Agree A k C := by
  refine ⟨Nat.le_trans h.1 hg.size, fun j o hj ho hc => ?_⟩
  have h1 := h.2 j o hj ho hc
  refine (hg.block j (Array.getElem?_eq_some_iff.1 h1).1 (fun e => ?_)).trans h1
  obtain ⟨o2, h2, h3⟩ := hr j e.symm
  rw [h1] at h2
  cases h2
  rw [hc] at h3
  cases h3
theorem Agree.put {A V : World} {k l : Nat} {o o' : Obj} (h : Agree A k V) (hl : V.heap[l]? = some o) (hc : o.isCells = false) : Agree A k (V.putObj l o') := h.step (grownBy_putObj' V l o') (fun r e => by cases e; exact ⟨o, hl, hc⟩)
theorem Agree.box {A V : World} {k b t : Nat} {v : Value} (h : Agree A k V) (hb : Boxed A b t v) (hk : b ≠ k) : Boxed V b t v := h.2 b _ hk hb rfl
theorem Agree.cell {A V : World} {k : Nat} {p : Addr} {v : Value} (h : Agree A k V) (hp : A.cell? p = some v) (hk : p.block ≠ k) : V.cell? p = some v := by
  cases ho : A.heap[p.block]? with
  | none => simp [World.cell?, ho] at hp
  | some o =>
    have hc : o.isCells = true := by cases o <;> simp_all [World.cell?, Obj.isCells]
    exact (World.cell?_of_block ((h.2 _ o hk ho hc).trans ho.symm)).trans hp
theorem Agree.reads {A V : World} {k : Nat} {ao : Option Addr} {zs : List Int} {B : Nat} (h : Agree A k V) (hr : Reads A ao zs B) (hk : B ≤ k) : Reads V ao zs B := by
  intro hp
  obtain ⟨b, off, e, hb, hx⟩ := hr hp
  exact ⟨b, off, e, hb, fun j hj => h.cell (hx j hj) (by show b ≠ k; omega)⟩
theorem with_tmps {F : Fence} {n : Nat} {P : Program} {c : Code} {Q : Exit → Act → World → Prop} {ts : Array Value} {ds : List Deferred} {w : World} (h : ∀ T, T = ts → c.wpIn F n P Q { tmps := T, defers := ds } w) : c.wpIn F n P Q { tmps := ts, defers := ds } w := h _ rfl
theorem Upon.drewN (B : Nat) (W : World) (n : Nat) : Upon B W (W.drewN n) := ⟨Nat.le_refl _, fun _ _ _ => rfl⟩
theorem Agree.drewN {A V : World} {k : Nat} (h : Agree A k V) (n : Nat) : Agree A k (V.drewN n) := h
theorem Boxed.drewN {V : World} {b t : Nat} {v : Value} (h : Boxed V b t v) (n : Nat) : Boxed (V.drewN n) b t v := h
theorem wrap_small {k : Nat} (h : k < 16385) : wrap64 ((k : Int) + 1) = (k : Int) + 1 := by unfold wrap64; omega
theorem inCells {W : World} {R : Nat} {u v : Value} (h : W.heap[R]? = some (.cells #[u, v] 37)) : W.cell? ⟨R, 0, none⟩ = some u ∧ W.cell? ⟨R, 1, none⟩ = some v := by
  constructor <;> simp [World.cell?, h]
theorem rds_le (zs : List Int) : ∀ (f k p : Nat), (rds zs f k p).length ≤ f
  | 0, k, p => by simp [rds]
  | f + 1, k, p => by
    have := rds_le zs f
    unfold rds
    split
    · split
      · simp only [List.length_cons]; have := this (k + 1) (p + (rdK zs k p).2.2.1); omega
      · simp
    · simp
theorem ok_len (zs : List Int) : (okItems zs).length ≤ zs.length := Nat.le_trans (List.length_filter_le _ _) (rds_le zs _ _ _)
theorem pl_own {A : World} {B n c : Nat} {pa : Option Addr} {L : List It} (h : A.ownsRow B 3 1 (.slice pa n c) n (bi (L.map fun x => (x.1 : Int)))) (hL : L.length = n) {i : Nat} {x : It} (hi : L[i]? = some x) : ∃ g, pa = some ⟨g, 0, none⟩ ∧ B ≤ g ∧ g < A.heap.size ∧ A.cell? ⟨g, i, none⟩ = some (.int .i64 (x.1 : Int)) := by
  have hlt : i < L.length := (List.getElem?_eq_some_iff.1 hi).1
  obtain ⟨g, c', e, _⟩ := own_form h (by omega)
  cases e
  have hl := h.lt g rfl
  refine ⟨g, rfl, hl.1, hl.2, ?_⟩
  have := h.cells (g := g) rfl i (.int .i64 (x.1 : Int)) (by simp [bi, hi])
  have hadd : (⟨g, 0, none⟩ : Addr).add i = ⟨g, 0 + i, none⟩ := by unfold Addr.add; split <;> simp_all
  rw [hadd, Nat.zero_add] at this; exact this
theorem co_own {A : World} {B n c : Nat} {pa : Option Addr} {L : List It} (h : A.ownsRow B 37 2 (.slice pa n c) n (cv (L.map gIt))) (hL : L.length = n) {i : Nat} {x : It} (hi : L[i]? = some x) : ∃ g, pa = some ⟨g, 0, none⟩ ∧ B ≤ g ∧ g < A.heap.size ∧ A.cell? ⟨g, i * 2, none⟩ = some (.int .u8 (x.2.1 : Int)) ∧ A.cell? ⟨g, i * 2 + 1, none⟩ = some (.int .u32 (x.2.2.1 : Int)) := by
  have hlt : i < L.length := (List.getElem?_eq_some_iff.1 hi).1
  obtain ⟨g, c', e, _⟩ := own_form h (by omega)
  cases e
  have hl := h.lt g rfl
  refine ⟨g, rfl, hl.1, hl.2, ?_⟩
  have hg : ∀ j v, (cv (L.map gIt))[j]? = some v → A.cell? ⟨g, j, none⟩ = some v := by
    intro j v hj
    have := h.cells (g := g) rfl j v hj
    have hadd : (⟨g, 0, none⟩ : Addr).add j = ⟨g, 0 + j, none⟩ := by unfold Addr.add; split <;> simp_all
    rw [hadd, Nat.zero_add] at this; exact this
  have e : L.map gIt = (L.take i).map gIt ++ gIt x :: (L.drop (i + 1)).map gIt := by
    rw [← List.map_cons (f := gIt), ← List.map_append]
    congr 1
    rw [show x = L[i] from (List.getElem?_eq_some_iff.1 hi).2.symm, ← List.drop_eq_getElem_cons hlt, List.take_append_drop]
  have hk : (cv ((L.take i).map gIt)).length = i * 2 := by rw [cv_len]; simp; omega
  rw [e, cv_append] at hg
  exact ⟨hg _ _ (by rw [List.getElem?_append_right (by omega), hk]; simp [cv, gIt]), hg _ _ (by rw [List.getElem?_append_right (by omega), hk]; simp [cv, gIt])⟩
end Go.Proofs.Ytgfgdkeeonolcaa
