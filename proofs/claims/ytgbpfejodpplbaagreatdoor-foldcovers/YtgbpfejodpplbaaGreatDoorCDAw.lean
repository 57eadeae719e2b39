import Derived.Test.YtgbpfejodpplbaaGreatDoorCDLg
import Derived.Test.YtgbpfejodpplbaaGreatDoorCVRw
import Derived.Test.YtgbpfejodpplbaaGreatDoorCPIn
import Derived.Laws.AppendOwn
namespace Go.Proofs.YtgbpfejodpplbaaGreatDoor
open Go.RowKit Go.WideShapes
set_option maxRecDepth 100000

theorem cvD_get (L : List (Nat × Nat)) : ∀ j, j < L.length → (cv L)[j * 2]? = some (.int .u8 (L.getD j (0, 0)).1) ∧ (cv L)[j * 2 + 1]? = some (.int .u32 (L.getD j (0, 0)).2) := by
  induction L with
  | nil => intro j hj; simp at hj
  | cons p L ih =>
    intro j hj
    cases j with
    | zero => exact ⟨rfl, rfl⟩
    | succ j =>
      have := ih j (by simpa using hj)
      rw [show cv (p :: L) = .int .u8 p.1 :: .int .u32 p.2 :: cv L from rfl, show (j + 1) * 2 = j * 2 + 1 + 1 by omega, show (p :: L).getD (j + 1) (0, 0) = L.getD j (0, 0) from rfl]
      exact this
/-- code that lies in a block of its own is read -/
theorem crd_blkD {w : World} {b : Nat} {cs : Array Value} {t : TypeId} {L : List (Nat × Nat)} (h : w.heap[b]? = some (.cells cs t)) (hcs : cs.toList = cv L) : CRd w (some ⟨b, 0, none⟩) L w.heap.size := by
  intro _
  refine ⟨b, 0, rfl, (Array.getElem?_eq_some_iff.1 h).1, fun j hj => ?_⟩
  have := cvD_get L j hj
  rw [← hcs] at this
  rw [Nat.zero_add, obj_cell h, obj_cell h]
  simpa using this
def awL : List (Nat × Nat) := [(8, 2), (8, 3), (41, 0), (38, 0), (31, 0)]
theorem awL_wf : Wfc awL := by unfold Wfc awL; decide +kernel
theorem aw1 : lnP awL 0 5 = (0, 4, 2, 4294967290) ∧ lnE awL 0 5 = 0 := by decide +kernel
theorem aw2 : lnP awL 4 5 = (4, 1, 1, 0) ∧ lnE awL 4 5 = 0 := by decide +kernel
abbrev awC : Array Value := #[.int .u8 8, .int .u32 2, .int .u8 8, .int .u32 3, .int .u8 41, .int .u32 0, .int .u8 38, .int .u32 0, .int .u8 31, .int .u32 0]
theorem aw1_call (b : Nat) (w : World) (h : w.heap[b]? = some (.cells awC 43)) :
    Calls Tryz.prog 15 #[.slice (some ⟨b, 0, none⟩) 5 5, .int .u32 0, .int .u32 5] w fun x w' => x = .returned (.tuple #[.agg #[.int .u32 0, .int .u32 4, .int .u8 2, .int .u32 4294967290], .int .i64 0]) ∧ Below w.heap.size w w' := by
  have := Longest_any (some ⟨b, 0, none⟩) 5 0 5 awL w (by decide) (by decide) (by decide) (by decide) awL_wf (crd_blkD h rfl)
  rw [aw1.1, aw1.2] at this
  exact this
theorem aw2_call (b : Nat) (w : World) (h : w.heap[b]? = some (.cells awC 43)) :
    Calls Tryz.prog 15 #[.slice (some ⟨b, 0, none⟩) 5 5, .int .u32 4, .int .u32 5] w fun x w' => x = .returned (.tuple #[.agg #[.int .u32 4, .int .u32 1, .int .u8 1, .int .u32 0], .int .i64 0]) ∧ Below w.heap.size w w' := by
  have := Longest_any (some ⟨b, 0, none⟩) 5 4 5 awL w (by decide) (by decide) (by decide) (by decide) awL_wf (crd_blkD h rfl)
  rw [aw2.1, aw2.2] at this
  exact this
theorem at_pc {P : Program} {ops : Array Oper} {Q : Exit → Act → World → Prop} {rest : List Oper} {o : Oper} {a : Act} {w : World} {p q : Operand} (_ho : o.op = .store 40 p q) (h : wpList P ops Q (o :: rest) a w) : wpList P ops Q (o :: rest) a w := h
set_option maxHeartbeats 1000000 in
theorem fawake_any (w : World) : Calls Tryz.prog 6 #[] w fun x w' => x = .returned (.bool true) ∧ Below w.heap.size w w' := by
  have hbd : Below w.heap.size w w := Below.refl _ _
  have H1 := dhid (fun o => aw1_call w.heap.size (w.alloc o))
  go_enter Tryz.func6, Tryz.ntmps6
  go_wp2_with fail
  with_reducible refine (H1.out _ ?_).mono ?_
  · exact heap_alloc_new w _
  rintro x w1 ⟨rfl, hb1⟩
  have o1 := dhid ((hb1.block w.heap.size (by simp)).trans (heap_alloc_new w _))
  have hB1 := dhid ((hbd.alloc (Nat.le_refl _) _).trans (hb1.mono (by simp)))
  have hz1 := hb1.size
  simp at hz1
  have H2 := dhid (fun o => aw2_call w.heap.size (w1.alloc o) ((Below.heap_alloc _ _ _ (by omega)).trans o1.out))
  clear H1
  go_wp2_with fail
  with_reducible refine (H2.out _).mono ?_
  rintro x w2 ⟨rfl, hb2⟩
  have p2 := dhid ((hb2.block w1.heap.size (by simp)).trans (heap_alloc_new w1 _))
  have hB2 := dhid ((hB1.out.alloc hB1.out.size _).trans (hb2.mono (by simp; omega)))
  clear H2
  have p3 := setRow_heap w2 w1.heap.size _ #[.int .u32 4, .int .u32 1, .int .u8 1, .int .u32 0] _ _ p2.out
  have e0 := obj_cell p3 0
  have e1 := obj_cell p3 1
  have e2 := obj_cell p3 2
  have e3 := obj_cell p3 3
  simp only [List.getElem?_toArray, List.getElem?_cons_zero, List.getElem?_cons_succ] at e0 e1 e2 e3
  replace p3 := trivial
  go_wp2_with (refine wpList_store_rowD rfl _ _ _ rfl w1.heap.size _ #[.int .u32 4, .int .u32 1, .int .u8 1, .int .u32 0] rfl rfl p2.out (by rw [sizeDPc]; rfl) rfl (by simp [Value.oneCell']) ?_)
  go_ret
  exact ⟨rfl, hB2.out.trans ((KpSetRow (S := fun k => k = w1.heap.size) _ w1.heap.size _ rfl).below hB2.out.size (fun i e => by omega))⟩
end Go.Proofs.YtgbpfejodpplbaaGreatDoor
namespace Go.Proofs.YtgbpfejodpplbaaGreatDoor
open Go.RowKit Go.WideShapes
set_option maxRecDepth 100000

theorem own_objC {w : World} {B e sz n k : Nat} {v : Value} {xs : List Value} (h : w.ownsRow B e sz v n xs) (hk : v.ownBlock = some k) : B ≤ k ∧ ∃ cur fr, w.heap[k]? = some (.cells cur e fr) := by
  refine ⟨(h.lt k hk).1, ?_⟩
  rcases h.2 with ⟨rfl, _⟩ | ⟨g, cap, cur, rfl, _, h3, _⟩
  · cases hk
  · cases hk
    exact ⟨_, _, h3⟩
/-- rows of two types lie apart -/
theorem own_apart {w : World} {B B' e e' sz sz' n n' : Nat} {v v' : Value} {xs xs' : List Value} (h : w.ownsRow B e sz v n xs) (h' : w.ownsRow B' e' sz' v' n' xs') (hne : e ≠ e') (k : Nat) (hk : v.ownBlock = some k) : ¬ v'.ownBlock = some k := fun hk' => by
  obtain ⟨_, c, f, h1⟩ := own_objC h hk
  obtain ⟨_, c', f', h2⟩ := own_objC h' hk'
  rw [h1] at h2
  cases h2
  exact hne rfl
theorem own_slice {w : World} {B e sz n : Nat} {v : Value} {xs : List Value} (h : w.ownsRow B e sz v n xs) : ∃ a c, v = .slice a n c := by
  rcases h.2 with ⟨rfl, hz⟩ | ⟨g, cap, cur, rfl, _⟩
  · exact ⟨none, 0, by rw [hz]⟩
  · exact ⟨_, _, rfl⟩
/-- what an append leaves alone -/
theorem app_of {wr w' : World} {o : Obj} {r : Option Nat} (hg : (wr.alloc o).drew.grownBy w' r) : Kp (fun k => r = some k) wr w' := by
  have k1 : Kp (fun _ => False) wr (wr.alloc o).drew := by
    have := Kp.ofBelow (S := fun _ => False) ((Below.refl _ wr).alloc (Nat.le_refl _) o)
    exact ⟨this.os, this.tape, this.output, this.size, this.block⟩
  exact (k1.mono (fun _ _ q => q.elim)).trans (Kp.ofGrown hg (fun i e _ => e)) (fun _ _ q => q)
/-- a copy that is being made -/
structure CpI (w2 wr : World) (kO : Nat) (v1 v2 v3 v4 : Value) (L : List (Nat × Nat)) (J : List Nat) (ds : List Int) (M : List (ByteArray × Nat)) : Prop where
  lt : kO < w2.heap.size
  kp : Kp (fun i => i = kO) w2 wr
  obj : wr.heap[kO]? = some (.cells #[v1, v2, v3, .int .u32 0, .int .u32 0, v4] 28 (0, 0))
  r1 : wr.ownsRow w2.heap.size 43 2 v1 L.length (cv L)
  r2 : wr.ownsRow w2.heap.size 25 1 v2 J.length (dv J)
  r3 : wr.ownsRow w2.heap.size 5 1 v3 ds.length (bv ds)
  r4 : wr.ownsRow w2.heap.size 64 2 v4 M.length (nmv M)
/-- what an append with a store behind it leaves alone -/
theorem app_kp {w2 wr w' : World} {kO i : Nat} {v v' : Value} (hk : Kp (fun i => i = kO) w2 wr) (hlt : kO < w2.heap.size) (k12 : Kp (fun k => v.ownBlock = some k) wr w') (hv : ∀ k, v.ownBlock = some k → w2.heap.size ≤ k) :
    Kp (fun i => i = kO) w2 (w'.setCell ⟨kO, i, none⟩ v') ∧ Kp (fun k => v.ownBlock = some k ∨ k = kO) wr (w'.setCell ⟨kO, i, none⟩ v') ∧ w'.heap[kO]? = wr.heap[kO]? := by
  have k3 := Kp.setCell (S := fun k => k = kO) w' ⟨kO, i, none⟩ v' rfl
  refine ⟨(hk.trans k12 (fun i hi q => ?_)).trans k3 (fun _ _ q => q), (k12.mono (fun _ _ q => .inl q)).trans k3 (fun _ _ q => .inr q), k12.block kO (Nat.lt_of_lt_of_le hlt hk.size) (fun q => ?_)⟩
  · have := hv i q
    omega
  · have := hv kO q
    omega
theorem own_set {w2 w' : World} {kO i e sz n : Nat} {v u : Value} {xs : List Value} (h : w'.ownsRow w2.heap.size e sz v n xs) (hlt : kO < w2.heap.size) : (w'.setCell ⟨kO, i, none⟩ u).ownsRow w2.heap.size e sz v n xs :=
  (Kp.setCell (S := fun k => k = kO) w' ⟨kO, i, none⟩ u rfl).own h (fun k q e => by have := (h.lt k q).1; omega)
theorem CpI.app1 {w2 wr w' : World} {kO : Nat} {v1 v2 v3 v4 v' : Value} {L : List (Nat × Nat)} {J : List Nat} {ds : List Int} {M : List (ByteArray × Nat)} {p : Nat × Nat} (h : CpI w2 wr kO v1 v2 v3 v4 L J ds M) (hg : Kp (fun k => v1.ownBlock = some k) wr w') (ho : w'.ownsRow w2.heap.size 43 2 v' (L.length + 1) (cv (L ++ [p]))) :
    CpI w2 (w'.setCell ⟨kO, 0, none⟩ v') kO v' v2 v3 v4 (L ++ [p]) J ds M := by
  obtain ⟨q1, q2, q3⟩ := app_kp (i := 0) (v' := v') h.kp h.lt hg (fun k e => (h.r1.lt k e).1)
  refine ⟨h.lt, q1, ?_, by rw [List.length_append]; exact own_set ho h.lt, q2.own h.r2 (fun k e q => ?_), q2.own h.r3 (fun k e q => ?_), q2.own h.r4 (fun k e q => ?_)⟩
  · rw [heap_setCell_same w' kO 0 _ _ _ (q3.trans h.obj)]; rfl
  all_goals
    rcases q with q | q
    · first | exact own_apart h.r1 h.r2 (by decide) k q e | exact own_apart h.r1 h.r3 (by decide) k q e | exact own_apart h.r1 h.r4 (by decide) k q e
    · have := h.lt
      first | (have := (h.r2.lt k e).1; omega) | (have := (h.r3.lt k e).1; omega) | (have := (h.r4.lt k e).1; omega)
theorem CpI.app2 {w2 wr w' : World} {kO : Nat} {v1 v2 v3 v4 v' : Value} {L : List (Nat × Nat)} {J : List Nat} {ds : List Int} {M : List (ByteArray × Nat)} {p : Nat} (h : CpI w2 wr kO v1 v2 v3 v4 L J ds M) (hg : Kp (fun k => v2.ownBlock = some k) wr w') (ho : w'.ownsRow w2.heap.size 25 1 v' (J.length + 1) (dv (J ++ [p]))) :
    CpI w2 (w'.setCell ⟨kO, 1, none⟩ v') kO v1 v' v3 v4 L (J ++ [p]) ds M := by
  obtain ⟨q1, q2, q3⟩ := app_kp (i := 1) (v' := v') h.kp h.lt hg (fun k e => (h.r2.lt k e).1)
  refine ⟨h.lt, q1, ?_, q2.own h.r1 (fun k e q => ?_), by rw [List.length_append]; exact own_set ho h.lt, q2.own h.r3 (fun k e q => ?_), q2.own h.r4 (fun k e q => ?_)⟩
  · rw [heap_setCell_same w' kO 1 _ _ _ (q3.trans h.obj)]; rfl
  all_goals
    rcases q with q | q
    · first | exact own_apart h.r2 h.r1 (by decide) k q e | exact own_apart h.r2 h.r3 (by decide) k q e | exact own_apart h.r2 h.r4 (by decide) k q e
    · have := h.lt
      first | (have := (h.r1.lt k e).1; omega) | (have := (h.r3.lt k e).1; omega) | (have := (h.r4.lt k e).1; omega)
theorem CpI.app3 {w2 wr w' : World} {kO : Nat} {v1 v2 v3 v4 v' : Value} {L : List (Nat × Nat)} {J : List Nat} {ds : List Int} {M : List (ByteArray × Nat)} {p : Int} (h : CpI w2 wr kO v1 v2 v3 v4 L J ds M) (hg : Kp (fun k => v3.ownBlock = some k) wr w') (ho : w'.ownsRow w2.heap.size 5 1 v' (ds.length + 1) (bv (ds ++ [p]))) :
    CpI w2 (w'.setCell ⟨kO, 2, none⟩ v') kO v1 v2 v' v4 L J (ds ++ [p]) M := by
  obtain ⟨q1, q2, q3⟩ := app_kp (i := 2) (v' := v') h.kp h.lt hg (fun k e => (h.r3.lt k e).1)
  refine ⟨h.lt, q1, ?_, q2.own h.r1 (fun k e q => ?_), q2.own h.r2 (fun k e q => ?_), by rw [List.length_append]; exact own_set ho h.lt, q2.own h.r4 (fun k e q => ?_)⟩
  · rw [heap_setCell_same w' kO 2 _ _ _ (q3.trans h.obj)]; rfl
  all_goals
    rcases q with q | q
    · first | exact own_apart h.r3 h.r1 (by decide) k q e | exact own_apart h.r3 h.r2 (by decide) k q e | exact own_apart h.r3 h.r4 (by decide) k q e
    · have := h.lt
      first | (have := (h.r1.lt k e).1; omega) | (have := (h.r2.lt k e).1; omega) | (have := (h.r4.lt k e).1; omega)
theorem CpI.app4 {w2 wr w' : World} {kO : Nat} {v1 v2 v3 v4 v' : Value} {L : List (Nat × Nat)} {J : List Nat} {ds : List Int} {M : List (ByteArray × Nat)} {p : ByteArray × Nat} (h : CpI w2 wr kO v1 v2 v3 v4 L J ds M) (hg : Kp (fun k => v4.ownBlock = some k) wr w') (ho : w'.ownsRow w2.heap.size 64 2 v' (M.length + 1) (nmv (M ++ [p]))) :
    CpI w2 (w'.setCell ⟨kO, 5, none⟩ v') kO v1 v2 v3 v' L J ds (M ++ [p]) := by
  obtain ⟨q1, q2, q3⟩ := app_kp (i := 5) (v' := v') h.kp h.lt hg (fun k e => (h.r4.lt k e).1)
  refine ⟨h.lt, q1, ?_, q2.own h.r1 (fun k e q => ?_), q2.own h.r2 (fun k e q => ?_), q2.own h.r3 (fun k e q => ?_), by rw [List.length_append]; exact own_set ho h.lt⟩
  · rw [heap_setCell_same w' kO 5 _ _ _ (q3.trans h.obj)]; rfl
  all_goals
    rcases q with q | q
    · first | exact own_apart h.r4 h.r1 (by decide) k q e | exact own_apart h.r4 h.r2 (by decide) k q e | exact own_apart h.r4 h.r3 (by decide) k q e
    · have := h.lt
      first | (have := (h.r1.lt k e).1; omega) | (have := (h.r2.lt k e).1; omega) | (have := (h.r3.lt k e).1; omega)
end Go.Proofs.YtgbpfejodpplbaaGreatDoor
namespace Go.Proofs.YtgbpfejodpplbaaGreatDoor
open Go.RowKit Go.WideShapes
set_option maxRecDepth 100000
set_option linter.unusedSimpArgs false

theorem infoYI : (Tryz.prog.info? 43).map (fun i => (i.zero, i.size, i.bytes)) = some (some (.agg #[.int .u8 0, .int .u32 0]), 2, 8) := by kernel_rfl
theorem appC_wp {w : World} {o : Oper} {a : Act} {K : Act → World → Prop} {Q : Exit → Act → World → Prop} (s x : Operand) (ho : o.op = .call { callee := .builtin .append, args := #[s, x], argTypes := #[22, 22] })
    (base g : Nat) (lv : Value) (pt : List (Nat × Nat)) (op arg : Nat) (hs : a.eval s = lv) (hx : a.eval x = .slice (some ⟨g, 0, none⟩) 1 1) (hown : w.ownsRow base 43 2 lv pt.length (cv pt)) (hobj : w.heap[g]? = some (Obj.cells #[.int .u8 (op : Int), .int .u32 (arg : Int)] 43)) (hm : pt.length ≤ 17592186044351) (hbase : base ≤ w.heap.size)
    (h : ∀ v' w', w'.ownsRow base 43 2 v' (pt.length + 1) (cv (pt ++ [(op, arg)])) → w.grownBy w' lv.ownBlock → K (a.put o.dst v') w') : Oper.wp Tryz.prog o a w K Q := by
  obtain ⟨i0, hi, hz0, hz1, hz2⟩ := info_parts infoYI
  refine wp_append_own w s x _ ho base 43 i0 (.agg #[.int .u8 0, .int .u32 0]) 2 8 Tryz.underlying22 hi hz0 hz1 hz2 rfl (by decide) lv pt.length (cv pt) hs hown ⟨g, 0, none⟩ 1 1 [.int .u8 (op : Int), .int .u32 (arg : Int)] hx rfl ?_ ?_ (by unfold maxLen; omega) (by omega) hbase ?_
  · intro j u hj
    rw [add_plain]
    have hl : j < 2 := by simpa using (List.getElem?_eq_some_iff.1 hj).1
    match j, hl, hj with
    | 0, _, hj => rw [obj_cell hobj]; exact hj
    | 1, _, hj => rw [obj_cell hobj]; exact hj
  · intro u hu
    simp at hu
    rcases hu with rfl | rfl <;> rfl
  · intro v' w' h1 h2 _
    exact h v' w' (by rw [cv_append]; exact h1) h2
theorem kpD {S : Nat → Prop} {a b : World} (h : Kp S a b) : Kp S a b.drew := ⟨h.os, h.tape, h.output, h.size, h.block⟩
theorem kpA {S : Nat → Prop} {a b : World} {o : Obj} (h : Kp S a b) : Kp S a (b.alloc o) := h.trans (Kp.alloc (S := fun _ => False) b o) (fun _ _ q => q.elim)
abbrev zImC : Array Value := #[.slice none 0 0, .slice none 0 0, .slice none 0 0, .int .u32 0, .int .u32 0, .slice none 0 0]
end Go.Proofs.YtgbpfejodpplbaaGreatDoor
