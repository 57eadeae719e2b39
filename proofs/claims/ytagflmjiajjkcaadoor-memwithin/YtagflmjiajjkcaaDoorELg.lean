import Derived.Test.YtagflmjiajjkcaaDoorELm
namespace Go.Proofs.YtagflmjiajjkcaaDoor
open Go.RowKit Go.WideShapes
set_option maxRecDepth 100000

set_option maxHeartbeats 1000000 in
theorem touched_any (a g cap : Nat) (bs : List Int) (lg : Bool) (tv : Value) (ts : List (Int × Bool)) (w : World) (h : MemS w a g cap bs lg tv ts) :
    Calls Tryd.prog 15 #[.pointer (some ⟨a, 0, none⟩)] w fun e w' => e = .returned tv ∧ MemS w' a g cap bs lg (.slice none 0 0) [] ∧ w'.ownsRow 0 34 2 tv ts.length (tvv ts) ∧ Kp (fun k => k = a) w w' := by
  have hM := made_yes a w ((obj_cell h.obj 0).trans rfl)
  have c3 : w.cell? ⟨a, 3, none⟩ = some tv := (obj_cell h.obj 3).trans rfl
  have f3 : w.frozen? ⟨a, 3, none⟩ = false := obj_frozen h.obj 3
  have HH := hidS h
  clear h
  go_enter Tryd.func15, Tryd.ntmps15
  go_wp2_with (first
    | (go_at_call 30; with_reducible refine hM.mono ?_; rintro e wq ⟨rfl, hq⟩; subst wq)
    | fail)
  go_ret
  have hk : Kp (fun k => k = a) w (w.setCell ⟨a, 3, none⟩ (.slice none 0 0)) := Kp.setCell (S := fun k => k = a) _ _ _ rfl
  refine ⟨rfl, HH.out.of_obj (ts' := []) hk (fun e => HH.out.ne e.symm) (set_obj3 HH.out.obj) (World.ownsRow_nil _ _ _ _) (by simp [Value.ownBlock]) (by simp [Value.ownBlock]) (by simp), hk.own HH.out.log (fun k e h => HH.out.na (h ▸ e)), hk⟩
set_option maxHeartbeats 1000000 in
theorem log_any (a g cap : Nat) (bs : List Int) (lg on : Bool) (tv : Value) (ts : List (Int × Bool)) (w : World) (h : MemS w a g cap bs lg tv ts) :
    Calls Tryd.prog 12 #[.pointer (some ⟨a, 0, none⟩), .bool on] w fun e w' => e = .returned (.tuple #[]) ∧ MemS w' a g cap bs on (.slice none 0 0) [] ∧ Kp (fun k => k = a) w w' := by
  have hM := made_yes a w ((obj_cell h.obj 0).trans rfl)
  have f3 : w.frozen? ⟨a, 3, none⟩ = false := obj_frozen h.obj 3
  have f2 : w.frozen? ⟨a, 2, none⟩ = false := obj_frozen h.obj 2
  have c3 : w.cell? ⟨a, 3, none⟩ = some tv := (obj_cell h.obj 3).trans rfl
  have c2 : w.cell? ⟨a, 2, none⟩ = some (.bool lg) := (obj_cell h.obj 2).trans rfl
  have HH := hidS h
  clear h
  go_enter Tryd.func12, Tryd.ntmps12
  go_wp2_with (first
    | (go_at_call 30; with_reducible refine hM.mono ?_; rintro e wq ⟨rfl, hq⟩; subst wq)
    | fail)
  go_end0
  have hk : Kp (fun k => k = a) w ((w.setCell ⟨a, 2, none⟩ (.bool on)).setCell ⟨a, 3, none⟩ (.slice none 0 0)) := (Kp.setCell (S := fun k => k = a) _ _ _ rfl).trans (Kp.setCell (S := fun k => k = a) _ _ _ rfl) (fun _ _ h => h)
  exact ⟨rfl, HH.out.of_obj (ts' := []) hk (fun e => HH.out.ne e.symm) (set_obj3 (set_obj2 HH.out.obj)) (World.ownsRow_nil _ _ _ _) (by simp [Value.ownBlock]) (by simp [Value.ownBlock]) (by simp), hk⟩
end Go.Proofs.YtagflmjiajjkcaaDoor
