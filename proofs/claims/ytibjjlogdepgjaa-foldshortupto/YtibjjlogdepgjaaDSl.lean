import Derived.Test.YtibjjlogdepgjaaDSh
namespace Go.Proofs.Ytibjjlogdepgjaa
open Go.RowKit Go.WideShapes
set_option maxRecDepth 100000

theorem wfc_app {A B : List (Nat × Nat)} (h : Wfc A) (k : Wfc B) : Wfc (A ++ B) := fun p hp => (List.mem_append.1 hp).elim (h p) (k p)
theorem grown_below3 {B e sz : Nat} {a w w' : World} {xs : List Value} {v : Value} {n : Nat} (h : Below B a w) (hB : B ≤ w.heap.size) (hown : w.ownsRow B e sz v n xs) (hg : w.grownBy w' v.ownBlock) : Below B a w' :=
  h.trans (Kp.below (S := fun k => B ≤ k) (Kp.ofGrown hg (fun i hi _ => by
    rcases hown.2 with ⟨rfl, _⟩ | ⟨g, cap, cur, rfl, hh, _⟩
    · cases hi
    · cases hi; exact hh)) hB (fun i e => e))
set_option maxHeartbeats 4000000 in
theorem short_any (xo yo zo : Option Addr) (cx cy cz : Nat) (X Y Z : List (Nat × Nat)) (w : World) (hX : X.length ≤ 1048576) (hY : Y.length ≤ 1048576) (hZ : Z.length ≤ 1048576)
    (nx : xo = none → cx = 0) (ny : yo = none → cy = 0) (nz : zo = none → cz = 0) (hcy : Y.length ≤ cy)
    (wx : Wfc X) (wy : Wfc Y) (wz : Wfc Z) (rx : CRd w xo X w.heap.size) (ry : CRd w yo Y w.heap.size) (rz : CRd w zo Z w.heap.size) :
    Calls Try.prog 4 #[.slice xo X.length cx, .slice yo Y.length cy, .slice zo Z.length cz] w fun e w' => e = .returned (.bool true) ∧ Below w.heap.size w w' := by
  have HA := dhid (fun w' => fawake_any w')
  by_cases h0 : Y.length = 0
  · have d0 : ((Y.length : Int) == 0) = true := by rw [h0]; rfl
    have d0' : (Y.length : Int) = 0 := by omega
    go_enter Try.func4, Try.ntmps4
    go_wp2_with (go_at_call 5; refine (HA.out _).mono ?_; rintro x w1 ⟨rfl, hb1⟩)
    go_ret
    exact ⟨rfl, hb1⟩
  · have d0 : ((Y.length : Int) == 0) = false := by rw [beq_eq_false_iff_ne]; omega
    have d0' : ¬ (Y.length : Int) = 0 := by omega
    have HX := dhid rx
    have HY := dhid ry
    have HZ := dhid rz
    clear rx ry rz
    go_enter Try.func4, Try.ntmps4
    go_wp2_with fail
    with_reducible refine (HA.out _).mono ?_
    rintro x w1 ⟨rfl, R1⟩
    have z1 := R1.size
    have n0 := World.ownsRow_nil w1 w.heap.size 26 2
    clear HA
    go_wp2_with (first
      | (at_builtin; refine append_crd rfl _ _ rfl w.heap.size _ A rfl own3.out zo cz Z rfl nz ((HZ.out.below R3.out).mono R3.out.size) (by have := lA.out; omega) R3.out.size ?_
         intro v4 w4 own4 hg4
         obtain ⟨M, hM⟩ : ∃ M, M = A ++ Z := ⟨_, rfl⟩
         rw [← hM] at own4
         have lM := dhid (show M.length = X.length + Y.length + Z.length by rw [hM, List.length_append, lA.out])
         replace hM := dhid hM
         have R4 := dhid (grown_below3 R3.out R3.out.size own3.out hg4)
         have z4 := R4.out.size
         obtain ⟨a4, c4, rfl, hc4, rd4⟩ := own_crdD own4
         replace own4 := trivial
         replace hg4 := trivial
         replace rd4 := dhid rd4)
      | (at_builtin; refine append_crd rfl _ _ rfl w.heap.size _ X rfl own2.out yo cy Y rfl ny ((HY.out.below R2.out).mono R2.out.size) (by omega) R2.out.size ?_
         intro v3 w3 own3 hg3
         obtain ⟨A, hA⟩ : ∃ A, A = X ++ Y := ⟨_, rfl⟩
         rw [← hA] at own3
         have lA := dhid (show A.length = X.length + Y.length by rw [hA, List.length_append])
         replace hA := dhid hA
         have R3 := dhid (grown_below3 R2.out R2.out.size own2.out hg3)
         obtain ⟨a3, c3, rfl, -, -⟩ := own_crdD own3
         replace own3 := dhid own3
         replace hg3 := trivial)
      | (at_builtin; refine append_crd rfl _ _ rfl w.heap.size _ [] rfl n0 xo cx X rfl nx ((HX.out.below R1).mono z1) (by simp; omega) z1 ?_
         intro v2 w2 own2 hg2
         rw [List.nil_append] at own2
         have R2 := dhid (grown_below3 R1 z1 n0 hg2)
         obtain ⟨a2, c2, rfl, -, -⟩ := own_crdD own2
         replace own2 := dhid own2
         replace hg2 := trivial))
    have hm1 : lnE M X.length (X.length + Y.length) = lnE Y 0 Y.length := by rw [hM.out, hA.out]; exact lnE_mid X Y Z (by omega)
    have F1 := Longest_any yo cy 0 Y.length Y w4 (by omega) hcy (by decide) (by omega) wy ((HY.out.below R4.out).mono R4.out.size)
    have F2 := dhid (fun w' (hb : Below w.heap.size w w') (hc : CRd w' a4 M w'.heap.size) => Longest_any a4 c4 X.length (X.length + Y.length) M w' (by have := lM.out; omega) hc4 (by omega) (by omega) (by rw [hM.out, hA.out]; exact wfc_app (wfc_app wx wy) wz) hc)
    rw [hm1] at F2
    have hsum : ((X.length : Int) + (Y.length : Int)) % 4294967296 = ((X.length + Y.length : Nat) : Int) := by omega
    clear HX HY HZ own2 own3 n0 R1 z1 R2 R3 wx wy wz nx ny nz
    by_cases hE : lnE Y 0 Y.length = 0
    · have hP : lnP M X.length (X.length + Y.length) = (X.length, (lnP Y 0 Y.length).2) := by rw [hM.out, hA.out]; exact lnP_mid X Y Z (by omega) hE
      rw [hP] at F2
      rw [hE] at F1 F2
      clear hP hm1 hE
      generalize lnP Y 0 Y.length = q at F1 F2
      obtain ⟨pa, pl, pk, pv⟩ := q
      simp only [pcA] at F1 F2
      refine F1.mono ?_
      rintro x w5 ⟨rfl, hb5⟩
      have R5 := dhid (R4.out.trans (hb5.mono z4))
      have rd5 := dhid ((rd4.out.below hb5).mono hb5.size)
      have z5 := R5.out.size
      clear F1
      have HF := dhid (fun o => F2.out (w5.alloc o) (R5.out.alloc z5 o) ((rd5.out.below ((Below.refl _ _).alloc (Nat.le_refl _) o)).mono (by simp)))
      clear F2
      go_wp2_with fail
      refine (HF.out _).mono ?_
      rintro x w6 ⟨rfl, hb6⟩
      have p6 := (hb6.block w5.heap.size (by simp)).trans (heap_alloc_new w5 _)
      have e0 := obj_cell p6 0
      have e1 := obj_cell p6 1
      have e2 := obj_cell p6 2
      have e3 := obj_cell p6 3
      simp only [List.getElem?_toArray, List.getElem?_cons_zero, List.getElem?_cons_succ] at e0 e1 e2 e3
      have hl6 : w5.heap.size < w6.heap.size := (Array.getElem?_eq_some_iff.1 p6).1
      have R6 := dhid ((R5.out.alloc z5 _).trans (hb6.mono (by simp; omega)))
      have z6 := R6.out.size
      clear HF p6 hb6
      have R7 := dhid (fun o => R6.out.alloc z6 o)
      go_wp2_with fail
      go_ret
      exact ⟨rfl, R7.out _⟩
    · have hB1 := lnP_bad Y 0 Y.length hE
      have hB2 := lnP_bad M X.length (X.length + Y.length) (by rw [hm1]; exact hE)
      rw [hB1] at F1
      rw [hB2] at F2
      simp only [pcA] at F1 F2
      have dE : ((lnE Y 0 Y.length : Int) != 0) = true := by simp; omega
      have dE' : ¬ (lnE Y 0 Y.length : Int) = 0 := by omega
      clear hB1 hB2 hm1
      generalize lnE Y 0 Y.length = er at *
      refine F1.mono ?_
      rintro x w5 ⟨rfl, hb5⟩
      have R5 := dhid (R4.out.trans (hb5.mono z4))
      have rd5 := dhid ((rd4.out.below hb5).mono hb5.size)
      have z5 := R5.out.size
      clear F1
      have HF := dhid (fun o => F2.out (w5.alloc o) (R5.out.alloc z5 o) ((rd5.out.below ((Below.refl _ _).alloc (Nat.le_refl _) o)).mono (by simp)))
      clear F2
      go_wp2_with fail
      refine (HF.out _).mono ?_
      rintro x w6 ⟨rfl, hb6⟩
      have p6 := (hb6.block w5.heap.size (by simp)).trans (heap_alloc_new w5 _)
      have e0 := obj_cell p6 0
      have e1 := obj_cell p6 1
      have e2 := obj_cell p6 2
      have e3 := obj_cell p6 3
      simp only [List.getElem?_toArray, List.getElem?_cons_zero, List.getElem?_cons_succ] at e0 e1 e2 e3
      have hl6 : w5.heap.size < w6.heap.size := (Array.getElem?_eq_some_iff.1 p6).1
      have R6 := dhid ((R5.out.alloc z5 _).trans (hb6.mono (by simp; omega)))
      have z6 := R6.out.size
      clear HF p6 hb6
      have R7 := dhid (fun o => R6.out.alloc z6 o)
      go_wp2_with fail
      go_ret
      exact ⟨rfl, R7.out _⟩
end Go.Proofs.Ytibjjlogdepgjaa
