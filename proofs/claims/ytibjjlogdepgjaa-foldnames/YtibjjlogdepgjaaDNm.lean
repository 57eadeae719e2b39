import Derived.Test.YtibjjlogdepgjaaDNc
namespace Go.Proofs.Ytibjjlogdepgjaa
open Go.RowKit Go.WideShapes
set_option maxRecDepth 100000

set_option maxHeartbeats 8000000 in
theorem names_any (w : World) : Calls Try.prog 3 #[] w fun x w' => x = .returned (.bool true) ∧ Below w.heap.size w w' := by
  have HA := dhid (fun w' => fawake_any w')
  go_enter Try.func3, Try.ntmps3
  go_wp2_with fail
  with_reducible refine (HA.out _).mono ?_
  rintro x w1 ⟨rfl, R1⟩
  have z1 := R1.size
  clear HA
  have N0 := dhid (fun o => nmc0 w1.heap.size (w1.alloc o))
  go_wp2_with fail
  refine (N0.out _ (heap_alloc_new w1 _)).mono ?_
  rintro x v0 ⟨rfl, hb0⟩
  have o0 := dhid ((hb0.block w1.heap.size (by simp)).trans (heap_alloc_new w1 _))
  have hl0 : w1.heap.size < v0.heap.size := (Array.getElem?_eq_some_iff.1 o0.out).1
  have Q0 := dhid ((R1.alloc z1 _).trans (hb0.mono (by simp; omega)))
  clear N0 hb0
  have N1 := dhid (nmc1 w1.heap.size v0 o0.out)
  go_wp2_with fail
  refine N1.out.mono ?_
  rintro x v1 ⟨rfl, hb1⟩
  have o1 := dhid ((hb1.block w1.heap.size hl0).trans o0.out)
  have hl1 : w1.heap.size < v1.heap.size := (Array.getElem?_eq_some_iff.1 o1.out).1
  have Q1 := dhid (Q0.out.trans (hb1.mono (by omega)))
  clear N1 hb1 o0 Q0
  have N2 := dhid (nmc2 w1.heap.size v1 o1.out)
  go_wp2_with fail
  refine N2.out.mono ?_
  rintro x v2 ⟨rfl, hb2⟩
  have o2 := dhid ((hb2.block w1.heap.size hl1).trans o1.out)
  have hl2 : w1.heap.size < v2.heap.size := (Array.getElem?_eq_some_iff.1 o2.out).1
  have Q2 := dhid (Q1.out.trans (hb2.mono (by omega)))
  clear N2 hb2 o1 Q1
  have N3 := dhid (nmc3 w1.heap.size v2 o2.out)
  go_wp2_with fail
  refine N3.out.mono ?_
  rintro x v3 ⟨rfl, hb3⟩
  have o3 := dhid ((hb3.block w1.heap.size hl2).trans o2.out)
  have hl3 : w1.heap.size < v3.heap.size := (Array.getElem?_eq_some_iff.1 o3.out).1
  have Q3 := dhid (Q2.out.trans (hb3.mono (by omega)))
  clear N3 hb3 o2 Q2
  have N4 := dhid (nmc4 w1.heap.size v3 o3.out)
  go_wp2_with fail
  refine N4.out.mono ?_
  rintro x v4 ⟨rfl, hb4⟩
  have o4 := dhid ((hb4.block w1.heap.size hl3).trans o3.out)
  have hl4 : w1.heap.size < v4.heap.size := (Array.getElem?_eq_some_iff.1 o4.out).1
  have Q4 := dhid (Q3.out.trans (hb4.mono (by omega)))
  clear N4 hb4 o3 Q3
  have N5 := dhid (nmc5 w1.heap.size v4 o4.out)
  go_wp2_with fail
  refine N5.out.mono ?_
  rintro x v5 ⟨rfl, hb5⟩
  have o5 := dhid ((hb5.block w1.heap.size hl4).trans o4.out)
  have hl5 : w1.heap.size < v5.heap.size := (Array.getElem?_eq_some_iff.1 o5.out).1
  have Q5 := dhid (Q4.out.trans (hb5.mono (by omega)))
  clear N5 hb5 o4 Q4
  have N6 := dhid (nmc6 w1.heap.size v5 o5.out)
  go_wp2_with fail
  refine N6.out.mono ?_
  rintro x v6 ⟨rfl, hb6⟩
  have o6 := dhid ((hb6.block w1.heap.size hl5).trans o5.out)
  have hl6 : w1.heap.size < v6.heap.size := (Array.getElem?_eq_some_iff.1 o6.out).1
  have Q6 := dhid (Q5.out.trans (hb6.mono (by omega)))
  clear N6 hb6 o5 Q5
  have N7 := dhid (nmc7 w1.heap.size v6 o6.out)
  go_wp2_with fail
  refine N7.out.mono ?_
  rintro x v7 ⟨rfl, hb7⟩
  have o7 := dhid ((hb7.block w1.heap.size hl6).trans o6.out)
  have hl7 : w1.heap.size < v7.heap.size := (Array.getElem?_eq_some_iff.1 o7.out).1
  have Q7 := dhid (Q6.out.trans (hb7.mono (by omega)))
  clear N7 hb7 o6 Q6
  have hc := obj_cell o7.out 18
  simp only [List.getElem?_toArray, List.getElem?_cons_zero, List.getElem?_cons_succ] at hc
  have hf := obj_frozen o7.out 18
  have o8 := dhid (heap_setCell_same v7 w1.heap.size 18 _ _ (.int .u8 14) o7.out)
  have N8 := dhid (nmc8 w1.heap.size (v7.setCell ⟨w1.heap.size, 18, none⟩ (.int .u8 14)) o8.out)
  have Q7' := dhid (Q7.out.setCell (p := ⟨w1.heap.size, 18, none⟩) z1 (.int .u8 14))
  go_wp2_with fail
  refine N8.out.mono ?_
  rintro x v8 ⟨rfl, hb8⟩
  have o9 := dhid ((hb8.block w1.heap.size (by simp [World.setCell]; omega)).trans o8.out)
  have hl8 : w1.heap.size < v8.heap.size := (Array.getElem?_eq_some_iff.1 o9.out).1
  have Q8 := dhid (Q7'.out.trans (hb8.mono (by simp [World.setCell]; omega)))
  clear N8 hb8 o8 o7 hc hf Q7 Q7'
  have N9 := dhid (nmc9 w1.heap.size v8 o9.out)
  go_wp2_with fail
  refine N9.out.mono ?_
  rintro x v9 ⟨rfl, hb9⟩
  have o10 := dhid ((hb9.block w1.heap.size hl8).trans o9.out)
  have hl9 : w1.heap.size < v9.heap.size := (Array.getElem?_eq_some_iff.1 o10.out).1
  have Q9 := dhid (Q8.out.trans (hb9.mono (by omega)))
  clear N9 hb9 o9 Q8
  have N10 := dhid (fun o => nmc10 w1.heap.size (v9.alloc o) ((Below.heap_alloc v9 o _ hl9).trans o10.out))
  go_wp2_with fail
  refine (N10.out _).mono ?_
  rintro x v10 ⟨rfl, hb10⟩
  have hz10 := hb10.size
  simp at hz10
  have Q10 := dhid ((Q9.out.alloc (by omega) _).trans (hb10.mono (by simp; omega)))
  clear N10 hb10 o10 Q9
  have P1 := dhid (fun o => pieces_no (.pointer none) (v10.alloc o) (.inl rfl))
  go_wp2_with fail
  refine (P1.out _).mono ?_
  rintro x v11 ⟨rfl, rfl⟩
  clear P1
  have P2 := dhid (fun o => pieces_no (.pointer (some ⟨v10.heap.size + 1, 0, none⟩)) o)
  have Q11 := dhid (fun o1 o2 => (Q10.out.alloc (by omega) o1).alloc (by simp; omega) o2)
  go_wp2_with fail
  refine (P2.out _ ?_).mono ?_
  · exact .inr ⟨v10.heap.size + 1, by simp, rfl, obj_cell (al2b v10 _ _) 0⟩
  rintro x v12 ⟨rfl, rfl⟩
  clear P2
  go_wp2_with fail
  go_ret
  exact ⟨rfl, Q11.out _ _⟩
end Go.Proofs.Ytibjjlogdepgjaa
