import Derived.Test.YtnalnlbainghoaaGreatDoorVTk
import Derived.Test.YtnalnlbainghoaaGreatDoorCPWt
namespace Go.Proofs.YtnalnlbainghoaaGreatDoor
open Go.RowKit Go.WideShapes Go.Shelf
set_option maxRecDepth 100000

theorem meq_self (a : Nat) (w : World) : (binOp .eql 22 (.pointer (some ⟨a, 0, none⟩)) (.pointer (some ⟨a, 0, none⟩))).run Tryz.prog w = .ok (.bool true) w := by
  have h : (Tryz.prog.info? 58).map (·.size) = some 11 := by kernel_rfl
  cases hi : Tryz.prog.info? 58 with
  | none => rw [hi] at h; cases h
  | some i => exact run_eql_ptr_same w ⟨a, 0, none⟩ Tryz.underlying22 hi
theorem mmade_any (a : Nat) (w : World) (hc : w.cell? ⟨a, 0, none⟩ = some (.pointer (some ⟨a, 0, none⟩))) :
    Calls Tryz.prog 21 #[.pointer (some ⟨a, 0, none⟩)] w fun e w' => e = .returned (.bool true) ∧ w' = w := by
  have hq := meq_self a w
  go_enter Tryz.func21, Tryz.ntmps21
  go_wp2
  go_ret
  exact ⟨rfl, rfl⟩
/-- the module's cells -/
theorem mcells {w : World} {B pm : Nat} {L : List (Nat × Nat)} {J : List Nat} {ds : List Int} {z st : Nat} {M : List (ByteArray × Nat)} {D N : List Int} (h : Mod w B pm L J ds z st M D N) : w.cell? ⟨pm, 0, none⟩ = some (.pointer (some ⟨pm, 0, none⟩)) := by
  obtain ⟨_, _, a1, c1, a2, c2, a3, c3, a4, c4, Bp, pp, p1, g1, p2, g2, lv, lw, A, C, gd, cp, _, _, h4⟩ := h
  exact (obj_cell h4.obj 0).trans rfl
theorem mlen {w : World} {B pm : Nat} {L : List (Nat × Nat)} {J : List Nat} {ds : List Int} {z st : Nat} {M : List (ByteArray × Nat)} {D N : List Int} (h : Mod w B pm L J ds z st M D N) : L.length ≤ 16384 := encX_len h.2.1.fd.enc
set_option maxHeartbeats 1000000 in
theorem mcount_any {w : World} {B pm : Nat} {L : List (Nat × Nat)} {J : List Nat} {ds : List Int} {z st : Nat} {M : List (ByteArray × Nat)} {D N : List Int} (h : Mod w B pm L J ds z st M D N) :
    Calls Tryz.prog 20 #[.pointer (some ⟨pm, 0, none⟩)] w fun e w' => e = .returned (.int .i64 L.length) ∧ w' = w := by
  have hM := mmade_any pm w (mcells h)
  obtain ⟨_, _, a1, c1, a2, c2, a3, c3, a4, c4, Bp, pp, p1, g1, p2, g2, lv, lw, A, C, gd, cp, _, _, h4⟩ := h
  have q1 : w.cell? ⟨pm, 1, none⟩ = some (.slice a1 L.length c1) := (obj_cell h4.obj 1).trans rfl
  clear h4
  go_enter Tryz.func20, Tryz.ntmps20
  go_wp2_with (go_at_call 21; refine hM.mono ?_; rintro e w2 ⟨rfl, hw2⟩; have hw2 := hw2.symm; subst hw2)
  go_ret
  exact ⟨rfl, rfl⟩
set_option maxHeartbeats 2000000 in
theorem depth_any {w : World} {pm gd cp : Nat} {D : List Int} (x : Nat) (_hx : x < 4294967296) (hD : D.length ≤ 16384) (hc : w.cell? ⟨pm, 10, none⟩ = some (.slice (some ⟨gd, 0, none⟩) D.length cp)) (hr : ∀ i, i < D.length → w.cell? ⟨gd, i, none⟩ = some (.int .i64 (D.getD i (-1)))) :
    Calls Tryz.prog 26 #[.pointer (some ⟨pm, 10, none⟩), .int .u32 x] w fun e w' => e = .returned (.int .i64 (D.getD x (-1))) ∧ w' = w := by
  by_cases h : x < D.length
  · have hI : ¬ (D.length : Int) ≤ (x : Int) := by omega
    have hxI : (x : Int) < (D.length : Int) := by omega
    have c := hr x h
    generalize D.getD x (-1) = d at *
    clear hr
    go_enter Tryz.func26, Tryz.ntmps26
    go_wp2
    go_ret
    exact ⟨rfl, rfl⟩
  · have hI : (D.length : Int) ≤ (x : Int) := by omega
    have e : D.getD x (-1) = -1 := by rw [List.getD_eq_getElem?_getD, List.getElem?_eq_none (by omega)]; rfl
    rw [e]
    clear hr
    go_enter Tryz.func26, Tryz.ntmps26
    go_wp2
    go_ret
    exact ⟨rfl, rfl⟩
set_option maxHeartbeats 2000000 in
theorem mdepth_any {w : World} {B pm : Nat} {L : List (Nat × Nat)} {J : List Nat} {ds : List Int} {z st : Nat} {M : List (ByteArray × Nat)} {D N : List Int} (x : Nat) (hx : x < 4294967296) (h : Mod w B pm L J ds z st M D N) :
    Calls Tryz.prog 10 #[.pointer (some ⟨pm, 0, none⟩), .int .u32 x] w fun e w' => e = .returned (.int .i64 (D.getD x (-1))) ∧ w' = w := by
  have hM := mmade_any pm w (mcells h)
  have hl := mlen h
  obtain ⟨_, hK, a1, c1, a2, c2, a3, c3, a4, c4, Bp, pp, p1, g1, p2, g2, lv, lw, A, C, gd, cp, _, _, h4⟩ := h
  have q : w.cell? ⟨pm, 10, none⟩ = some (.slice (some ⟨gd, 0, none⟩) D.length cp) := (obj_cell h4.obj 10).trans rfl
  have hD := depth_any x hx (by rw [hK.dp.len]; exact hl) q (fun i hi => h4.dep.cell hi)
  clear h4 hK q
  go_enter Tryz.func10, Tryz.ntmps10
  go_wp2_with (first
    | (go_at_call 21; refine hM.mono ?_; rintro e w2 ⟨rfl, hw2⟩; have hw2 := hw2.symm; subst hw2)
    | (go_at_call 26; refine hD.mono ?_; rintro e w2 ⟨rfl, hw2⟩; have hw2 := hw2.symm; subst hw2))
  go_ret
  exact ⟨rfl, rfl⟩
set_option maxHeartbeats 2000000 in
theorem mbegins_any {w : World} {B pm : Nat} {L : List (Nat × Nat)} {J : List Nat} {ds : List Int} {z st : Nat} {M : List (ByteArray × Nat)} {D N : List Int} (x : Nat) (hx : x < 4294967296) (h : Mod w B pm L J ds z st M D N) :
    Calls Tryz.prog 12 #[.pointer (some ⟨pm, 0, none⟩), .int .u32 x] w fun e w' => e = .returned (.bool (isEn L x)) ∧ w' = w := by
  have hM := mmade_any pm w (mcells h)
  obtain ⟨_, hK, a1, c1, a2, c2, a3, c3, a4, c4, Bp, pp, p1, g1, p2, g2, lv, lw, A, C, gd, cp, hA, _, h4⟩ := h
  have q : w.cell? ⟨pm, 8, none⟩ = some (.pointer (some ⟨pp, 0, none⟩)) := (obj_cell h4.obj 8).trans rfl
  have hB := pbegins_any x w hx h4.prs
  rw [hA] at hB
  have hB2 : Calls Tryz.prog 29 #[.pointer (some ⟨pm, 8, none⟩), .int .u32 x] w fun e w' => e = .returned (.bool (isEn L x)) ∧ w' = w := by
    clear h4 hK hM hA
    go_enter Tryz.func29, Tryz.ntmps29
    go_wp2_with (go_at_call 52; refine hB.mono ?_; rintro e w2 ⟨rfl, hw2⟩; have hw2 := hw2.symm; subst hw2)
    go_ret
    exact ⟨rfl, rfl⟩
  clear h4 hK q hB hA
  go_enter Tryz.func12, Tryz.ntmps12
  go_wp2_with (first
    | (go_at_call 21; refine hM.mono ?_; rintro e w2 ⟨rfl, hw2⟩; have hw2 := hw2.symm; subst hw2)
    | (go_at_call 29; refine hB2.mono ?_; rintro e w2 ⟨rfl, hw2⟩; have hw2 := hw2.symm; subst hw2))
  go_ret
  exact ⟨rfl, rfl⟩
set_option maxHeartbeats 2000000 in
theorem mlegal_any {w : World} {B pm : Nat} {L : List (Nat × Nat)} {J : List Nat} {ds : List Int} {z st : Nat} {M : List (ByteArray × Nat)} {D N : List Int} (x y : Nat) (hy : y < 4294967296) (h : Mod w B pm L J ds z st M D N) :
    Calls Tryz.prog 34 #[.pointer (some ⟨pm, 0, none⟩), .int .u32 x, .int .u32 y] w fun e w' => e = .returned (.bool (decide (y ∈ J) && (ofL L x == ofL L y))) ∧ Below w.heap.size w w' := by
  have hM := mmade_any pm w (mcells h)
  have hl := mlen h
  obtain ⟨_, hK, a1, c1, a2, c2, a3, c3, a4, c4, Bp, pp, p1, g1, p2, g2, lv, lw, A, C, gd, cp, _, hC, h4⟩ := h
  have q : w.cell? ⟨pm, 8, none⟩ = some (.pointer (some ⟨pp, 0, none⟩)) := (obj_cell h4.obj 8).trans rfl
  have hB := plegal_any x y w hy hl hK.fd.fst h4.prs
  rw [hC] at hB
  generalize (decide (y ∈ J) && (ofL L x == ofL L y)) = r at hB ⊢
  have hB2 : Calls Tryz.prog 60 #[.pointer (some ⟨pm, 8, none⟩), .int .u32 x, .int .u32 y] w fun e w' => e = .returned (.bool r) ∧ Below w.heap.size w w' := by
    clear h4 hK hM hC
    go_enter Tryz.func60, Tryz.ntmps60
    go_wp2_with (go_at_call 91; refine hB.mono ?_; rintro e w2 ⟨rfl, hb2⟩)
    go_ret
    exact ⟨rfl, hb2⟩
  clear h4 hK q hB hC
  go_enter Tryz.func34, Tryz.ntmps34
  go_wp2_with (first
    | (go_at_call 21; refine hM.mono ?_; rintro e w2 ⟨rfl, hw2⟩; have hw2 := hw2.symm; subst hw2)
    | (go_at_call 60; refine hB2.mono ?_; rintro e w2 ⟨rfl, hb2⟩))
  go_ret
  exact ⟨rfl, hb2⟩
end Go.Proofs.YtnalnlbainghoaaGreatDoor
namespace Go.Proofs.YtnalnlbainghoaaGreatDoor
open Go.RowKit Go.WideShapes Go.Shelf
set_option maxRecDepth 100000
/-- the code in a module's memory -/
theorem mcode {w : World} {B pm : Nat} {L : List (Nat × Nat)} {J : List Nat} {ds : List Int} {z st : Nat} {M : List (ByteArray × Nat)} {D N : List Int} (h : Mod w B pm L J ds z st M D N) : ∃ g c, w.cell? ⟨pm, 1, none⟩ = some (.slice (some ⟨g, 0, none⟩) L.length c) ∧ ∀ k, k < L.length → w.cell? ⟨g, k * 2, none⟩ = some (.int .u8 (L.getD k (0, 0)).1) ∧ w.cell? ⟨g, k * 2 + 1, none⟩ = some (.int .u32 (L.getD k (0, 0)).2) := by
  obtain ⟨_, hK, a1, c1, a2, c2, a3, c3, a4, c4, Bp, pp, p1, g1, p2, g2, lv, lw, A, C, gd, cp, _, _, h4⟩ := h
  have hpos : 0 < L.length := by
    have := bgs_pos hK.fd.fst
    have := bgs_lt (L := L) (i := 0) this
    omega
  have hrow := h4.im.code hpos
  rcases hrow.2 with ⟨_, hz⟩ | ⟨g, cap, cur, e1, _⟩
  · omega
  · simp only [Value.slice.injEq] at e1
    obtain ⟨rfl, _, rfl⟩ := e1
    refine ⟨g, c1, (obj_cell h4.obj 1).trans rfl, fun k hk => ?_⟩
    obtain ⟨s0, s1⟩ := get2 (fun p : Nat × Nat => Value.int .u8 p.1) (fun p => Value.int .u32 p.2) (0, 0) L k hk
    have v0 := hrow.cells (g := g) rfl _ _ s0
    have v1 := hrow.cells (g := g) rfl _ _ s1
    rw [add_plain, Nat.zero_add] at v0 v1
    exact ⟨v0, v1⟩
/-- what At tells -/
def atV (L : List (Nat × Nat)) (x : Nat) : Nat × Nat := L.getD x (0, 0)
set_option maxHeartbeats 2000000 in
theorem mat_any {w : World} {B pm : Nat} {L : List (Nat × Nat)} {J : List Nat} {ds : List Int} {z st : Nat} {M : List (ByteArray × Nat)} {D N : List Int} (x : Nat) (_hx : x < 4294967296) (h : Mod w B pm L J ds z st M D N) :
    Calls Tryz.prog 27 #[.pointer (some ⟨pm, 0, none⟩), .int .u32 x] w fun e w' => e = .returned (.tuple #[.agg #[.int .u8 (L.getD x (0, 0)).1, .int .u32 (L.getD x (0, 0)).2], .bool (decide (x < L.length))]) ∧ Below w.heap.size w w' := by
  have hl := mlen h
  obtain ⟨w1, hw1⟩ : ∃ w1, w.alloc (.cells #[.int .u8 0, .int .u32 0] 46) = w1 := ⟨_, rfl⟩
  have hb1 : Below w.heap.size w w1 := by rw [← hw1]; exact belP (Below.refl _ _)
  have hC := mcount_any (h.below hb1)
  obtain ⟨g, c, q, hcl⟩ := mcode (h.below hb1)
  by_cases hxl : x < L.length
  · have hI : ¬ (L.length : Int) ≤ (x : Int) := by omega
    have hxI : (x : Int) < (L.length : Int) := by omega
    obtain ⟨v0, v1⟩ := hcl x hxl
    rw [decide_eq_true hxl]
    generalize (L.getD x (0, 0)).1 = op at *
    generalize (L.getD x (0, 0)).2 = arg at *
    have hd : (w1.heap[w.heap.size]? = some (.cells #[.int .u8 0, .int .u32 0] 46)) := by rw [← hw1]; exact heap_alloc_last w _
    have HB := hidS (And.intro hb1 hd)
    have HW := hidS hw1
    clear h hcl hw1
    go_enter Tryz.func27, Tryz.ntmps27
    go_wp2_with (first
      | (go_at_call 20; rw [HW.out]; refine hC.mono ?_; rintro e w2 ⟨rfl, hw2⟩; have hw2 := hw2.symm; subst hw2)
      | (refine wpList_store_rowV rfl _ _ _ rfl w.heap.size _ #[.int .u8 op, .int .u32 arg] rfl rfl hd (by rw [sizeVIn]; rfl) rfl (by simp [Value.oneCell']) ?_))
    refine bodyPost_ret (resWIn (p := 4) (u := 5) (by kernel_rfl) (.bool true) _ w.heap.size #[.int .u8 op, .int .u32 arg] rfl (setRow_heap _ _ _ _ _ _ HB.out.2) _ rfl rfl) rfl ?_
    exact ⟨rfl, below_setRow HB.out.1 (Nat.le_refl _) _⟩
  · have hI : (L.length : Int) ≤ (x : Int) := by omega
    rw [decide_eq_false hxl]
    have e0 : L.getD x (0, 0) = (0, 0) := by rw [List.getD_eq_getElem?_getD, List.getElem?_eq_none (by omega)]; rfl
    rw [e0]
    have hd : (w1.heap[w.heap.size]? = some (.cells #[.int .u8 0, .int .u32 0] 46)) := by rw [← hw1]; exact heap_alloc_last w _
    have HB := hidS (And.intro hb1 hd)
    have HW := hidS hw1
    clear h hcl hw1
    go_enter Tryz.func27, Tryz.ntmps27
    go_wp2_with (first
      | (go_at_call 20; rw [HW.out]; refine hC.mono ?_; rintro e w2 ⟨rfl, hw2⟩; have hw2 := hw2.symm; subst hw2)
      | (refine wpList_store_rowV rfl _ _ _ rfl w.heap.size _ #[.int .u8 0, .int .u32 0] rfl rfl hd (by rw [sizeVIn]; rfl) rfl (by simp [Value.oneCell']) ?_))
    refine bodyPost_ret (resWIn (p := 4) (u := 5) (by kernel_rfl) (.bool false) _ w.heap.size #[.int .u8 0, .int .u32 0] rfl (setRow_heap _ _ _ _ _ _ HB.out.2) _ rfl rfl) rfl ?_
    exact ⟨rfl, below_setRow HB.out.1 (Nat.le_refl _) _⟩
end Go.Proofs.YtnalnlbainghoaaGreatDoor
namespace Go.Proofs.YtnalnlbainghoaaGreatDoor
open Go.RowKit Go.WideShapes Go.Shelf
set_option maxRecDepth 100000
abbrev pnA (p : Pn) : Array Value := #[.int .u32 (p.1 : Nat), .int .u32 (p.2.1 : Nat), .int .u32 (p.2.2.1 : Nat), .int .i64 p.2.2.2]
/-- the procedure of an instruction, with its need -/
def prO (L : List (Nat × Nat)) (N : List Int) (x : Nat) : Pn := if x < L.length then ((prL L).getD (ofL L x).toNat (0, 0, 0)).1 |> fun b => (b, ((prL L).getD (ofL L x).toNat (0, 0, 0)).2.1, ((prL L).getD (ofL L x).toNat (0, 0, 0)).2.2, N.getD (ofL L x).toNat 0) else (0, 0, 0, 0)
theorem pnA_one (p : Pn) : (pnA p).all (·.oneCell') = true := by kernel_rfl
/-- the procedures in a module's memory -/
theorem mlist {w : World} {B pm : Nat} {L : List (Nat × Nat)} {J : List Nat} {ds : List Int} {z st : Nat} {M : List (ByteArray × Nat)} {D N : List Int} (h : Mod w B pm L J ds z st M D N) : ∃ g c, g < w.heap.size ∧ w.cell? ⟨pm, 9, none⟩ = some (.slice (some ⟨g, 0, none⟩) (prL L).length c) ∧ ∀ k, k < (prL L).length → w.cell? ⟨g, k * 4, none⟩ = some (.int .u32 (((prL L).getD k (0, 0, 0)).1 : Nat)) ∧ w.cell? ⟨g, k * 4 + 1, none⟩ = some (.int .u32 (((prL L).getD k (0, 0, 0)).2.1 : Nat)) ∧ w.cell? ⟨g, k * 4 + 2, none⟩ = some (.int .u32 (((prL L).getD k (0, 0, 0)).2.2 : Nat)) ∧ w.cell? ⟨g, k * 4 + 3, none⟩ = some (.int .i64 (N.getD k 0)) := by
  obtain ⟨_, hK, a1, c1, a2, c2, a3, c3, a4, c4, Bp, pp, p1, g1, p2, g2, lv, lw, A, C, gd, cp, _, _, h4⟩ := h
  have hpos : 0 < (prL L).length := by rw [prs_len]; exact bgs_pos hK.fd.fst
  have hrow := h4.list
  rcases hrow.2 with ⟨_, hz⟩ | ⟨g, cap, cur, rfl, _, hg, _⟩
  · omega
  · refine ⟨g, cap, (Array.getElem?_eq_some_iff.1 hg).1, (obj_cell h4.obj 9).trans rfl, fun k hk => ?_⟩
    obtain ⟨s0, s1, s2, s3⟩ := pnv_all (0, 0, 0, 0) (pnL (prL L) N (prL L).length) k (by rw [pnL_len]; exact hk)
    rw [pnL_get _ _ hk] at s0 s1 s2 s3
    have v0 := hrow.cells (g := g) rfl _ _ s0
    have v1 := hrow.cells (g := g) rfl _ _ s1
    have v2 := hrow.cells (g := g) rfl _ _ s2
    have v3 := hrow.cells (g := g) rfl _ _ s3
    rw [add_plain, Nat.zero_add] at v0 v1 v2 v3
    exact ⟨v0, v1, v2, v3⟩
set_option maxHeartbeats 4000000 in
theorem around_any {w : World} {B pm : Nat} {L : List (Nat × Nat)} {J : List Nat} {ds : List Int} {z st : Nat} {M : List (ByteArray × Nat)} {D N : List Int} (x : Nat) (h : Mod w B pm L J ds z st M D N) :
    Calls Tryz.prog 57 #[.pointer (some ⟨pm, 8, none⟩), .int .u32 x] w fun e w' => e = .returned (.tuple #[.agg (pnA (prO L N x)), .bool (decide (x < L.length))]) ∧ Below w.heap.size w w' := by
  have hl := mlen h
  have hE := h.2.1.fd.fst
  obtain ⟨w1, hw1⟩ : ∃ w1, w.alloc (.cells #[.int .u32 0, .int .u32 0, .int .u32 0, .int .i64 0] 39) = w1 := ⟨_, rfl⟩
  have hb1 : Below w.heap.size w w1 := by rw [← hw1]; exact belP (Below.refl _ _)
  have hd1 : (w1.heap[w.heap.size]? = some (.cells #[.int .u32 0, .int .u32 0, .int .u32 0, .int .i64 0] 39)) := by rw [← hw1]; exact heap_alloc_last w _
  have h1 := h.below hb1
  have hO : ∃ pp, w1.cell? ⟨pm, 8, none⟩ = some (.pointer (some ⟨pp, 0, none⟩)) ∧ Calls Tryz.prog 70 #[.pointer (some ⟨pp, 0, none⟩), .int .u32 x] w1 fun e w' => e = .returned (.int .i64 (ofL L x)) ∧ Below w1.heap.size w1 w' := by
    obtain ⟨_, hK, a1, c1, a2, c2, a3, c3, a4, c4, Bp, pp, p1, g1, p2, g2, lv, lw, A, C, gd, cp, _, _, h4⟩ := h1
    exact ⟨pp, (obj_cell h4.obj 8).trans rfl, pof_any x w1 hl hE h4.prs⟩
  obtain ⟨pp, q8, hOf⟩ := hO
  rw [← hw1] at q8
  have HW := hidS hw1
  have HM := hidS h1
  clear h h1 hw1
  by_cases hxl : x < L.length
  · obtain ⟨k, hk, k1, k2⟩ := lies_in hE hxl
    have hof : ofL L x = (k : Int) := ofL_in hk k1 k2
    have hk2 : k < (prL L).length := by rw [prs_len]; exact hk
    have hp : prO L N x = (((prL L).getD k (0, 0, 0)).1, ((prL L).getD k (0, 0, 0)).2.1, ((prL L).getD k (0, 0, 0)).2.2, N.getD k 0) := by
      unfold prO
      rw [if_pos hxl, hof]
      rfl
    rw [hof] at hOf
    rw [hp, decide_eq_true hxl]
    have hkI : ¬ (k : Int) < 0 := by omega
    have hkJ : (k : Int) < ((prL L).length : Int) := by omega
    have hml : (prL L).length ≤ 16384 := by rw [prs_len]; exact Nat.le_trans (els_le _ _) hl
    generalize hps : (prL L).getD k (0, 0, 0) = p0 at *
    generalize hnd : N.getD k 0 = nd at *
    have HPS := hidS (And.intro hps hnd)
    clear hps hnd
    clear hof k1 k2 hk hp
    go_enter Tryz.func57, Tryz.ntmps57
    go_wp2_with fail
    rw [HW.out]
    refine hOf.mono ?_
    rintro e w2 ⟨rfl, hb2⟩
    obtain ⟨g, c, hgl, q9, hcl⟩ := mlist (HM.out.below hb2)
    obtain ⟨v0, v1, v2, v3⟩ := hcl k hk2
    rw [HPS.out.1] at v0 v1 v2
    rw [HPS.out.2] at v3
    have hd2 := (hb2.block _ (Array.getElem?_eq_some_iff.1 hd1).1).trans hd1
    have HB := hidS (And.intro (btP hb1 hb2) hd2)
    obtain ⟨pb, pe, pf⟩ := p0
    simp only at v0 v1 v2
    clear hcl hb2 q8 hOf HM HW HPS
    go_wp2_with (refine wpList_store_rowV rfl _ _ _ rfl w.heap.size _ #[.int .u32 (pb : Nat), .int .u32 (pe : Nat), .int .u32 (pf : Nat), .int .i64 nd] rfl rfl hd2 (by rw [sizeVPr]; rfl) rfl (by simp [Value.oneCell']) ?_)
    refine bodyPost_ret (resWPr (p := 4) (u := 5) (by kernel_rfl) (.bool true) _ w.heap.size #[.int .u32 (pb : Nat), .int .u32 (pe : Nat), .int .u32 (pf : Nat), .int .i64 nd] rfl (setRow_heap _ _ _ _ _ _ HB.out.2) _ rfl rfl) rfl ?_
    exact ⟨rfl, below_setRow HB.out.1 (Nat.le_refl _) _⟩
  · have hof : ofL L x < 0 := (ofL_neg hE x).2 hxl
    have hp : prO L N x = (0, 0, 0, 0) := by unfold prO; rw [if_neg hxl]
    rw [hp, decide_eq_false hxl]
    generalize ofL L x = o at *
    go_enter Tryz.func57, Tryz.ntmps57
    go_wp2_with fail
    rw [HW.out]
    refine hOf.mono ?_
    rintro e w2 ⟨rfl, hb2⟩
    have hd2 := (hb2.block _ (Array.getElem?_eq_some_iff.1 hd1).1).trans hd1
    have HB := hidS (And.intro (btP hb1 hb2) hd2)
    clear hb2 q8 hOf HM HW hp
    go_wp2_with (refine wpList_store_rowV rfl _ _ _ rfl w.heap.size _ #[.int .u32 0, .int .u32 0, .int .u32 0, .int .i64 0] rfl rfl hd2 (by rw [sizeVPr]; rfl) rfl (by simp [Value.oneCell']) ?_)
    refine bodyPost_ret (resWPr (p := 4) (u := 5) (by kernel_rfl) (.bool false) _ w.heap.size #[.int .u32 0, .int .u32 0, .int .u32 0, .int .i64 0] rfl (setRow_heap _ _ _ _ _ _ HB.out.2) _ rfl rfl) rfl ?_
    exact ⟨rfl, below_setRow HB.out.1 (Nat.le_refl _) _⟩
set_option maxHeartbeats 4000000 in
theorem mprocof_any {w : World} {B pm : Nat} {L : List (Nat × Nat)} {J : List Nat} {ds : List Int} {z st : Nat} {M : List (ByteArray × Nat)} {D N : List Int} (x : Nat) (h : Mod w B pm L J ds z st M D N) :
    Calls Tryz.prog 32 #[.pointer (some ⟨pm, 0, none⟩), .int .u32 x] w fun e w' => e = .returned (.tuple #[.agg (pnA (prO L N x)), .bool (decide (x < L.length))]) ∧ Below w.heap.size w w' := by
  obtain ⟨w1, hw1⟩ : ∃ w1, w.alloc (.cells #[.int .u32 0, .int .u32 0, .int .u32 0, .int .i64 0] 39) = w1 := ⟨_, rfl⟩
  have hb1 : Below w.heap.size w w1 := by rw [← hw1]; exact belP (Below.refl _ _)
  have hd1 : (w1.heap[w.heap.size]? = some (.cells #[.int .u32 0, .int .u32 0, .int .u32 0, .int .i64 0] 39)) := by rw [← hw1]; exact heap_alloc_last w _
  have hM := mmade_any pm w1 (mcells (h.below hb1))
  have hA := around_any x (h.below hb1)
  generalize prO L N x = p at *
  generalize decide (x < L.length) = bb at *
  have HW := hidS hw1
  clear h hw1
  go_enter Tryz.func32, Tryz.ntmps32
  go_wp2_with fail
  rw [HW.out]
  refine hM.mono ?_
  rintro e w2 ⟨rfl, hw2⟩
  have hw2 := hw2.symm
  subst hw2
  clear hM
  go_wp2_with fail
  refine hA.mono ?_
  rintro e w2 ⟨rfl, hb2⟩
  have hd2 := (hb2.block _ (Array.getElem?_eq_some_iff.1 hd1).1).trans hd1
  have HB := hidS (And.intro (btP hb1 hb2) hd2)
  clear hb2 HW hA
  go_wp2_with (refine wpList_store_rowV rfl _ _ _ rfl w.heap.size _ (pnA p) rfl rfl hd2 (by rw [sizeVPr]; rfl) rfl (pnA_one p) ?_)
  refine bodyPost_ret (resWPr (p := 4) (u := 5) (by kernel_rfl) (.bool bb) _ w.heap.size (pnA p) rfl (setRow_heap _ _ _ _ _ _ HB.out.2) _ rfl rfl) rfl ?_
  exact ⟨rfl, below_setRow HB.out.1 (Nat.le_refl _) _⟩
end Go.Proofs.YtnalnlbainghoaaGreatDoor
namespace Go.Proofs.YtnalnlbainghoaaGreatDoor
open Go.RowKit Go.WideShapes Go.Shelf
set_option maxRecDepth 100000
/-- is an index a return point? -/
def bkV (L : List (Nat × Nat)) (D : List Int) (x : Nat) : Bool := decide (0 < x ∧ x - 1 < L.length) && decide ((L.getD (x - 1) (0, 0)).1 = 5) && decide (D.getD (x - 1) (-1) ≠ -1)
set_option maxHeartbeats 4000000 in
theorem mback_any {w : World} {B pm : Nat} {L : List (Nat × Nat)} {J : List Nat} {ds : List Int} {z st : Nat} {M : List (ByteArray × Nat)} {D N : List Int} (x : Nat) (_hx : x < 4294967296) (h : Mod w B pm L J ds z st M D N) :
    Calls Tryz.prog 11 #[.pointer (some ⟨pm, 0, none⟩), .int .u32 x] w fun e w' => e = .returned (.bool (bkV L D x)) ∧ Below w.heap.size w w' := by
  have hl := mlen h
  obtain ⟨y, hy, hyx⟩ : ∃ y : Nat, y < 4294967296 ∧ (((x : Int) - 1) % 4294967296 = (y : Int)) := ⟨(((x : Int) - 1) % 4294967296).toNat, by omega, by omega⟩
  have hAt := mat_any y hy h
  have hV : bkV L D x = (decide (y < L.length) && (decide ((L.getD y (0, 0)).1 = 5) && decide (D.getD y (-1) ≠ -1))) := by
    unfold bkV
    by_cases h0 : 0 < x
    · have : y = x - 1 := by omega
      subst this
      rw [Bool.and_assoc]
      congr 1
      simp [h0]
    · have h1 : ¬ y < L.length := by omega
      rw [decide_eq_false (show ¬ (0 < x ∧ x - 1 < L.length) from fun q => h0 q.1), decide_eq_false h1]
      rfl
  rw [hV]
  clear hV
  generalize hop : (L.getD y (0, 0)).1 = op at *
  generalize (L.getD y (0, 0)).2 = arg at *
  have hRe : ∀ W, Below w.heap.size w W → Calls Tryz.prog 28 #[.pointer (some ⟨pm, 10, none⟩), .int .u32 y] W fun e w' => e = .returned (.bool (decide (D.getD y (-1) ≠ -1))) ∧ w' = W := fun W hW => by
    obtain ⟨_, hK, a1, c1, a2, c2, a3, c3, a4, c4, Bp, pp, p1, g1, p2, g2, lv, lw, A, C, gd, cp, _, _, h4⟩ := h.below hW
    have q : W.cell? ⟨pm, 10, none⟩ = some (.slice (some ⟨gd, 0, none⟩) D.length cp) := (obj_cell h4.obj 10).trans rfl
    have hD := depth_any y hy (by rw [hK.dp.len]; exact hl) q (fun i hi => h4.dep.cell hi)
    generalize D.getD y (-1) = d at *
    clear h4 hK q h hAt
    by_cases hd : d = -1
    · subst hd
      go_enter Tryz.func28, Tryz.ntmps28
      go_wp2_with (go_at_call 26; refine hD.mono ?_; rintro e w2 ⟨rfl, hw2⟩; have hw2 := hw2.symm; subst hw2)
      go_ret
      exact ⟨rfl, rfl⟩
    · have hdB : (d == -1) = false := beq_eq_false_iff_ne.2 hd
      rw [decide_eq_true hd]
      go_enter Tryz.func28, Tryz.ntmps28
      go_wp2_with (go_at_call 26; refine hD.mono ?_; rintro e w2 ⟨rfl, hw2⟩; have hw2 := hw2.symm; subst hw2)
      go_ret
      exact ⟨by simp [hd], rfl⟩
  generalize decide (D.getD y (-1) ≠ -1) = bd at *
  have HR := hidS hRe
  clear hRe h hop hl
  generalize hbl : decide (y < L.length) = bl at *
  clear hbl
  by_cases hop5 : op = 5
  · subst hop5
    rw [decide_eq_true rfl]
    cases bl with
    | true =>
      go_enter Tryz.func11, Tryz.ntmps11
      go_wp2_with (first
        | (go_at_call 27; refine hAt.mono ?_; rintro e w2 ⟨rfl, hb2⟩)
        | (go_at_call 28; refine (HR.out _ (belP hb2)).mono ?_; rintro e w3 ⟨rfl, hw3⟩; have hw3 := hw3.symm; subst hw3))
      go_ret
      exact ⟨by simp, belP hb2⟩
    | false =>
      go_enter Tryz.func11, Tryz.ntmps11
      go_wp2_with (go_at_call 27; refine hAt.mono ?_; rintro e w2 ⟨rfl, hb2⟩)
      go_ret
      exact ⟨by simp, belP hb2⟩
  · have hopB : ((op : Int) == 5) = false := by rw [beq_eq_false_iff_ne]; omega
    rw [decide_eq_false hop5]
    cases bl with
    | true =>
      go_enter Tryz.func11, Tryz.ntmps11
      go_wp2_with (go_at_call 27; refine hAt.mono ?_; rintro e w2 ⟨rfl, hb2⟩)
      go_ret
      exact ⟨by simp, belP hb2⟩
    | false =>
      go_enter Tryz.func11, Tryz.ntmps11
      go_wp2_with (go_at_call 27; refine hAt.mono ?_; rintro e w2 ⟨rfl, hb2⟩)
      go_ret
      exact ⟨by simp, belP hb2⟩
set_option maxHeartbeats 2000000 in
theorem mprocs_any {w : World} {B pm : Nat} {L : List (Nat × Nat)} {J : List Nat} {ds : List Int} {z st : Nat} {M : List (ByteArray × Nat)} {D N : List Int} (h : Mod w B pm L J ds z st M D N) :
    Calls Tryz.prog 8 #[.pointer (some ⟨pm, 0, none⟩)] w fun e w' => ∃ g c, e = .returned (.slice (some ⟨g, 0, none⟩) (bgs L).length c) ∧ w'.ownsRow w.heap.size 39 4 (.slice (some ⟨g, 0, none⟩) (bgs L).length c) (bgs L).length (pnv (pnL (prL L) N (bgs L).length)) ∧ Below w.heap.size w w' := by
  have hM := mmade_any pm w (mcells h)
  have hl := mlen h
  have hml : (bgs L).length ≤ 16384 := Nat.le_trans (els_le _ _) hl
  have hpos := bgs_pos h.2.1.fd.fst
  obtain ⟨g, c, hgl, q9, hcl⟩ := mlist h
  have hpl : (prL L).length = (bgs L).length := prs_len _ _
  rw [hpl] at q9 hcl
  have hC := cloneP_any (some ⟨g, 0, none⟩) c (bgs L).length (pnv (pnL (prL L) N (bgs L).length)) w (by omega) (by rw [pnv_len, pnL_len]) (by
    intro u hu
    simp only [pnv, List.mem_flatMap, List.mem_cons, List.not_mem_nil, or_false] at hu
    obtain ⟨p, _, hp⟩ := hu
    rcases hp with rfl | rfl | rfl | rfl <;> rfl) (fun _ => ⟨g, 0, rfl, hgl, fun j u hj => by
      have hjl : j < (bgs L).length * 4 := by
        have := (List.getElem?_eq_some_iff.1 hj).1
        rwa [pnv_len, pnL_len] at this
      obtain ⟨s0, s1, s2, s3⟩ := pnv_all (0, 0, 0, 0) (pnL (prL L) N (bgs L).length) (j / 4) (by rw [pnL_len]; omega)
      rw [pnL_get _ _ (by omega)] at s0 s1 s2 s3
      obtain ⟨v0, v1, v2, v3⟩ := hcl (j / 4) (by omega)
      rw [Nat.zero_add]
      have hc : j = j / 4 * 4 ∨ j = j / 4 * 4 + 1 ∨ j = j / 4 * 4 + 2 ∨ j = j / 4 * 4 + 3 := by omega
      generalize j / 4 = q at *
      rcases hc with rfl | rfl | rfl | rfl
      · rw [v0, ← hj, s0]
      · rw [v1, ← hj, s1]
      · rw [v2, ← hj, s2]
      · rw [v3, ← hj, s3]⟩)
  have hA : Calls Tryz.prog 22 #[.pointer (some ⟨pm, 8, none⟩)] w (ClP w 39 4 (bgs L).length (pnv (pnL (prL L) N (bgs L).length))) := by
    clear hM h hcl
    generalize pnv (pnL (prL L) N (bgs L).length) = xs at *
    go_enter Tryz.func22, Tryz.ntmps22
    go_wp2_with fail
    refine hC.mono ?_
    rintro e w2 ⟨a, c, rfl, h1, h2, h3⟩
    have HH := hidS (And.intro h1 (And.intro h2 h3))
    clear h1 h2 h3
    go_wp2_with fail
    go_ret
    exact ⟨a, c, rfl, HH.out⟩
  clear hC h hcl q9
  generalize pnv (pnL (prL L) N (bgs L).length) = xs at *
  go_enter Tryz.func8, Tryz.ntmps8
  go_wp2_with (go_at_call 21; refine hM.mono ?_; rintro e w2 ⟨rfl, hw2⟩; have hw2 := hw2.symm; subst hw2)
  refine hA.mono ?_
  rintro e w2 ⟨a, c, rfl, h1, h2, h3⟩
  have hr := h2 hpos
  obtain ⟨g', rfl⟩ : ∃ g', a = some ⟨g', 0, none⟩ := by
    rcases hr.2 with ⟨_, hz⟩ | ⟨g', cap, cur, e1, _⟩
    · omega
    · simp only [Value.slice.injEq] at e1
      exact ⟨g', e1.1⟩
  have HH := hidS (And.intro hr h3)
  clear h1 h2 h3 hr
  go_wp2_with fail
  go_ret
  exact ⟨g', c, rfl, HH.out⟩
end Go.Proofs.YtnalnlbainghoaaGreatDoor
