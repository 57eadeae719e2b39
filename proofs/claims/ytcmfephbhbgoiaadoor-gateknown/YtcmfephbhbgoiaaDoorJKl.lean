import Derived.Test.YtcmfephbhbgoiaaDoorJKn
namespace Go.Proofs.YtcmfephbhbgoiaaDoor
open Go.RowKit Go.WideShapes
set_option maxRecDepth 100000
theorem alloc_k (W : World) (o : Obj) : Below W.heap.size W (W.alloc o) := (Below.refl _ _).alloc (Nat.le_refl _) o
theorem new_lit (V : World) (L : List (Nat × Int)) (cap : Nat) (hL : ∀ p ∈ L, p.1 < 4294967296) :
    Calls Tryd.prog 6 #[.slice (some ⟨V.heap.size, 0, none⟩) L.length cap] (V.alloc (.cells (gv L).toArray 41)) (NewP (V.alloc (.cells (gv L).toArray 41)) L) :=
  new_any (some ⟨V.heap.size, 0, none⟩) cap L _ hL (fun _ => ⟨V.heap.size, 0, rfl, by simp, fun j hj => by
    obtain ⟨e1, e2⟩ := gv_all L j hj
    have n1 := new_cell V (gv L).toArray 41 (0 + j * 2)
    have n2 := new_cell V (gv L).toArray 41 (0 + j * 2 + 1)
    rw [n1, n2]
    simp only [Nat.zero_add, List.getElem?_toArray]
    exact ⟨e1, e2⟩⟩)
def f7 : Int → Option Int := ofL [(7, 2), (0, 0)]
theorem new7 (V : World) : Calls Tryd.prog 6 #[.slice (some ⟨V.heap.size, 0, none⟩) 2 2] (V.alloc (.cells #[.int .u32 7, .int .i64 2, .int .u32 0, .int .i64 0] 41)) fun e w' => ∃ g, e = .returned (.tuple #[.pointer (some ⟨g, 0, none⟩), .int .i64 0]) ∧ GtS w' g f7 ∧ Below V.heap.size V w' :=
  (new_lit V [(7, 2), (0, 0)] 2 (by simp)).mono fun e w' h => by
    obtain ⟨hb, g, he, hg, hG⟩ := newp_ok h ⟨by decide, fun k hk => by rcases (show k = 0 ∨ k = 1 by simp at hk; omega) with rfl | rfl <;> decide⟩
    exact ⟨g, he, hG, (alloc_k V _).trans (hb.mono (by simp))⟩
theorem new_no {w w' : World} {L : List (Nat × Int)} {e : Ending} (h : NewP w L e w') (hok : ¬ okG L) : e = .returned (.tuple #[.pointer none, .int .i64 160]) ∧ Below w.heap.size w w' := by
  obtain ⟨hb, h⟩ := h
  rcases h with h | h
  · exact absurd h.1 hok
  · exact ⟨h.2, hb⟩
theorem new77 (V : World) : Calls Tryd.prog 6 #[.slice (some ⟨V.heap.size, 0, none⟩) 2 2] (V.alloc (.cells #[.int .u32 7, .int .i64 2, .int .u32 7, .int .i64 2] 41)) fun e w' => e = .returned (.tuple #[.pointer none, .int .i64 160]) ∧ Below V.heap.size V w' :=
  (new_lit V [(7, 2), (7, 2)] 2 (by simp)).mono fun e w' h => by
    obtain ⟨he, hb⟩ := new_no h (fun h => by have := h.2 1 (by decide); revert this; decide)
    exact ⟨he, (alloc_k V _).trans (hb.mono (by simp))⟩
theorem newbig (V : World) : Calls Tryd.prog 6 #[.slice (some ⟨V.heap.size, 0, none⟩) 1 1] (V.alloc (.cells #[.int .u32 2147483648, .int .i64 0] 41)) fun e w' => e = .returned (.tuple #[.pointer none, .int .i64 160]) ∧ Below V.heap.size V w' :=
  (new_lit V [(2147483648, 0)] 1 (by simp)).mono fun e w' h => by
    obtain ⟨he, hb⟩ := new_no h (fun h => by have := h.2 0 (by decide); revert this; decide)
    exact ⟨he, (alloc_k V _).trans (hb.mono (by simp))⟩
theorem wrd_lit (V : World) (J : List Nat) : WRd (V.alloc (.cells (nv32 J).toArray 23)) (some ⟨V.heap.size, 0, none⟩) J (V.alloc (.cells (nv32 J).toArray 23)).heap.size :=
  fun _ => ⟨V.heap.size, 0, rfl, by simp, fun j hj => by
    rw [new_cell V (nv32 J).toArray 23 (0 + j)]
    simp [nv32, hj, List.getD]⟩
theorem less73 (V : World) (gg : Nat) (hG : GtS V gg f7) : Calls Tryd.prog 11 #[.pointer (some ⟨gg, 0, none⟩), .slice (some ⟨V.heap.size, 0, none⟩) 2 2] (V.alloc (.cells #[.int .u32 7, .int .u32 3] 23)) fun e w' => ∃ g', e = .returned (.tuple #[.pointer (some ⟨g', 0, none⟩), .int .i64 0]) ∧ GtS w' g' (lessF f7 [7, 3]) ∧ Below V.heap.size V w' :=
  (less_any gg f7 (some ⟨V.heap.size, 0, none⟩) 2 [7, 3] (V.alloc (.cells #[.int .u32 7, .int .u32 3] 23)) (hG.kept (alloc_k V _) rfl) (by decide) (by simp) (wrd_lit V [7, 3])).mono fun e w' ⟨g', he, _, hb, hG'⟩ =>
    ⟨g', he, hG', (alloc_k V _).trans (hb.mono (by simp))⟩
theorem ev_lit (V : World) (gg : Nat) (hG : GtS V gg f7) : Calls Tryd.prog 10 #[.pointer (some ⟨gg, 0, none⟩), .int .u32 3, .int .u32 7, .slice (some ⟨V.heap.size, 0, none⟩) 2 2, .agg #[.int .u32 9, .slice none 0 0]] (V.alloc (.cells #[.int .u32 1, .int .u32 2] 23)) fun e w' => ∃ a c, e = .returned (.tuple #[.agg #[.int .u32 3, .int .u32 7, .slice a 2 c, .int .u32 9], .int .i64 0]) ∧ Below V.heap.size V w' :=
  (event_ok gg f7 3 7 (some ⟨V.heap.size, 0, none⟩) none 2 0 [1, 2] 9 [] (V.alloc (.cells #[.int .u32 1, .int .u32 2] 23)) (hG.kept (alloc_k V _) rfl) (by decide) (by decide) (wrd_lit V [1, 2]) (by decide) (fun h => by simp at h) (by decide)).mono fun e w' ⟨a, c, he, _, hb⟩ =>
    ⟨a, c, he, (alloc_k V _).trans (hb.mono (by simp))⟩
set_option maxHeartbeats 2000000 in
theorem ev_shape (V : World) (gg : Nat) (hG : GtS V gg f7) : Calls Tryd.prog 10 #[.pointer (some ⟨gg, 0, none⟩), .int .u32 3, .int .u32 7, .slice (some ⟨V.heap.size, 0, none⟩) 1 1, .agg #[.int .u32 9, .slice none 0 0]] (V.alloc (.cells #[.int .u32 1] 23)) fun e w' => e = .returned (.tuple #[.agg #[.int .u32 0, .int .u32 0, .slice none 0 0, .int .u32 0], .int .i64 162]) ∧ Below V.heap.size V w' := by
  have hbV := alloc_k V (.cells #[.int .u32 1] 23)
  have hGV := hG.kept hbV rfl
  generalize V.alloc (.cells #[.int .u32 1] 23) = w at *
  have hb := fun o o' => ((Below.refl w.heap.size w).alloc (Nat.le_refl _) o).alloc (by simp) o'
  have hM := fun o o' => gmade_any gg f7 ((w.alloc o).alloc o') (hGV.kept (hb o o') rfl)
  have hGr : ∀ o o', Calls Tryd.prog 8 #[.pointer (some ⟨gg, 0, none⟩), .int .u32 7] ((w.alloc o).alloc o') fun e w' => e = .returned (.tuple #[.int .i64 2, .bool true]) ∧ w' = (w.alloc o).alloc o' := fun o o' => granted_any gg f7 7 ((w.alloc o).alloc o') (hGV.kept (hb o o') rfl) (by decide)
  go_enter Tryd.func10, Tryd.ntmps10
  go_wp2_with (first
    | (go_at_call 24; with_reducible refine (hM _ _).mono ?_; rintro e wq ⟨rfl, hq⟩; subst wq)
    | (go_at_call 8; with_reducible refine (hGr _ _).mono ?_; rintro e wq ⟨rfl, hq⟩; subst wq))
  exact bodyPost_ret (v := .tuple #[.agg #[.int .u32 0, .int .u32 0, .slice none 0 0, .int .u32 0], .int .i64 162]) (by simp [results, Tryd.results10, go_sem]) rfl ⟨rfl, hbV.trans ((hb _ _).mono hbV.size)⟩
end Go.Proofs.YtcmfephbhbgoiaaDoor
