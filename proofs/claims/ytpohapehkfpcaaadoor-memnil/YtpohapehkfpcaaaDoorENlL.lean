import Derived.Test.YtpohapehkfpcaaaDoorENl2
namespace Go.Proofs.YtpohapehkfpcaaaDoor
open Go.RowKit Go.WideShapes
set_option maxRecDepth 100000

theorem zero_not {W0 : World} {b : Nat} {cs : Array Value} {t : TypeId} {fr : Nat × Nat} (h : W0.heap[b]? = some (.cells cs t fr)) (h0 : cs[0]? = some (.pointer none)) : ∀ W : World, W.heap = W0.heap → NotMade (.pointer (some ⟨b, 0, none⟩)) W := fun W hW =>
  made_no b W ((obj_cell (by rw [hW]; exact h) 0).trans h0)
theorem zero_not_new (w : World) (n : Nat) (W : World) (hW : W.heap = ((w.drewN n).alloc (.cells #[.pointer none, .slice none 0 0, .bool false, .slice none 0 0] 43)).heap) : NotMade (.pointer (some ⟨w.heap.size, 0, none⟩)) W :=
  zero_not (heap_alloc_new (w.drewN n) _) rfl W hW
theorem belN {a w : World} (h : Below a.heap.size a w) (n : Nat) : Below a.heap.size a (w.drewN n) := h.trans ⟨rfl, rfl, rfl, Nat.le_refl _, fun _ _ => rfl⟩
set_option maxHeartbeats 2000000 in
theorem memnil_any (w : World) (hT : Tab w) (h1 : 1 < w.heap.size) :
    Calls Tryd.prog 4 #[] w fun e w' => e = .returned (.bool true) ∧ Below w.heap.size w w' := by
  have hA : Calls Tryd.prog 8 #[] w fun e w' => e = .returned (.bool true) ∧ Hid (Below w.heap.size w w') := awake_any w hT h1
  have HN := hidS (fun W => nothing_any none W (fun W' _ => made_nil W'))
  have HZ := hidS (fun W n => nothing_any (some ⟨W.heap.size, 0, none⟩) ((W.drewN n).alloc (.cells #[.pointer none, .slice none 0 0, .bool false, .slice none 0 0] 43)) (zero_not_new W n))
  have HW : Hid (∀ W, Calls Tryd.prog 18 #[.int .i64 8] W fun e w' => ∃ a, e = .returned (.tuple #[.pointer (some ⟨a, 0, none⟩), .int .i64 0]) ∧ Hid (Seg W.heap.size w' a (List.replicate 256 0) ∧ Below W.heap.size W w')) := fun W => (new8s_any W).mono fun e w' ⟨a, he, h⟩ => ⟨a, he, h⟩
  have HS1 := hidS (fun B a W h => same_self B a (List.replicate 256 0) W h)
  have HS2 := hidS (fun B a W n h => same_not B a (.pointer none) (List.replicate 256 0) (W.drewN n) (Seg.below h (belN (Below.refl _ W) n)) (fun W' _ => made_nil W'))
  have HS3 := hidS (fun B a W n h => same_not B a (.pointer (some ⟨W.heap.size, 0, none⟩)) (List.replicate 256 0) ((W.drewN n).alloc (.cells #[.pointer none, .slice none 0 0, .bool false, .slice none 0 0] 43)) (Seg.below h ((belN (Below.refl _ W) n).alloc (Nat.le_refl _) _)) (zero_not_new W n))
  clear hT h1
  go_enter Tryd.func4, Tryd.ntmps4
  go_wp2_with (first
    | (go_at_call 8; with_reducible refine hA.mono ?_; rintro e w1 ⟨rfl, HB1⟩)
    | (go_at_call 19; with_reducible refine (HN.out _).mono ?_; rintro e wq ⟨rfl, n1, hq⟩; subst wq)
    | (go_at_call 19; with_reducible refine (HZ.out _ _).mono ?_; rintro e wq ⟨rfl, n2, hq⟩; subst wq)
    | (go_at_call 18; with_reducible refine (HW.out _).mono ?_; rintro e w3 ⟨a, rfl, HQ⟩)
    | (go_at_call 20; with_reducible refine (HS1.out _ _ _ HQ.out.1).mono ?_; rintro e wq ⟨rfl, n3, hq⟩; subst wq)
    | (go_at_call 20; with_reducible refine (HS2.out _ _ _ _ HQ.out.1).mono ?_; rintro e wq ⟨rfl, n4, hq⟩; subst wq)
    | (go_at_call 20; with_reducible refine (HS3.out _ _ _ _ HQ.out.1).mono ?_; rintro e wq ⟨rfl, n5, hq⟩; subst wq)
    | fail)
  go_ret
  refine ⟨rfl, ?_⟩
  have z1 := HB1.out.size
  have k1 : Below w.heap.size w (((w1.drewN n1).alloc (.cells #[.pointer none, .slice none 0 0, .bool false, .slice none 0 0] 43)).drewN n2) := belN ((belN HB1.out n1).alloc z1 _) n2
  have k2 : Below w.heap.size w w3 := k1.trans (HQ.out.2.mono k1.size)
  exact belN ((belN k2 _).alloc k2.size _) _
end Go.Proofs.YtpohapehkfpcaaaDoor
