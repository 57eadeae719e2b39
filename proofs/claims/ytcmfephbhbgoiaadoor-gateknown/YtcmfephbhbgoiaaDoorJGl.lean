import Derived.Test.YtcmfephbhbgoiaaDoorJGt
import Derived.Shelf.SlMaps.Clone
namespace Go.Proofs.YtcmfephbhbgoiaaDoor
open Go.RowKit
set_option maxRecDepth 100000
open Go.Maps (Keyed int_keyed keyOf_int_mk)
set_option maxHeartbeats 2000000 in
theorem mclone_any (b : Nat) (es : Array MapEntry) (clock : Nat) (w : World) (hb : w.heap[b]? = some (.map es clock)) :
    Calls Tryd.prog 29 #[.map (some b)] w fun e w' => e = .returned (.map (some w.heap.size)) ∧ w' = w.alloc (.map es clock) := by
  have hq := fun w => run_eql_map_nil_sl (P := Tryd.prog) w 29 _ _ (some b) Tryd.underlying29
  go_enter Tryd.func29, Tryd.ntmps29
  go_wp2_with fail
  rw [run_callFunc_extern Tryd.func41 (by kernel_rfl) (by kernel_rfl) (by kernel_rfl) (e := Extern.MapsClone.clone) (by kernel_rfl), run_maps_clone_sl w 29 hb]
  simp only [Result.andThen]
  rw [Oper.upon_value]
  go_wp2
  rw [run_typeAssert_map_sl _ 29 20 _ _ _ Tryd.underlying29]
  simp only [Result.andThen]
  rw [Oper.upon_value]
  go_wp2
  go_ret
  exact ⟨rfl, rfl⟩
/-- words that are read -/
def WRd (w : World) (ao : Option Addr) (J : List Nat) (B : Nat) : Prop :=
  0 < J.length → ∃ b off, ao = some ⟨b, off, none⟩ ∧ b < B ∧ ∀ j, j < J.length → w.cell? ⟨b, off + j, none⟩ = some (.int .u32 (J.getD j 0 : Nat))
theorem WRd.below {w w' : World} {ao : Option Addr} {J : List Nat} {B : Nat} (h : WRd w ao J B) (hb : Below B w w') : WRd w' ao J B := by
  intro hl
  obtain ⟨b, off, e, hlt, hc⟩ := h hl
  exact ⟨b, off, e, hlt, fun j hj => (hb.cell (p := ⟨b, off + j, none⟩) hlt).trans (hc j hj)⟩
theorem WRd.mono {w : World} {ao : Option Addr} {J : List Nat} {B C : Nat} (h : WRd w ao J B) (hb : B ≤ C) : WRd w ao J C := by
  intro hl
  obtain ⟨b, off, e, hlt, hc⟩ := h hl
  exact ⟨b, off, e, by omega, hc⟩
/-- what is left of the grants without these numbers -/
def lessF (f : Int → Option Int) (J : List Nat) : Int → Option Int := fun x => if ∃ j ∈ J, x = (j : Int) then none else f x
theorem lessF_nil (f : Int → Option Int) : lessF f [] = f := by funext x; simp [lessF]
theorem lessF_snoc (f : Int → Option Int) (J : List Nat) (k : Nat) : lessF f (J ++ [k]) = delF (lessF f J) k := by
  funext x
  simp only [lessF, delF]
  by_cases h : x = (k : Int)
  · rw [if_pos h, if_pos ⟨k, by simp, h⟩]
  · rw [if_neg h]
    by_cases h2 : ∃ j ∈ J, x = (j : Int)
    · rw [if_pos h2, if_pos]
      obtain ⟨j, hj, e⟩ := h2
      exact ⟨j, by simp [hj], e⟩
    · rw [if_neg h2, if_neg]
      rintro ⟨j, hj, e⟩
      rcases List.mem_append.1 hj with hj | hj
      · exact h2 ⟨j, hj, e⟩
      · simp at hj; subst hj; exact h e
theorem take_snocN (J : List Nat) (k : Nat) (h : k < J.length) : J.take (k + 1) = J.take k ++ [J.getD k 0] := by
  rw [List.take_add_one, List.getElem?_eq_getElem h]
  simp [List.getD_eq_getElem?_getD, List.getElem?_eq_getElem h]
theorem getD_memN {zs : List Nat} {k : Nat} (h : k < zs.length) : zs.getD k 0 ∈ zs := by
  simp [List.getD, List.getElem?_eq_getElem h]
theorem cloneR_any (b n : Nat) (f : Int → Option Int) (w : World) (h : MapR w b n f) :
    Calls Tryd.prog 29 #[.map (some b)] w fun e w' => e = .returned (.map (some w.heap.size)) ∧ MapR w' w.heap.size n f ∧ Below w.heap.size w w' ∧ w.heap.size < w'.heap.size := by
  obtain ⟨D, ⟨es, clock, hb, F, hs, hD⟩, hF⟩ := h
  refine (mclone_any b es clock w hb).mono ?_
  rintro e w' ⟨he, rfl⟩
  exact ⟨he, ⟨D, ⟨es, clock, (MapKept.heap_alloc w _).1, F, hs, hD⟩, hF⟩, (Below.refl _ w).alloc (Nat.le_refl _) _, by simp⟩
set_option maxHeartbeats 2000000 in
theorem less_any (g : Nat) (f : Int → Option Int) (ao : Option Addr) (cap : Nat) (J : List Nat) (w : World) (h : GtS w g f) (hn : J.length ≤ 9223372036854775807) (hJ : ∀ z ∈ J, z < 4294967296) (hr : WRd w ao J w.heap.size) :
    Calls Tryd.prog 11 #[.pointer (some ⟨g, 0, none⟩), .slice ao J.length cap] w fun e w' => ∃ g', e = .returned (.tuple #[.pointer (some ⟨g', 0, none⟩), .int .i64 0]) ∧ w.heap.size ≤ g' ∧ Below w.heap.size w w' ∧ GtS w' g' (lessF f J) := by
  have hM := gmade_any g f w h
  obtain ⟨b, h1, h2, h3, h4, h5⟩ := h
  have hC := cloneR_any b 64 f w h5
  go_enter Tryd.func11, Tryd.ntmps11
  go_wp2_with (first
    | (go_at_call 24; with_reducible refine hM.mono ?_; rintro e wq ⟨rfl, hq⟩; subst wq)
    | (go_at_call 29; with_reducible refine hC.mono ?_; rintro e w0 ⟨rfl, hm0, hb0, hs0⟩))
  go_loopw [19] (fun u wr => ∃ k : Nat, u = .int .i64 k ∧ k ≤ J.length ∧ MapR wr w.heap.size 64 (lessF f (J.take k)) ∧ Below w.heap.size w wr ∧ w.heap.size < wr.heap.size) (fun u _ => J.length - (intOf u).toNat)
  case atStart => exact ⟨0, rfl, Nat.zero_le _, by rw [List.take_zero, lessF_nil]; exact hm0, hb0, hs0⟩
  case round =>
    obtain ⟨k, rfl, hk, hm, hb, hsz⟩ := hrel
    clear hC hM hm0 hb0 hs0
    by_cases hlt : k < J.length
    · have hd : decide ((k : Int) < J.length) = true := by simp; omega
      obtain ⟨bo, off, rfl, hbl, hc⟩ := hr (by omega)
      have c1 := (hb.cell (p := ⟨bo, off + k, none⟩) hbl).trans (hc k hlt)
      have hx := hJ _ (getD_memN hlt)
      have HT : Hid (J.take (k + 1) = J.take k ++ [J.getD k 0]) := take_snocN J k hlt
      generalize J.getD k 0 = x at *
      obtain ⟨D, hown, hF⟩ := hm
      go_wp2_with (at_delete; refine wpList_delete_own _ rfl _ _ 29 23 rfl 3 gKey Tryd.underlying29 _ w.heap.size 64 D rfl hown _ _ rfl (keyOf_int_mk Tryd.underlying23 (u32wf x hx)) ?_; intro w1 hown1 hturn1)
      have hg := hturn1.grown
      go_roundw
      case rel => 
        refine ⟨k + 1, by go_num, hlt, ?_, hb.grown hg hb.size (fun j e => by cases e; exact Nat.le_refl _), by have := hg.size; omega⟩
        rw [HT.out, lessF_snoc]
        exact ⟨_, hown1, hF.del x⟩
      case measure => simp [intOf]; omega
    · have hd : decide ((k : Int) < J.length) = false := by simp; omega
      have he : J.take k = J := List.take_of_length_le (by omega)
      rw [he] at hm
      have hG := granting_any w.heap.size (lessF f J) wr hm
      go_wp2_with (go_at_call 22; with_reducible refine hG.mono ?_; rintro e wz ⟨rfl, hbz, hgz⟩)
      go_ret2
      exact ⟨_, rfl, by omega, hb.trans (hbz.mono (by omega)), hgz⟩
end Go.Proofs.YtcmfephbhbgoiaaDoor
