import Derived.Test.YtncankiaobioaaaDoorWSig
import Derived.Test.YtncankiaobioaaaDoorISiz
import Derived.Deep.RegionHeld3
namespace Go.Proofs.YtncankiaobioaaaDoor
open Go.RowKit
set_option maxRecDepth 100000

/-- a line -/
def lineS (op arg : Nat) : ByteArray := if opWi op = 0 then opWd op else opWd op ++ ⟨#[32]⟩ ++ str (Lib.itoa (sgd arg))
theorem opWd_small (op : Nat) : (opWd op).size ≤ 100 := by
  by_cases h : 1 ≤ op ∧ op ≤ 59
  · have : ∀ k, k < 60 → (opWd k).size ≤ 100 := by decide +kernel
    exact this op (by omega)
  · rw [(opT_zero op h).1]; decide
theorem join3 (a b c : ByteArray) : (⟨(Lib.join ([a, b, c].map (·.data.toList)) (⟨#[]⟩ : ByteArray).data.toList).toArray⟩ : ByteArray) = a ++ b ++ c := by
  apply ByteArray.ext
  simp [Lib.join, List.intercalate]
theorem join3_len (a b c : ByteArray) : (Lib.join ([a, b, c].map (·.data.toList)) (⟨#[]⟩ : ByteArray).data.toList).length = a.size + b.size + c.size := by
  have e : ∀ x : ByteArray, x.size = x.data.toList.length := fun x => by rw [Array.length_toList]; rfl
  rw [e a, e b, e c]
  simp only [Lib.join, List.intercalate, List.map_cons, List.map_nil, List.intersperse, List.flatten_cons, List.flatten_nil, List.length_append, List.length_nil]
  omega
set_option maxHeartbeats 1000000 in
theorem joined_any (bk c : Nat) (x y z : ByteArray) (w : World) (h0 : w.cell? ⟨bk, 0, none⟩ = some (.string x)) (h1 : w.cell? ⟨bk, 1, none⟩ = some (.string y)) (h2 : w.cell? ⟨bk, 2, none⟩ = some (.string z)) (hbk : bk < w.heap.size) (hc : 3 ≤ c) (hl : x.size + y.size + z.size ≤ 1000) :
    Calls Tryd.prog 13 #[.slice (some ⟨bk, 0, none⟩) 3 c] w fun e w' => e = .returned (.string (x ++ y ++ z)) ∧ Below w.heap.size w w' := by
  have HJ := Tryd.strings_Join bk 0 c [x, y, z] ⟨#[]⟩ w (by
    intro j u hj
    match j, hj with
    | 0, hj => simp at hj; subst hj; simpa using h0
    | 1, hj => simp at hj; subst hj; simpa using h1
    | 2, hj => simp at hj; subst hj; simpa using h2) hbk (by simp) (by simpa using hc) (by rw [join3_len]; omega)
  rw [join3] at HJ
  go_enter Tryd.func13, Tryd.ntmps13
  go_wp2_with (go_at_call 19; refine HJ.mono ?_; rintro e w1 ⟨rfl, hb⟩)
  go_ret
  exact ⟨rfl, hb⟩
set_option maxHeartbeats 2000000 in
theorem written_any (op arg : Nat) (w : World) (h : op < 256) (ha : arg < 4294967296) (ht : Tb w) :
    Calls Tryd.prog 7 #[.agg #[.int .u8 op, .int .u32 arg]] w fun e w' => e = .returned (.string (lineS op arg)) ∧ Below w.heap.size w w' := by
  have hI := fun w => info_any op w h
  have hS := fun w (ht : Tb w) => signed_any arg w ha ht
  have hJ := joined_any
  have hl1 := opWd_small op
  have hl2 : (str (Lib.itoa (sgd arg))).size ≤ 21 := by rw [str_size]; exact itoa_len arg ha
  unfold lineS
  generalize opWd op = a0 at *
  generalize opWi op = a1 at *
  generalize opMo op = a2 at *
  generalize opTa op = a3 at *
  generalize opGi op = a4 at *
  generalize opKi op = a5 at *
  generalize isOp op = a6 at *
  generalize str (Lib.itoa (sgd arg)) = S at *
  by_cases h0 : a1 = 0
  · subst h0
    rw [if_pos rfl]
    go_enter Tryd.func7, Tryd.ntmps7
    go_wp2_with (go_at_call 12; refine (hI _).mono ?_; rintro e wq ⟨rfl, hq⟩)
    go_ret
    exact ⟨rfl, bel (bt (bel (Below.refl _ _)) hq)⟩
  · rw [if_neg h0]
    have h0I : ¬ (a1 : Int) = 0 := by omega
    go_enter Tryd.func7, Tryd.ntmps7
    go_wp2_with (go_at_call 12; refine (hI _).mono ?_; rintro e wq ⟨rfl, hq⟩)
    clear hI
    have htq : Tb wq := ht.below (bt (bel (Below.refl _ _)) hq) (Nat.le_refl _)
    have hq1 : wq.cell? ⟨w.heap.size, 1, none⟩ = some (.int .u32 arg) := cellB hq 1
    have hqs : w.heap.size < wq.heap.size := by have := hq.size; simp at this; omega
    have hBq : Below w.heap.size w wq := bt (bel (Below.refl _ _)) hq
    clear hq ht
    generalize hW0 : wq.alloc (Obj.cells #[Value.string a0, Value.int IntKind.i64 (a1 : Int), Value.int IntKind.u32 (a2 : Int), Value.int IntKind.i64 (a3 : Int), Value.int IntKind.i64 (a4 : Int), Value.int IntKind.u8 (a5 : Int)] 34) = W0
    have hc1 : W0.cell? ⟨w.heap.size, 1, none⟩ = some (.int .u32 arg) := by rw [← hW0]; exact (((Below.refl wq.heap.size wq).alloc (Nat.le_refl _) _).cell hqs).trans hq1
    have hc2 : W0.cell? ⟨wq.heap.size, 0, none⟩ = some (.string a0) := by rw [← hW0]; simp
    have ht0 : Tb W0 := by rw [← hW0]; exact htq.below ((Below.refl wq.heap.size wq).alloc (Nat.le_refl _) _) (Nat.le_refl _)
    have hB0 : Below w.heap.size w W0 := by rw [← hW0]; exact bel hBq
    have hs0 : W0.heap.size = wq.heap.size + 1 := by rw [← hW0]; simp
    clear hW0 htq hq1 hBq
    have hl3 : a0.size + (⟨#[32]⟩ : ByteArray).size + S.size ≤ 1000 := by have : (⟨#[32]⟩ : ByteArray).size = 1 := rfl; omega
    have HB : Below W0.heap.size W0 W0 := Below.refl _ _
    have gW : ∀ w', Below W0.heap.size W0 w' → (w'.cell? ⟨w.heap.size, 1, none⟩ = some (.int .u32 arg) ∧ w'.cell? ⟨wq.heap.size, 0, none⟩ = some (.string a0)) := fun w' h => ⟨(h.cell (by show w.heap.size < _; omega)).trans hc1, (h.cell (by show wq.heap.size < _; omega)).trans hc2⟩
    go_region_held3 (fun w' => w'.cell? ⟨w.heap.size, 1, none⟩ = some (.int .u32 arg) ∧ w'.cell? ⟨wq.heap.size, 0, none⟩ = some (.string a0)) ((refine gW _ ?_; (repeat (first | exact HB | exact Below.refl _ _ | with_reducible refine bel ?_ | with_reducible refine Below.drew ?_)))) (first
      | (go_at_call 14; with_reducible refine (hS _ (ht0.below (show Below W0.heap.size W0 _ from by (repeat (first | exact HB | exact Below.refl _ _ | with_reducible refine bel ?_ | with_reducible refine Below.drew ?_))) (Nat.le_refl _))).mono ?_; rintro e wr ⟨rfl, hr⟩; replace HB : Below W0.heap.size W0 wr := bt (by (repeat (first | exact HB | exact Below.refl _ _ | with_reducible refine bel ?_ | with_reducible refine Below.drew ?_))) hr; clear hr)
      | (go_at_call 13; with_reducible refine (hJ _ _ a0 ⟨#[32]⟩ S _ (by simp) (by simp) (by simp) (by simp) (by simp) hl3).mono ?_; rintro e wr ⟨rfl, hr⟩; replace HB : Below W0.heap.size W0 wr := bt (by (repeat (first | exact HB | exact Below.refl _ _ | with_reducible refine bel ?_ | with_reducible refine Below.drew ?_))) hr; clear hr))
    go_wp2
    go_ret
    exact ⟨rfl, bt hB0 HB⟩
end Go.Proofs.YtncankiaobioaaaDoor
