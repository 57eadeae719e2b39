import Derived.Test.YtncankiaobioaaaDoorWWri
import Derived.Test.YtncankiaobioaaaDoorISzs
namespace Go.Proofs.YtncankiaobioaaaDoor
open Go.RowKit
set_option maxRecDepth 100000

def lnS (op arg : Nat) : ByteArray := if erV op arg = 0 then lineS op arg else ⟨#[]⟩
set_option maxHeartbeats 2000000 in
theorem line_any (op arg : Nat) (w : World) (h : op < 256) (ha : arg < 4294967296) (ht : Tb w) :
    Calls Tryd.prog 4 #[.agg #[.int .u8 op, .int .u32 arg]] w fun e w' => e = .returned (.tuple #[.string (lnS op arg), .int .i64 (erV op arg)]) ∧ Below w.heap.size w w' := by
  have hC := fun w => check_any op arg w h
  have hW := fun w (ht : Tb w) => written_any op arg w h ha ht
  unfold lnS
  generalize lineS op arg = S at *
  generalize erV op arg = ev at *
  by_cases h0 : ev = 0
  · subst h0
    rw [if_pos rfl]
    go_enter Tryd.func4, Tryd.ntmps4
    go_wp2_with (first
      | (go_at_call 6; refine (hC _).mono ?_; rintro e wq ⟨rfl, hq⟩; have htq : Tb wq := ht.below (bt (bel (Below.refl _ _)) hq) (Nat.le_refl _); have c0 := cellB hq 0; have c1 := cellB hq 1; simp only [List.getElem?_toArray, List.getElem?_cons_zero, List.getElem?_cons_succ] at c0 c1; simp only [Int.natCast_zero])
      | (go_at_call 7; refine (hW _ htq).mono ?_; rintro e wr ⟨rfl, hr⟩))
    refine bodyPost_ret (results_tmp2 rfl _ _ _) rfl ?_
    exact ⟨rfl, bt (bt (bel (Below.refl _ _)) hq) hr⟩
  · rw [if_neg h0]
    have h0I : ¬ (ev : Int) = 0 := by omega
    go_enter Tryd.func4, Tryd.ntmps4
    go_wp2_with (go_at_call 6; refine (hC _).mono ?_; rintro e wq ⟨rfl, hq⟩)
    refine bodyPost_ret (results_tmp2 rfl _ _ _) rfl ?_
    exact ⟨rfl, bt (bel (Below.refl _ _)) hq⟩
set_option maxHeartbeats 2000000 in
theorem rline_any (op arg : Nat) (w : World) (h : op < 256) (ha : arg < 4294967296) :
    Calls Tryd.prog 5 #[.agg #[.int .u8 op, .int .u32 arg]] w fun e w' => e = .returned (.tuple #[.string (lnS op arg), .int .i64 (erV op arg)]) ∧ Below w.heap.size w w' := by
  have hC := fun w => rcheck_any op arg w h
  have hI := fun w => rinfo_any op w h
  have hS := fun w => dsigned_any arg w ha
  have hl1 := opWd_small op
  have hl2 : (str (Lib.itoa (sgd arg))).size ≤ 21 := by rw [str_size]; exact itoa_len arg ha
  unfold lnS lineS
  generalize opWd op = a0 at *
  generalize opWi op = a1 at *
  generalize opMo op = a2 at *
  generalize opTa op = a3 at *
  generalize opGi op = a4 at *
  generalize opKi op = a5 at *
  generalize isOp op = a6 at *
  generalize str (Lib.itoa (sgd arg)) = S at *
  generalize erV op arg = ev at *
  by_cases h0 : ev = 0
  · subst h0
    rw [if_pos rfl]
    by_cases h1 : a1 = 0
    · subst h1
      rw [if_pos rfl]
      go_enter Tryd.func5, Tryd.ntmps5
      go_wp2_with (first
        | (go_at_call 8; refine (hC _).mono ?_; rintro e wq ⟨rfl, hq⟩; have c0 := cellB hq 0; simp only [List.getElem?_toArray, List.getElem?_cons_zero] at c0; simp only [Int.natCast_zero])
        | (go_at_call 9; refine (hI _).mono ?_; rintro e wr ⟨rfl, hr⟩))
      refine bodyPost_ret (results_tmp2 rfl _ _ _) rfl ?_
      exact ⟨rfl, bel (bt (bt (bel (Below.refl _ _)) hq) hr)⟩
    · rw [if_neg h1]
      have h1I : ¬ (a1 : Int) = 0 := by omega
      go_enter Tryd.func5, Tryd.ntmps5
      go_wp2_with (first
        | (go_at_call 8; refine (hC _).mono ?_; rintro e wq ⟨rfl, hq⟩; have c0 := cellB hq 0; simp only [List.getElem?_toArray, List.getElem?_cons_zero] at c0; simp only [Int.natCast_zero])
        | (go_at_call 9; refine (hI _).mono ?_; rintro e wr ⟨rfl, hr⟩))
      clear hI hC
      have hq1 : wq.cell? ⟨w.heap.size, 1, none⟩ = some (.int .u32 arg) := cellB hq 1
      have hqs : w.heap.size < wq.heap.size := by have := hq.size; simp at this; omega
      have hBq : Below w.heap.size w wq := bt (bel (Below.refl _ _)) hq
      have hrs := hr.size
      have hr1 : wr.cell? ⟨w.heap.size, 1, none⟩ = some (.int .u32 arg) := (hr.cell hqs).trans hq1
      have hBr : Below w.heap.size w wr := bt hBq hr
      clear hq hr c0 hq1 hBq
      generalize hW0 : wr.alloc (Obj.cells #[Value.string a0, Value.int IntKind.i64 (a1 : Int), Value.int IntKind.u32 (a2 : Int), Value.int IntKind.i64 (a3 : Int), Value.int IntKind.i64 (a4 : Int), Value.int IntKind.u8 (a5 : Int)] 34) = W0
      have hc1 : W0.cell? ⟨w.heap.size, 1, none⟩ = some (.int .u32 arg) := by rw [← hW0]; exact (((Below.refl wr.heap.size wr).alloc (Nat.le_refl _) _).cell (by show w.heap.size < _; omega)).trans hr1
      have hc2 : W0.cell? ⟨wr.heap.size, 0, none⟩ = some (.string a0) := by rw [← hW0]; simp
      have hB0 : Below w.heap.size w W0 := by rw [← hW0]; exact bel hBr
      have hs0 : W0.heap.size = wr.heap.size + 1 := by rw [← hW0]; simp
      clear hW0 hr1 hBr
      have hsz0 : (⟨#[32]⟩ : ByteArray).size = 1 := rfl
      have hsz1 : (a0 ++ (⟨#[32]⟩ : ByteArray)).size = a0.size + 1 := by rw [ByteArray.size_append]; rfl
      have hn1 : ¬ 9223372036854775807 < a0.size + 1 := by omega
      have hn2 : ¬ 9223372036854775807 < a0.size + 1 + S.size := by omega
      have HB : Below W0.heap.size W0 W0 := Below.refl _ _
      have gW : ∀ w', Below W0.heap.size W0 w' → (w'.cell? ⟨w.heap.size, 1, none⟩ = some (.int .u32 arg) ∧ w'.cell? ⟨wr.heap.size, 0, none⟩ = some (.string a0)) := fun w' h => ⟨(h.cell (by show w.heap.size < _; omega)).trans hc1, (h.cell (by show wr.heap.size < _; omega)).trans hc2⟩
      go_region_held3 (fun w' => w'.cell? ⟨w.heap.size, 1, none⟩ = some (.int .u32 arg) ∧ w'.cell? ⟨wr.heap.size, 0, none⟩ = some (.string a0)) ((refine gW _ ?_; (repeat (first | exact HB | exact Below.refl _ _ | with_reducible refine bel ?_ | with_reducible refine Below.drew ?_)))) (first
        | (go_at_call 10; with_reducible refine (hS _).mono ?_; rintro e wz ⟨rfl, hz⟩; replace HB : Below W0.heap.size W0 wz := bt (by (repeat (first | exact HB | exact Below.refl _ _ | with_reducible refine bel ?_ | with_reducible refine Below.drew ?_))) hz; clear hz)
        | fail)
      go_wp2
      refine bodyPost_ret (results_tmp2 rfl _ _ _) rfl ?_
      exact ⟨rfl, bt hB0 HB⟩
  · rw [if_neg h0]
    have h0I : ¬ (ev : Int) = 0 := by omega
    go_enter Tryd.func5, Tryd.ntmps5
    go_wp2_with (go_at_call 8; refine (hC _).mono ?_; rintro e wq ⟨rfl, hq⟩)
    refine bodyPost_ret (results_tmp2 rfl _ _ _) rfl ?_
    exact ⟨rfl, bt (bel (Below.refl _ _)) hq⟩
end Go.Proofs.YtncankiaobioaaaDoor
