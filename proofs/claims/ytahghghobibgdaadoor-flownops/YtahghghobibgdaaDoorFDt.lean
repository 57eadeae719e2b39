import Derived.Test.YtahghghobibgdaaDoorFDp
import Derived.Test.YtahghghobibgdaaDoorFCu
import Derived.Deep.AppendLies
namespace Go.Proofs.YtahghghobibgdaaDoor
open Go.RowKit Go.WideShapes Go.Shelf
set_option maxRecDepth 100000

/-- what flow.Depths leaves -/
def FlP (w : World) (L : List (Nat × Nat)) (J : List Nat) (e : Ending) (w' : World) : Prop :=
  Below w.heap.size w w' ∧ ((∃ i x : Nat, e = .returned (.tuple #[.slice none 0 0, .slice none 0 0, .int .i64 i, .int .i64 x]) ∧ x ≠ 0 ∧ FdB L J [] i x) ∨
    (FdG L J [] ∧ ∃ i x : Nat, e = .returned (.tuple #[.slice none 0 0, .slice none 0 0, .int .i64 i, .int .i64 x]) ∧ (x = 140 ∨ x = 141 ∨ x = 142 ∨ x = 143) ∧ ∃ k, k < (bgs L).length ∧ ∀ D', ¬ Sol L J k D') ∨
    (FdG L J [] ∧ ∃ (gd cp : Nat) (nv : Value) (D N : List Int), e = .returned (.tuple #[.slice (some ⟨gd, 0, none⟩) D.length cp, nv, .int .i64 0, .int .i64 0]) ∧ DpW w' w.heap.size gd cp D ∧ w'.ownsRow w.heap.size 3 1 nv N.length (N.map fun z => Value.int .i64 z) ∧ DpK L J D N (bgs L).length))
theorem wfc_op {L : List (Nat × Nat)} (h : Wfc L) : ∀ i, i < L.length → opL L i < 256 := fun _ hi => (h.at hi).1
set_option maxHeartbeats 1000000 in
theorem fdepths_any (ao aj : Option Addr) (cap capj : Nat) (L : List (Nat × Nat)) (J : List Nat) (w : World) (hn : L.length ≤ 9223372036854775807) (hJn : J.length ≤ 9223372036854775807) (hwf : Wfc L) (hJ : ∀ z ∈ J, z < 4294967296)
    (hr : CRd w ao L w.heap.size) (hrJ : JRd w aj J w.heap.size) (hT : TabW w) (hp : 0 < w.heap.size) :
    Calls Tryd.prog 7 #[.slice ao L.length cap, .slice aj J.length capj] w (FlP w L J) := by
  have HC : Calls Tryd.prog 19 #[.slice ao L.length cap, .slice aj J.length capj] w fun e w' => Below w.heap.size w w' ∧ ((∃ i x : Nat, e = .returned (.tuple #[.pointer none, .int .i64 i, .int .i64 x]) ∧ x ≠ 0 ∧ FdB L J [] i x) ∨
    (∃ kc pp ta tc, e = .returned (.tuple #[.pointer (some ⟨kc, 0, none⟩), .int .i64 0, .int .i64 0]) ∧ ChS w' kc pp ta tc ao cap L J ∧ FdG L J [] ∧ w.heap.size ≤ kc)) := charted_any ao aj cap capj L J w hn hJn hwf hJ hr hrJ hT hp
  clear hr hrJ hT
  go_enter Tryd.func7, Tryd.ntmps7
  go_wp2_with fail
  refine HC.mono ?_
  rintro e w1 ⟨hb1, ⟨i1, x1, rfl, hx1, hfb⟩ | ⟨kc, pp, ta, tc, rfl, hS, hG, _⟩⟩
  · have hxI : ¬ (x1 : Int) = 0 := by omega
    have HF := hidS (And.intro hb1 (And.intro hx1 hfb))
    clear hb1 hx1 hfb HC
    go_wp2
    refine bodyPost_ret (v := .tuple #[.slice none 0 0, .slice none 0 0, .int .i64 i1, .int .i64 x1]) (by simp [results, Tryd.f7, go_sem]) rfl ⟨HF.out.1, .inl ⟨i1, x1, rfl, HF.out.2⟩⟩
  · have HD : Calls Tryd.prog 20 #[.pointer (some ⟨kc, 0, none⟩)] w1 fun e w' => Below w1.heap.size w1 w' ∧ ((∃ i x : Nat, e = .returned (.tuple #[.slice none 0 0, .slice none 0 0, .int .i64 i, .int .i64 x]) ∧ (x = 140 ∨ x = 141 ∨ x = 142 ∨ x = 143) ∧ ∃ k, k < (bgs L).length ∧ ∀ D', ¬ Sol L J k D') ∨
      (∃ (gd cp : Nat) (nv : Value) (D N : List Int), e = .returned (.tuple #[.slice (some ⟨gd, 0, none⟩) D.length cp, nv, .int .i64 0, .int .i64 0]) ∧ DpW w' w1.heap.size gd cp D ∧ w'.ownsRow w1.heap.size 3 1 nv N.length (N.map fun z => Value.int .i64 z) ∧ DpK L J D N (bgs L).length)) := depths_any hS hG (wfc_op hwf)
    have HF := hidS (And.intro hb1 hG)
    clear hb1 hG hS HC
    go_wp2_with fail
    refine HD.mono ?_
    rintro e w2 ⟨hb2, ⟨i2, x2, rfl, hx2, hno⟩ | ⟨gd, cp, nv, D, N, rfl, hDp, hNr, hK⟩⟩
    · have HE := hidS (And.intro hb2 (And.intro hx2 hno))
      clear hb2 hx2 hno HD
      go_wp2
      refine bodyPost_ret (v := .tuple #[.slice none 0 0, .slice none 0 0, .int .i64 i2, .int .i64 x2]) (by simp [results, Tryd.f7, go_sem]) rfl ⟨btP HF.out.1 HE.out.1, .inr (.inl ⟨HF.out.2, i2, x2, rfl, HE.out.2⟩)⟩
    · have HE := hidS (And.intro hb2 (And.intro hDp (And.intro hNr hK)))
      clear hb2 hDp hNr hK HD
      go_wp2
      refine bodyPost_ret (v := .tuple #[.slice (some ⟨gd, 0, none⟩) D.length cp, nv, .int .i64 0, .int .i64 0]) (by simp [results, Tryd.f7, go_sem]) rfl ⟨btP HF.out.1 HE.out.1, .inr (.inr ⟨HF.out.2, gd, cp, nv, D, N, rfl, own_base HE.out.2.1 HF.out.1.size, own_base HE.out.2.2.1 HF.out.1.size, HE.out.2.2.2⟩)⟩
theorem nil_eqW (a : Option Addr) (n c : Nat) (w : World) : (binOp .eql 23 (.slice a n c) (.slice none 0 0)).run Tryd.prog w = .ok (.bool a.isNone) w := by
  have e : binOp .eql 23 (.slice a n c) (.slice none 0 0) = (do pure (.bool (← Op.equal 23 (.slice a n c) (.slice none 0 0)))) := rfl
  rw [e, Sem.run_bind, run_equal_slice_nil w _ _ a n c Tryd.underlying23]
  rfl
end Go.Proofs.YtahghghobibgdaaDoor
