import Derived.Test.YtijkoblmoofhpaaIDec
import Derived.Test.YtijkoblmoofhpaaIByW
import Derived.Laws.BytesArg
namespace Go.Proofs.Ytijkoblmoofhpaa
open Go.RowKit

theorem kE1 (W : World) : Calls Try.prog 16 #[.slice (some ⟨W.heap.size, 0, none⟩) 3 3] (W.alloc (.cells #[.int .u8 3, .int .u32 8, .int .u8 8, .int .u32 258, .int .u8 4, .int .u32 8] 34)) fun e w' => ∃ v, e = .returned (.tuple #[v, .int .i64 0, .int .i64 0]) ∧ w'.ownsRow W.heap.size 5 1 v 11 (bv [3, 8, 0, 8, 2, 1, 0, 0, 4, 8, 0]) ∧ Below W.heap.size W w' := by
  have own := World.ownsRow_lit (size := 2) (base := W.heap.size) (e := 34) W #[.int .u8 3, .int .u32 8, .int .u8 8, .int .u32 258, .int .u8 4, .int .u32 8] 3 (Nat.le_refl _) (by decide) rfl
  have crd := own_crd2 (L := [(3, 8), (8, 258), (4, 8)]) own
  refine (encode_any _ 3 [(3, 8), (8, 258), (4, 8)] _ (by decide) (by unfold Wfc; decide) crd).mono ?_
  have hB : encB [(3, 8), (8, 258), (4, 8)] = [3, 8, 0, 8, 2, 1, 0, 0, 4, 8, 0] := by decide +kernel
  have hI : encI [(3, 8), (8, 258), (4, 8)] = 0 := by decide +kernel
  have hX : encX [(3, 8), (8, 258), (4, 8)] = 0 := by decide +kernel
  rintro e w' ⟨v, rfl, h1, h2⟩
  rw [hB] at h1
  refine ⟨v, by rw [hI, hX]; rfl, own_lower h1 (by simp), bt (bel (Below.refl _ _)) h2⟩
theorem kE2 (W : World) : Calls Try.prog 16 #[.slice (some ⟨W.heap.size, 0, none⟩) 3 3] (W.alloc (.cells #[.int .u8 1, .int .u32 0, .int .u8 12, .int .u32 15, .int .u8 0, .int .u32 0] 34)) fun e w' => ∃ v, e = .returned (.tuple #[v, .int .i64 1, .int .i64 71]) ∧ w'.ownsRow W.heap.size 5 1 v 0 (bv []) ∧ Below W.heap.size W w' := by
  have own := World.ownsRow_lit (size := 2) (base := W.heap.size) (e := 34) W #[.int .u8 1, .int .u32 0, .int .u8 12, .int .u32 15, .int .u8 0, .int .u32 0] 3 (Nat.le_refl _) (by decide) rfl
  have crd := own_crd2 (L := [(1, 0), (12, 15), (0, 0)]) own
  refine (encode_any _ 3 [(1, 0), (12, 15), (0, 0)] _ (by decide) (by unfold Wfc; decide) crd).mono ?_
  have hB : encB [(1, 0), (12, 15), (0, 0)] = [] := by decide +kernel
  have hI : encI [(1, 0), (12, 15), (0, 0)] = 1 := by decide +kernel
  have hX : encX [(1, 0), (12, 15), (0, 0)] = 71 := by decide +kernel
  rintro e w' ⟨v, rfl, h1, h2⟩
  rw [hB] at h1
  refine ⟨v, by rw [hI, hX]; rfl, own_lower h1 (by simp), bt (bel (Below.refl _ _)) h2⟩
theorem kD1 (W : World) : Calls Try.prog 17 #[.slice (some ⟨W.heap.size, 0, none⟩) 3 3] (W.alloc (.cells #[.int .u8 1, .int .u8 12, .int .u8 15] 5)) fun e w' => ∃ a n c, e = .returned (.tuple #[.slice a n c, .int .i64 1, .int .i64 71]) ∧ Below W.heap.size W w' := by
  have own := World.ownsRow_lit (size := 1) (base := W.heap.size) (e := 5) W #[.int .u8 1, .int .u8 12, .int .u8 15] 3 (Nat.le_refl _) (by decide) rfl
  have rd := reads_own (zs := [1, 12, 15]) (L := [1, 12, 15]) own (by decide)
  refine (decode_any _ 3 [1, 12, 15] _ (by decide) (by decide) (by decide) rd).mono ?_
  have hI : dcI [1, 12, 15] = 1 := by decide +kernel
  have hX : dcX [1, 12, 15] = 71 := by decide +kernel
  rintro e w' ⟨v, rfl, h1, h2⟩
  obtain ⟨a, c, rfl⟩ := own_any h1
  exact ⟨a, _, c, by rw [hI, hX]; rfl, bt (bel (Below.refl _ _)) h2⟩
theorem kD2 (W : World) : Calls Try.prog 17 #[.slice (some ⟨W.heap.size, 0, none⟩) 4 4] (W.alloc (.cells #[.int .u8 1, .int .u8 8, .int .u8 2, .int .u8 1] 5)) fun e w' => ∃ a n c, e = .returned (.tuple #[.slice a n c, .int .i64 1, .int .i64 72]) ∧ Below W.heap.size W w' := by
  have own := World.ownsRow_lit (size := 1) (base := W.heap.size) (e := 5) W #[.int .u8 1, .int .u8 8, .int .u8 2, .int .u8 1] 4 (Nat.le_refl _) (by decide) rfl
  have rd := reads_own (zs := [1, 8, 2, 1]) (L := [1, 8, 2, 1]) own (by decide)
  refine (decode_any _ 4 [1, 8, 2, 1] _ (by decide) (by decide) (by decide) rd).mono ?_
  have hI : dcI [1, 8, 2, 1] = 1 := by decide +kernel
  have hX : dcX [1, 8, 2, 1] = 72 := by decide +kernel
  rintro e w' ⟨v, rfl, h1, h2⟩
  obtain ⟨a, c, rfl⟩ := own_any h1
  exact ⟨a, _, c, by rw [hI, hX]; rfl, bt (bel (Below.refl _ _)) h2⟩
theorem kD3 (W : World) : Calls Try.prog 17 #[.slice (some ⟨W.heap.size, 0, none⟩) 3 3] (W.alloc (.cells #[.int .u8 1, .int .u8 0, .int .u8 8] 5)) fun e w' => ∃ a n c, e = .returned (.tuple #[.slice a n c, .int .i64 1, .int .i64 70]) ∧ Below W.heap.size W w' := by
  have own := World.ownsRow_lit (size := 1) (base := W.heap.size) (e := 5) W #[.int .u8 1, .int .u8 0, .int .u8 8] 3 (Nat.le_refl _) (by decide) rfl
  have rd := reads_own (zs := [1, 0, 8]) (L := [1, 0, 8]) own (by decide)
  refine (decode_any _ 3 [1, 0, 8] _ (by decide) (by decide) (by decide) rd).mono ?_
  have hI : dcI [1, 0, 8] = 1 := by decide +kernel
  have hX : dcX [1, 0, 8] = 70 := by decide +kernel
  rintro e w' ⟨v, rfl, h1, h2⟩
  obtain ⟨a, c, rfl⟩ := own_any h1
  exact ⟨a, _, c, by rw [hI, hX]; rfl, bt (bel (Below.refl _ _)) h2⟩
theorem kconv {w : World} {B g c : Nat} (h : w.ownsRow B 5 1 (.slice (some ⟨g, 0, none⟩) 11 c) 11 (bv [3, 8, 0, 8, 2, 1, 0, 0, 4, 8, 0])) : (convert 40 9 (.slice (some ⟨g, 0, none⟩) 11 c)).run Try.prog w = .ok (.string ⟨#[3, 8, 0, 8, 2, 1, 0, 0, 4, 8, 0]⟩) w := by
  have := run_convert_bytes_arg (P := Try.prog) w 40 5 Try.underlying40 Try.underlying5 g 0 11 c [3, 8, 0, 8, 2, 1, 0, 0, 4, 8, 0] rfl (fun i hi => own_cell (L := [3, 8, 0, 8, 2, 1, 0, 0, 4, 8, 0]) h hi) 9 Try.underlying9
  rw [this]; rfl
set_option maxRecDepth 100000 in
set_option maxHeartbeats 800000 in
theorem knownLaw (w : World) : Calls Try.prog 7 #[] w fun e w' => e = .returned (.bool true) ∧ Below w.heap.size w w' := by
  have kI : ∀ w, Calls Try.prog 8 #[.int .u8 12] w fun e w' => e = .returned (.tuple #[.agg #[.string ⟨#[97, 114, 103]⟩, .int .i64 1, .int .u32 14, .int .i64 1, .int .i64 0, .int .u8 1], .bool true]) ∧ Below w.heap.size w w' := fun w => by
    have := info_any 12 w (by decide)
    rw [show opWd 12 = ⟨#[97, 114, 103]⟩ from rfl, show opWi 12 = 1 from rfl, show opMo 12 = 14 from rfl, show opTa 12 = 1 from rfl, show opGi 12 = 0 from rfl, show opKi 12 = 1 from rfl, show isOp 12 = true from rfl] at this
    exact this
  have kB1 : ∀ w, Calls Try.prog 10 #[.string ⟨#[103, 116, 102]⟩] w fun e w' => e = .returned (.tuple #[.int .u8 27, .bool true]) ∧ Below w.heap.size w w' := fun w => by
    have := byWord_any ⟨#[103, 116, 102]⟩ w
    rw [show byV ⟨#[103, 116, 102]⟩ = 27 from by decide +kernel] at this
    exact this
  have kB2 : ∀ w, Calls Try.prog 10 #[.string ⟨#[71, 116, 102]⟩] w fun e w' => e = .returned (.tuple #[.int .u8 0, .bool false]) ∧ Below w.heap.size w w' := fun w => by
    have := byWord_any ⟨#[71, 116, 102]⟩ w
    rw [show byV ⟨#[71, 116, 102]⟩ = 0 from by decide +kernel] at this
    exact this
  have kC1 : ∀ w, Calls Try.prog 12 #[.agg #[.int .u8 3, .int .u32 65536]] w fun e w' => e = .returned (.int .i64 71) ∧ Below w.heap.size w w' := fun w => by
    have := check_any 3 65536 w (by decide)
    rw [show erV 3 65536 = 71 from rfl] at this
    exact this
  have kC2 : ∀ w, Calls Try.prog 12 #[.agg #[.int .u8 10, .int .u32 1]] w fun e w' => e = .returned (.int .i64 71) ∧ Below w.heap.size w w' := fun w => by
    have := check_any 10 1 w (by decide)
    rw [show erV 10 1 = 71 from rfl] at this
    exact this
  have kC3 : ∀ w, Calls Try.prog 12 #[.agg #[.int .u8 60, .int .u32 0]] w fun e w' => e = .returned (.int .i64 70) ∧ Below w.heap.size w w' := fun w => by
    have := check_any 60 0 w (by decide)
    rw [show erV 60 0 = 70 from rfl] at this
    exact this
  have HB : Below w.heap.size w w := Below.refl _ _
  go_enter Try.func7, Try.ntmps7
  go_wp2_with (first
    | (go_at_call 8; with_reducible refine (kI _).mono ?_; rintro e w1 ⟨rfl, hq⟩; replace HB := bt HB hq; clear hq)
    | (go_at_call 10; with_reducible refine (kB1 _).mono ?_; rintro e w1 ⟨rfl, hq⟩; replace HB := (by first | exact bt HB hq | exact bt (bel HB) hq); clear hq)
    | (go_at_call 10; with_reducible refine (kB2 _).mono ?_; rintro e w1 ⟨rfl, hq⟩; replace HB := (by first | exact bt HB hq | exact bt (bel HB) hq); clear hq)
    | (go_at_call 12; with_reducible refine (kC1 _).mono ?_; rintro e w1 ⟨rfl, hq⟩; replace HB := (by first | exact bt HB hq | exact bt (bel HB) hq); clear hq)
    | (go_at_call 12; with_reducible refine (kC2 _).mono ?_; rintro e w1 ⟨rfl, hq⟩; replace HB := (by first | exact bt HB hq | exact bt (bel HB) hq); clear hq)
    | (go_at_call 12; with_reducible refine (kC3 _).mono ?_; rintro e w1 ⟨rfl, hq⟩; replace HB := (by first | exact bt HB hq | exact bt (bel HB) hq); clear hq)
    | (go_at_call 16; with_reducible refine (kE1 _).mono ?_; rintro e w1 ⟨v, rfl, own, hq⟩; obtain ⟨g, c, rfl, _⟩ := own_form own (by decide); have hcv := kconv own; replace HB := (by first | exact bt HB hq | exact bt (bel HB) hq); clear hq own)
    | (go_at_call 16; with_reducible refine (kE2 _).mono ?_; rintro e w1 ⟨v, rfl, own, hq⟩; obtain ⟨a, c, rfl⟩ := own_any own; replace HB := (by first | exact bt HB hq | exact bt (bel HB) hq); clear hq own)
    | (go_at_call 17; with_reducible refine (kD1 _).mono ?_; rintro e w1 ⟨a, n, c, rfl, hq⟩; replace HB := (by first | exact bt HB hq | exact bt (bel HB) hq); clear hq)
    | (go_at_call 17; with_reducible refine (kD2 _).mono ?_; rintro e w1 ⟨a, n, c, rfl, hq⟩; replace HB := (by first | exact bt HB hq | exact bt (bel HB) hq); clear hq)
    | (go_at_call 17; with_reducible refine (kD3 _).mono ?_; rintro e w1 ⟨a, n, c, rfl, hq⟩; replace HB := (by first | exact bt HB hq | exact bt (bel HB) hq); clear hq))
  go_ret
  exact ⟨rfl, HB⟩
end Go.Proofs.Ytijkoblmoofhpaa
