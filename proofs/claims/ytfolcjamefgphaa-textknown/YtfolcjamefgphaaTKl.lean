import Derived.Test.YtfolcjamefgphaaTKn
namespace Go.Proofs.Ytfolcjamefgphaa
open Go.RowKit
set_option maxRecDepth 100000

theorem show_lit (w : World) : Calls Try.prog 6 #[.slice (some ⟨w.heap.size, 0, none⟩) 5 5] (w.alloc (.cells #[.int .u8 97, .int .u8 34, .int .u8 0, .int .u8 49, .int .u8 255] 5)) fun e w' => e = .returned (.string ⟨#[34, 97, 92, 34, 92, 48, 49, 92, 120, 102, 102, 34]⟩) ∧ Below (w.alloc (.cells #[.int .u8 97, .int .u8 34, .int .u8 0, .int .u8 49, .int .u8 255] 5)).heap.size (w.alloc (.cells #[.int .u8 97, .int .u8 34, .int .u8 0, .int .u8 49, .int .u8 255] 5)) w' := by
  have h := show_any (some ⟨w.heap.size, 0, none⟩) 5 [97, 34, 0, 49, 255] (w.alloc (.cells #[.int .u8 97, .int .u8 34, .int .u8 0, .int .u8 49, .int .u8 255] 5)) (by decide) (by decide) (fun _ => ⟨_, _, rfl, by simp, fun j hj => by
    have hj2 : j < 5 := hj
    match j, hj2 with
    | 0, _ => simp
    | 1, _ => simp
    | 2, _ => simp
    | 3, _ => simp
    | 4, _ => simp⟩)
  have e : strOfNums (shT [97, 34, 0, 49, 255] ([97, 34, 0, 49, 255] : List Int).length ++ [34]) = ⟨#[34, 97, 92, 34, 92, 48, 49, 92, 120, 102, 102, 34]⟩ := kV6
  rw [e] at h
  exact h
theorem guest_lit (w : World) : Calls Try.prog 9 #[.slice (some ⟨w.heap.size, 0, none⟩) 6 6] (w.alloc (.cells #[.int .u8 104, .int .u8 105, .int .u8 7, .int .u8 255, .int .u8 0, .int .u8 65] 5)) fun e w' => e = .returned (.string ⟨#[104, 105, 63, 63]⟩) ∧ Below (w.alloc (.cells #[.int .u8 104, .int .u8 105, .int .u8 7, .int .u8 255, .int .u8 0, .int .u8 65] 5)).heap.size (w.alloc (.cells #[.int .u8 104, .int .u8 105, .int .u8 7, .int .u8 255, .int .u8 0, .int .u8 65] 5)) w' := by
  have h := guest_any (some ⟨w.heap.size, 0, none⟩) 6 [104, 105, 7, 255, 0, 65] (w.alloc (.cells #[.int .u8 104, .int .u8 105, .int .u8 7, .int .u8 255, .int .u8 0, .int .u8 65] 5)) (by decide) (by decide) (by decide) (fun _ => ⟨_, _, rfl, by simp, fun j hj => by
    have hj2 : j < 6 := hj
    match j, hj2 with
    | 0, _ => simp
    | 1, _ => simp
    | 2, _ => simp
    | 3, _ => simp
    | 4, _ => simp
    | 5, _ => simp⟩)
  rw [kV12] at h
  exact h
theorem k_num : strOfNums [195, 169, 65] = ⟨#[195, 169, 65]⟩ := by kernel_rfl
theorem own_conv {w1 : World} {B : Nat} {v : Value} (h : w1.ownsRow B 5 1 v 3 (bv [195, 169, 65])) : ∃ g cap, v = .slice (some ⟨g, 0, none⟩) 3 cap ∧ (convert 32 9 (.slice (some ⟨g, 0, none⟩) 3 cap)).run Try.prog w1 = .ok (.string ⟨#[195, 169, 65]⟩) w1 := by
  have h' := h
  rcases h.2 with ⟨_, hz⟩ | ⟨g, cap, cur, rfl, _⟩
  · omega
  · refine ⟨g, cap, rfl, ?_⟩
    have := run_convert_bytes_arg (P := Try.prog) w1 32 5 Try.underlying32 Try.underlying5 g 0 3 cap [195, 169, 65] rfl (fun i hi => own_cell (L := [195, 169, 65]) h' hi) 9 Try.underlying9
    rw [k_num] at this
    exact this
theorem kx1 : (⟨#[120, 49, 32, 61, 32, 48, 120, 49, 101, 43, 51, 32, 35, 32, 115, 111]⟩ : ByteArray).extract 5 9 = ⟨#[48, 120, 49, 101]⟩ := by kernel_rfl
theorem kx2 : (⟨#[49, 101, 43, 51, 46, 53]⟩ : ByteArray).extract 0 6 = ⟨#[49, 101, 43, 51, 46, 53]⟩ := by kernel_rfl
set_option maxHeartbeats 4000000 in
theorem known_any (w : World) : Calls Try.prog 3 #[] w fun e w' => e = .returned (.bool true) ∧ Below w.heap.size w w' := by
  have hW : ∀ w, Calls Try.prog 4 #[.string ⟨#[97, 98, 10, 99, 195, 169, 33]⟩, .int .i64 6] w fun e w' => e = .returned (.tuple #[.int .i64 2, .int .i64 3, .int .i64 0]) ∧ Below w.heap.size w w' := fun w => by
    have h := where_any kS0 6 w (by decide) (by decide)
    rw [kV0] at h
    exact h
  have hT1 := fun w => tok_two ⟨#[120, 49, 32, 61, 32, 48, 120, 49, 101, 43, 51, 32, 35, 32, 115, 111]⟩ ⟨#[61]⟩ ⟨#[43]⟩ _ w kV1 (by decide) (by decide) (by decide)
  have hT2 := fun w => tok_none ⟨#[49, 101, 43, 51, 46, 53]⟩ _ w kV2 (by decide)
  have hT3 := fun w => tok_none ⟨#[97, 10, 34, 92, 113, 34]⟩ _ w kV3 (by decide)
  have hT4 := fun w => tok_none ⟨#[34, 10]⟩ _ w kV4 (by decide)
  have hT5 := fun w => tok_none ⟨#[97, 32, 33, 32, 98]⟩ _ w kV5 (by decide)
  have hBy1 : ∀ w, Calls Try.prog 7 #[.string ⟨#[34, 92, 117, 48, 48, 101, 57, 92, 120, 52, 49, 34]⟩] w fun e w' => ∃ v, e = .returned (.tuple #[v, .int .i64 0, .int .i64 0]) ∧ w'.ownsRow w.heap.size 5 1 v 3 (bv [195, 169, 65]) ∧ Below w.heap.size w w' := fun w => by
    have h := bytes_any ⟨#[34, 92, 117, 48, 48, 101, 57, 92, 120, 52, 49, 34]⟩ w (by decide)
    rw [kV7] at h
    exact h
  have hBy2 : ∀ w, Calls Try.prog 7 #[.string ⟨#[34, 92, 117, 100, 56, 48, 48, 34]⟩] w fun e w' => (∃ v, e = .returned (.tuple #[v, .int .i64 1, .int .i64 12])) ∧ Below w.heap.size w w' := fun w => by
    have h := bytes_any ⟨#[34, 92, 117, 100, 56, 48, 48, 34]⟩ w (by decide)
    rw [kV8] at h
    exact h.mono fun e w' ⟨v, h1, h2, h3⟩ => ⟨⟨v, h1⟩, h3⟩
  have hRu1 : ∀ w, Calls Try.prog 8 #[.string ⟨#[39, 195, 169, 39]⟩] w fun e w' => e = .returned (.tuple #[.int .i32 233, .int .i64 0, .int .i64 0]) ∧ Below w.heap.size w w' := fun w => by
    have h := rune_any ⟨#[39, 195, 169, 39]⟩ w (by decide)
    rw [kV9] at h
    exact h
  have hRu2 : ∀ w, Calls Try.prog 8 #[.string ⟨#[39, 39]⟩] w fun e w' => (∃ v, e = .returned (.tuple #[v, .int .i64 1, .int .i64 10])) ∧ Below w.heap.size w w' := fun w => by
    have h := rune_any ⟨#[39, 39]⟩ w (by decide)
    unfold runeR at h
    rw [kV10] at h
    exact h.mono fun e w' ⟨h1, h3⟩ => ⟨⟨_, h1⟩, h3⟩
  have hRu3 : ∀ w, Calls Try.prog 8 #[.string ⟨#[39, 97, 98, 39]⟩] w fun e w' => (∃ v, e = .returned (.tuple #[v, .int .i64 2, .int .i64 11])) ∧ Below w.heap.size w w' := fun w => by
    have h := rune_any ⟨#[39, 97, 98, 39]⟩ w (by decide)
    unfold runeR at h
    rw [kV11] at h
    exact h.mono fun e w' ⟨h1, h3⟩ => ⟨⟨_, h1⟩, h3⟩
  have hSh := show_lit
  have hGu := guest_lit
  have HB : Below w.heap.size w w := Below.refl _ _
  go_enter Try.func3, Try.ntmps3
  go_wp2_with (first
    | (go_at_call 4; with_reducible refine (hW _).mono ?_; rintro e w1 ⟨rfl, h1⟩; replace HB := btT HB h1; clear h1)
    | (go_at_call 5; with_reducible refine (hT1 _).mono ?_; rintro e w1 ⟨v, rfl, hown, h1⟩; replace HB := btT (belT HB) h1; clear h1; obtain ⟨g, cap, rfl, hg, hcap, hcl⟩ := tok_cells (L := [(1, 0, 2), (5, 3, 4), (2, 5, 9), (5, 9, 10), (2, 10, 11)]) hown (by decide); have d8 : w1.cell? ⟨g, 8, none⟩ = some (.string ⟨#[48, 120, 49, 101]⟩) := kx1 ▸ (hcl 2 _ rfl).2.2; have d13 : w1.cell? ⟨g, 13, none⟩ = some (.int .i64 10) := (hcl 4 _ rfl).2.1; clear hcl hown hg)
    | (go_at_call 5; with_reducible refine (hT2 _).mono ?_; rintro e w1 ⟨v, rfl, hown, h1⟩; replace HB := btT HB h1; clear h1; obtain ⟨g, cap, rfl, hg, hcap, hcl⟩ := tok_cells (L := [(2, 0, 6)]) hown (by decide); have d2 : w1.cell? ⟨g, 2, none⟩ = some (.string ⟨#[49, 101, 43, 51, 46, 53]⟩) := kx2 ▸ (hcl 0 _ rfl).2.2; clear hcl hown hg)
    | (go_at_call 5; (first | with_reducible refine (hT3 _).mono ?_ | with_reducible refine (hT4 _).mono ?_ | with_reducible refine (hT5 _).mono ?_); rintro e w1 ⟨v, rfl, hown, h1⟩; replace HB := btT HB h1; clear h1 hown)
    | (go_at_call 6; with_reducible refine (hSh _).mono ?_; rintro e w1 ⟨rfl, h1⟩; replace HB := btT (belT HB) h1; clear h1)
    | (go_at_call 7; with_reducible refine (hBy1 _).mono ?_; rintro e w1 ⟨v, rfl, hown, h1⟩; replace HB := btT HB h1; clear h1; obtain ⟨g, cap, rfl, hcv⟩ := own_conv hown; clear hown)
    | (go_at_call 7; with_reducible refine (hBy2 _).mono ?_; rintro e w1 ⟨⟨v, rfl⟩, h1⟩; replace HB := btT HB h1; clear h1)
    | (go_at_call 8; with_reducible refine (hRu1 _).mono ?_; rintro e w1 ⟨rfl, h1⟩; replace HB := btT HB h1; clear h1)
    | (go_at_call 8; (first | with_reducible refine (hRu2 _).mono ?_ | with_reducible refine (hRu3 _).mono ?_); rintro e w1 ⟨⟨v, rfl⟩, h1⟩; replace HB := btT HB h1; clear h1)
    | (go_at_call 9; with_reducible refine (hGu _).mono ?_; rintro e w1 ⟨rfl, h1⟩; replace HB := btT (belT HB) h1; clear h1)
    | fail)
  go_ret
  exact ⟨rfl, HB⟩
end Go.Proofs.Ytfolcjamefgphaa
