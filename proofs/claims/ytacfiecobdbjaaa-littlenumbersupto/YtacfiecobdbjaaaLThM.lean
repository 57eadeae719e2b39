import Derived.Test.YtacfiecobdbjaaaLPutw
namespace Go.Proofs.Ytacfiecobdbjaaa
open Go.RowKit

theorem flat_chunk (w : Nat) (L : List Int) : ∀ i, i < L.length → ((L.flatMap (nb w)).drop (i * w)).take w = nb w (L.getD i 0) := by
  induction L with
  | nil => intro i h; simp at h
  | cons a L ih =>
    intro i h
    cases i with
    | zero => simp [nb_len]
    | succ i =>
      have := ih i (by simpa using h)
      rw [List.flatMap_cons, show (i + 1) * w = (nb w a).length + i * w by rw [nb_len, Nat.add_mul]; omega, List.drop_append, List.drop_of_length_le (by omega), List.nil_append, Nat.add_sub_cancel_left, this]
      simp
theorem nums_puts (w : Nat) (xs : List Int) (h : ∀ x ∈ xs, 0 ≤ x ∧ x < 256 ^ w) : nums w (puts w xs xs.length) xs.length = xs := by
  rw [puts, List.take_length]
  apply List.ext_getElem
  · simp [nums]
  · intro i h1 h2
    have hx := h xs[i] (List.getElem_mem h2)
    have hg : xs.getD i 0 = xs[i] := by simp [List.getD, List.getElem?_eq_getElem h2]
    simp only [nums, List.getElem_map, List.getElem_range]
    rw [flat_chunk w xs i h2, num_nb, hg, Int.emod_eq_of_lt hx.1 hx.2]
theorem chunks (w : Nat) (zs : List Int) : ∀ m, (List.range m).flatMap (fun i => (zs.drop (i * w)).take w) = zs.take (m * w) := by
  intro m
  induction m with
  | zero => simp
  | succ m ih => rw [List.range_succ, List.flatMap_append, ih, Nat.add_mul, Nat.one_mul, List.take_add]; simp
theorem puts_nums (w : Nat) (zs : List Int) (m : Nat) (hl : zs.length = m * w) (h : ∀ z ∈ zs, 0 ≤ z ∧ z ≤ 255) : puts w (nums w zs m) m = zs := by
  rw [puts, List.take_of_length_le (by rw [nums_len]; omega), nums, List.flatMap_map]
  have e : ∀ i ∈ List.range m, nb w (num ((zs.drop (i * w)).take w)) = (zs.drop (i * w)).take w := by
    intro i hi
    have hi' : i < m := List.mem_range.1 hi
    have hle : (i + 1) * w ≤ m * w := Nat.mul_le_mul_right w hi'
    rw [Nat.add_mul, Nat.one_mul] at hle
    have hc : ((zs.drop (i * w)).take w).length = w := by simp; omega
    have := nb_num ((zs.drop (i * w)).take w) (fun z hz => h z (List.mem_of_mem_drop (List.mem_of_mem_take hz)))
    rwa [hc] at this
  rw [List.flatMap_def, List.map_congr_left e, ← List.flatMap_def, chunks, ← hl, List.take_length]
theorem nums_range (w : Nat) (zs : List Int) (m : Nat) (hl : zs.length = m * w) (h : ∀ z ∈ zs, 0 ≤ z ∧ z ≤ 255) : ∀ x ∈ nums w zs m, 0 ≤ x ∧ x < 256 ^ w := by
  intro x hx
  simp only [nums, List.mem_map, List.mem_range] at hx
  obtain ⟨i, hi, rfl⟩ := hx
  have hle : (i + 1) * w ≤ m * w := Nat.mul_le_mul_right w hi
  rw [Nat.add_mul, Nat.one_mul] at hle
  have hc : ((zs.drop (i * w)).take w).length = w := by simp; omega
  have := num_range ((zs.drop (i * w)).take w) (fun z hz => h z (List.mem_of_mem_drop (List.mem_of_mem_take hz)))
  rwa [hc] at this
theorem puts_wf (w : Nat) (xs : List Int) (k : Nat) : ∀ z ∈ puts w xs k, 0 ≤ z ∧ z ≤ 255 := by
  intro z hz
  simp only [puts, List.mem_flatMap] at hz
  obtain ⟨x, _, hx⟩ := hz
  exact nb_wf w x z hx

theorem allv_any (w : Nat) (hw : w = 1 ∨ w = 2 ∨ w = 4 ∨ w = 8) (ao : Option Addr) (n cap : Nat) (zs : List Int) (m : Nat) (W : World) (hz : zs.length = n) (hm : zs.length = m * w) (hn : n ≤ 16777216) (hcp : n ≤ cap) (hwf : ∀ z ∈ zs, 0 ≤ z ∧ z ≤ 255) (hr : Reads W ao zs W.heap.size) :
    Calls Try.prog 20 #[.int .i64 w, .slice ao n cap] W fun e w' => ∃ v, e = .returned (.tuple #[v, .int .i64 0]) ∧ w'.ownsRow W.heap.size 27 1 v m (bk .u64 (nums w zs m)) ∧ Below W.heap.size W w' := by
  subst hz
  have hr' := nums_range w zs m hm hwf
  have hl : (nums w zs m).length = m := nums_len _ _ _
  have hmn : m ≤ 16777216 := by rcases hw with rfl | rfl | rfl | rfl <;> omega
  rcases hw with rfl | rfl | rfl | rfl
  · have := allw_u8 ao zs.length cap (nums 1 zs m) 0 W (by omega) hr' (fun W' hb => by
      rw [hl]; exact all_u8 ao cap zs m W' hm hn hcp hwf ((hr.below hb).mono hb.size))
    rwa [hl] at this
  · have := allw_u16 ao zs.length cap (nums 2 zs m) 0 W (by omega) hr' (fun W' hb => by
      rw [hl]; exact all_u16 ao cap zs m W' hm hn hcp hwf ((hr.below hb).mono hb.size))
    rwa [hl] at this
  · have := allw_u32 ao zs.length cap (nums 4 zs m) 0 W (by omega) hr' (fun W' hb => by
      rw [hl]; exact all_u32 ao cap zs m W' hm hn hcp hwf ((hr.below hb).mono hb.size))
    rwa [hl] at this
  · have := allw_u64 ao zs.length cap (nums 8 zs m) 0 W (by omega) hr' (fun W' hb => by
      rw [hl]; exact all_u64 ao cap zs m W' hm hn hcp hwf ((hr.below hb).mono hb.size))
    rwa [hl] at this
theorem allvE_any (w : Nat) (hw : w = 1 ∨ w = 2 ∨ w = 4 ∨ w = 8) (ao : Option Addr) (n cap : Nat) (W : World) (hm : ¬ n % w = 0) :
    Calls Try.prog 20 #[.int .i64 w, .slice ao n cap] W fun e w' => ∃ v, e = .returned (.tuple #[v, .int .i64 21]) ∧ w'.ownsRow W.heap.size 27 1 v 0 (bk .u64 []) ∧ Below W.heap.size W w' := by
  rcases hw with rfl | rfl | rfl | rfl
  · exact allw_u8 ao n cap [] 21 W (by simp) (by simp) (fun W' _ => (allE_u8 ao n cap W' hm).mono fun e w' ⟨he, hq⟩ => ⟨_, he, World.ownsRow_nil _ _ _ _, by rw [hq]; exact Below.refl _ _⟩)
  · exact allw_u16 ao n cap [] 21 W (by simp) (by simp) (fun W' _ => (allE_u16 ao n cap W' hm).mono fun e w' ⟨he, hq⟩ => ⟨_, he, World.ownsRow_nil _ _ _ _, by rw [hq]; exact Below.refl _ _⟩)
  · exact allw_u32 ao n cap [] 21 W (by simp) (by simp) (fun W' _ => (allE_u32 ao n cap W' hm).mono fun e w' ⟨he, hq⟩ => ⟨_, he, World.ownsRow_nil _ _ _ _, by rw [hq]; exact Below.refl _ _⟩)
  · exact allw_u64 ao n cap [] 21 W (by simp) (by simp) (fun W' _ => (allE_u64 ao n cap W' hm).mono fun e w' ⟨he, hq⟩ => ⟨_, he, World.ownsRow_nil _ _ _ _, by rw [hq]; exact Below.refl _ _⟩)
theorem putv_any (w : Nat) (hw : w = 1 ∨ w = 2 ∨ w = 4 ∨ w = 8) (ao : Option Addr) (n cap : Nat) (xs : List Int) (W : World) (hx : xs.length = n) (hn : n ≤ 1048576) (hwf : ∀ z ∈ xs, 0 ≤ z ∧ z < 256 ^ w) (hr : ReadsK W .u64 ao xs W.heap.size) :
    Calls Try.prog 11 #[.int .i64 w, .slice ao n cap] W fun e w' => ∃ v, e = .returned (.tuple #[v, .bool true]) ∧ w'.ownsRow W.heap.size 5 1 v (n * w) (bv (puts w xs n)) ∧ Below W.heap.size W w' := by
  subst hx
  rcases hw with rfl | rfl | rfl | rfl
  · exact putw_u8 ao cap xs W hn hwf hr
  · exact putw_u16 ao cap xs W hn hwf hr
  · exact putw_u32 ao cap xs W hn hwf hr
  · exact putw_u64 ao cap xs W hn hwf hr

set_option maxRecDepth 100000 in
set_option maxHeartbeats 2000000 in
theorem sameN_any (ao bo : Option Addr) (ca cb n : Nat) (xs : List Int) (w : World) (hx : xs.length = n) (hn : n ≤ 140737488355328) (ha : ReadsK w .u64 ao xs w.heap.size) (hr : ReadsK w .u64 bo xs w.heap.size) :
    Calls Try.prog 21 #[.slice ao n ca, .slice bo n cb] w fun e w' => e = .returned (.bool true) ∧ ∃ m, w' = w.drewN m := by
  subst hx
  go_enter Try.func21, Try.ntmps21
  go_wp2
  go_loopw [5] (fun i wr => ∃ k m : Nat, k ≤ xs.length ∧ i = .int .i64 k ∧ wr = w.drewN m)
    (fun i _ => xs.length - (intOf i).toNat)
  case atStart => exact ⟨0, 0, Nat.zero_le _, rfl, rfl⟩
  case round =>
    obtain ⟨k, m, hk, rfl, hw2⟩ := hrel
    have HW2 : Hid (wr = w.drewN m) := hw2
    by_cases hlt : k < xs.length
    · obtain ⟨b, off, rfl, hbl, hc⟩ := hr (by omega)
      obtain ⟨b2, off2, rfl, hbl2, hc2⟩ := ha (by omega)
      have hck : wr.cell? ⟨b, off + k, none⟩ = some (.int .u64 (xs.getD k 0)) := by rw [hw2]; exact hc k (by omega)
      have hck2 : wr.cell? ⟨b2, off2 + k, none⟩ = some (.int .u64 (xs.getD k 0)) := by rw [hw2]; exact hc2 k hlt
      clear hc hc2 hw2
      have hlt' : (k : Int) < (xs.length : Int) := by omega
      generalize xs.getD k 0 = c at hck hck2
      go_wp2
      go_quiet (fail)
      go_wp2
      go_roundw
      case rel => exact ⟨k + 1, _, by omega, by go_num, by rw [HW2.out, World.drewN_drewN]⟩
      case measure => simp [intOf]; omega
    · clear hw2
      go_wp2
      go_ret
      exact ⟨rfl, _, HW2.out⟩
end Go.Proofs.Ytacfiecobdbjaaa
