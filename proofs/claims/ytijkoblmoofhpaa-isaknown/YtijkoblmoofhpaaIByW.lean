import Derived.Test.YtijkoblmoofhpaaISzs
namespace Go.Proofs.Ytijkoblmoofhpaa
open Go.RowKit

def byF (s : ByteArray) : Nat → Nat → Nat
  | _, 0 => 0
  | k, n + 1 => if opWd k = s then k else byF s (k + 1) n
def byV (s : ByteArray) : Nat := byF s 1 59
theorem byF_hit (s : ByteArray) (k n : Nat) (h : opWd k = s) : byF s k (n + 1) = k := by rw [byF, if_pos h]
theorem byF_miss (s : ByteArray) (k n : Nat) (h : ¬ opWd k = s) : byF s k (n + 1) = byF s (k + 1) n := by rw [byF, if_neg h]
theorem opsV_get (k : Nat) : k < 60 → opsV[k * 6]? = some (.string (opWd k)) := by
  have h : ∀ j : Fin 60, opsV[j.val * 6]? = some (.string (opWd j.val)) := fun j => by
    have : ∀ m : Nat, m < 60 → opsV[m * 6]? = some (.string (opWd m)) := fun m => match m with
      | 0 => fun _ => by kernel_rfl
      | 1 => fun _ => by kernel_rfl
      | 2 => fun _ => by kernel_rfl
      | 3 => fun _ => by kernel_rfl
      | 4 => fun _ => by kernel_rfl
      | 5 => fun _ => by kernel_rfl
      | 6 => fun _ => by kernel_rfl
      | 7 => fun _ => by kernel_rfl
      | 8 => fun _ => by kernel_rfl
      | 9 => fun _ => by kernel_rfl
      | 10 => fun _ => by kernel_rfl
      | 11 => fun _ => by kernel_rfl
      | 12 => fun _ => by kernel_rfl
      | 13 => fun _ => by kernel_rfl
      | 14 => fun _ => by kernel_rfl
      | 15 => fun _ => by kernel_rfl
      | 16 => fun _ => by kernel_rfl
      | 17 => fun _ => by kernel_rfl
      | 18 => fun _ => by kernel_rfl
      | 19 => fun _ => by kernel_rfl
      | 20 => fun _ => by kernel_rfl
      | 21 => fun _ => by kernel_rfl
      | 22 => fun _ => by kernel_rfl
      | 23 => fun _ => by kernel_rfl
      | 24 => fun _ => by kernel_rfl
      | 25 => fun _ => by kernel_rfl
      | 26 => fun _ => by kernel_rfl
      | 27 => fun _ => by kernel_rfl
      | 28 => fun _ => by kernel_rfl
      | 29 => fun _ => by kernel_rfl
      | 30 => fun _ => by kernel_rfl
      | 31 => fun _ => by kernel_rfl
      | 32 => fun _ => by kernel_rfl
      | 33 => fun _ => by kernel_rfl
      | 34 => fun _ => by kernel_rfl
      | 35 => fun _ => by kernel_rfl
      | 36 => fun _ => by kernel_rfl
      | 37 => fun _ => by kernel_rfl
      | 38 => fun _ => by kernel_rfl
      | 39 => fun _ => by kernel_rfl
      | 40 => fun _ => by kernel_rfl
      | 41 => fun _ => by kernel_rfl
      | 42 => fun _ => by kernel_rfl
      | 43 => fun _ => by kernel_rfl
      | 44 => fun _ => by kernel_rfl
      | 45 => fun _ => by kernel_rfl
      | 46 => fun _ => by kernel_rfl
      | 47 => fun _ => by kernel_rfl
      | 48 => fun _ => by kernel_rfl
      | 49 => fun _ => by kernel_rfl
      | 50 => fun _ => by kernel_rfl
      | 51 => fun _ => by kernel_rfl
      | 52 => fun _ => by kernel_rfl
      | 53 => fun _ => by kernel_rfl
      | 54 => fun _ => by kernel_rfl
      | 55 => fun _ => by kernel_rfl
      | 56 => fun _ => by kernel_rfl
      | 57 => fun _ => by kernel_rfl
      | 58 => fun _ => by kernel_rfl
      | 59 => fun _ => by kernel_rfl
      | n + 60 => fun h => absurd h (by omega)
    exact this j.val j.isLt
  exact fun hk => h ⟨k, hk⟩
theorem lne {a b : ByteArray} (h : ¬ a = b) : (a.toList == b.toList) = false := by
  rw [beq_eq_false_iff_ne]
  intro e
  rw [ByteArray.toList_eq, ByteArray.toList_eq] at e
  exact h (ByteArray.ext (Array.toList_inj.mp e))
set_option maxHeartbeats 1000000 in
theorem byWord_any (s : ByteArray) (w : World) :
    Calls Try.prog 10 #[.string s] w fun e w' => e = .returned (.tuple #[.int .u8 (byV s), .bool (!(byV s == 0))]) ∧ Below w.heap.size w w' := by
  obtain ⟨hz, hs⟩ := zero_of_info infoOps
  have hst : (storeCells ⟨w.heap.size + 1, 0, none⟩ opsV.toList).run Try.prog ((w.alloc (.cells opsV 48)).alloc (.cells opsZ 48)) = .ok () ((w.alloc (.cells opsV 48)).alloc (.cells opsV 48)) := by
    have := run_storeCells_new (P := Try.prog) (w.alloc (.cells opsV 48)) 48 opsZ opsV (by rw [hs, opsV_size]) (by rw [opsZ_size, opsV_size]) opsV_all
    simpa using this
  have hVs := opsV_size
  have hO := ops_any
  have HV : Hid (∀ k, k < 60 → opsV[k * 6]? = some (.string (opWd k))) := opsV_get
  generalize opsV = V at *
  generalize opsZ = Z at *
  clear hs
  go_enter Try.func10, Try.ntmps10
  go_wp2_with (go_at_call 18; refine (hO _).mono ?_; rintro e wq ⟨rfl, hq⟩; subst wq)
  have hcells : ∀ k, k < 60 → ((w.alloc (.cells V 48)).alloc (.cells V 48)).cell? ⟨w.heap.size + 1, k * 6, none⟩ = some (.string (opWd k)) := fun k hk => by
    have := World.cell?_alloc_new (w.alloc (.cells V 48)) V 48 (k * 6)
    rw [show (w.alloc (.cells V 48)).heap.size = w.heap.size + 1 by simp] at this
    rw [this]; exact HV.out k hk
  clear hst hz hO HV hVs
  go_loopw [5] (fun i wr => ∃ k : Nat, 1 ≤ k ∧ k ≤ 60 ∧ i = .int .u8 k ∧ wr = ((w.alloc (.cells V 48)).alloc (.cells V 48)) ∧ byF s k (60 - k) = byV s)
      (fun i _ => 60 - (intOf i).toNat)
  case atStart => exact ⟨1, Nat.le_refl _, by omega, rfl, rfl, rfl⟩
  case round =>
    obtain ⟨k, h1, h60, rfl, hw2, hby⟩ := hrel
    by_cases hlt : k < 60
    · have hck := hcells k hlt
      rw [← hw2] at hck
      have HW2 : Hid (wr = ((w.alloc (.cells V 48)).alloc (.cells V 48))) := hw2
      have hle : (k : Int) ≤ 59 := by omega
      rw [show 60 - k = (59 - k) + 1 by omega] at hby
      clear hw2 hcells
      by_cases he : opWd k = s
      · rw [byF_hit s k _ he] at hby
        rw [he] at hck
        clear he
        have HB : Hid (k = byV s) := hby
        clear hby
        go_wp2
        go_ret2
        exact ⟨by rw [← HB.out]; congr; simp; omega, by rw [HW2.out]; exact bel (bel (Below.refl _ _))⟩
      · rw [byF_miss s k _ he] at hby
        have HB : Hid (byF s (k + 1) (59 - k) = byV s) := hby
        clear hby
        generalize opWd k = W at *
        have hbe := lne he
        clear he
        go_wp2
        go_roundw
        case rel => exact ⟨k + 1, by omega, by omega, by go_num, HW2.out, by rw [show 60 - (k + 1) = 59 - k by omega]; exact HB.out⟩
        case measure => simp [intOf]; omega
    · have : k = 60 := by omega
      subst this
      have HB : Hid (0 = byV s) := hby
      have HW2 : Hid (wr = ((w.alloc (.cells V 48)).alloc (.cells V 48))) := hw2
      clear hby hw2 hcells
      go_wp2
      go_ret2
      exact ⟨by rw [← HB.out]; rfl, by rw [HW2.out]; exact bel (bel (Below.refl _ _))⟩
set_option maxHeartbeats 1000000 in
theorem rbyWord_any (s : ByteArray) (w : World) :
    Calls Try.prog 11 #[.string s] w fun e w' => e = .returned (.tuple #[.int .u8 (byV s), .bool (!(byV s == 0))]) ∧ Below w.heap.size w w' := by
  have hO := word_any
  generalize wordsV = V at hO
  go_enter Try.func11, Try.ntmps11
  go_wp2
  go_loopw [4] (fun i wr => ∃ k : Nat, 1 ≤ k ∧ k ≤ 60 ∧ i = .int .i64 k ∧ Below w.heap.size w wr ∧ byF s k (60 - k) = byV s)
      (fun i _ => 60 - (intOf i).toNat)
  case atStart => exact ⟨1, Nat.le_refl _, by omega, rfl, Below.refl _ _, rfl⟩
  case round =>
    obtain ⟨k, h1, h60, rfl, hw2, hby⟩ := hrel
    by_cases hlt : k < 60
    · have hw := hO k wr (by omega)
      clear hO
      have HW2 : Hid (Below w.heap.size w wr) := hw2
      have hle : (k : Int) ≤ 59 := by omega
      rw [show 60 - k = (59 - k) + 1 by omega] at hby
      clear hw2
      by_cases he : opWd k = s
      · rw [byF_hit s k _ he] at hby
        rw [he] at hw
        clear he
        have HB : Hid (k = byV s) := hby
        clear hby
        go_wp2_with (go_at_call 19; refine hw.mono ?_; rintro e wq ⟨rfl, hq⟩; subst wq)
        go_ret2
        exact ⟨by rw [← HB.out]; congr; simp; omega, bel HW2.out⟩
      · rw [byF_miss s k _ he] at hby
        have HB : Hid (byF s (k + 1) (59 - k) = byV s) := hby
        clear hby
        generalize opWd k = W at *
        have hbe := lne he
        clear he
        go_wp2_with (go_at_call 19; refine hw.mono ?_; rintro e wq ⟨rfl, hq⟩; subst wq)
        go_roundw
        case rel => exact ⟨k + 1, by omega, by omega, by go_num, bel HW2.out, by rw [show 60 - (k + 1) = 59 - k by omega]; exact HB.out⟩
        case measure => simp [intOf]; omega
    · have : k = 60 := by omega
      subst this
      have HB : Hid (0 = byV s) := hby
      clear hby
      go_wp2
      go_ret2
      exact ⟨by rw [← HB.out]; rfl, hw2⟩
end Go.Proofs.Ytijkoblmoofhpaa
