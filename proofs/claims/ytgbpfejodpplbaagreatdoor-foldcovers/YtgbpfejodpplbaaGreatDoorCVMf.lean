import Derived.Test.YtgbpfejodpplbaaGreatDoorCLWd32
import Derived.Test.YtgbpfejodpplbaaGreatDoorCPNk
import Derived.Test.YtgbpfejodpplbaaGreatDoorCPOf
import Derived.BigQuiet
namespace Go.Proofs.YtgbpfejodpplbaaGreatDoor
open Go.RowKit Go.WideShapes
set_option maxRecDepth 100000

/-- may a name stand behind k others, the last of them s'? -/
def mayB (k : Nat) (s' s : ByteArray) : Bool := decide (1 ≤ s.size) && decide (s.size ≤ 32) && (decide (k = 0) || (decide (k < 64) && Go.Op.bytesLess s'.toList s.toList))
/-- may a stack have so many bytes? -/
def stOk (x : Nat) : Bool := decide (x % 4 = 0) && decide (64 ≤ x) && decide (x ≤ 32768)
set_option maxHeartbeats 2000000 in
theorem stk_any (x : Nat) (w : World) (hx : x < 4294967296) :
    Calls Tryz.prog 42 #[.int .u32 x] w fun e w' => e = .returned (.bool (stOk x)) ∧ w' = w := by
  unfold stOk
  by_cases h1 : x % 4 = 0
  · have h1I : (x : Int) % 4 = 0 := by omega
    by_cases h2 : 64 ≤ x
    · have h2I : (64 : Int) ≤ (x : Int) := by omega
      by_cases h3 : x ≤ 32768
      · have h3I : (x : Int) ≤ 32768 := by omega
        go_enter Tryz.func42, Tryz.ntmps42
        go_wp2_with fail
        go_ret
        exact ⟨by simp [h1, h2, h3], rfl⟩
      · have h3I : ¬ (x : Int) ≤ 32768 := by omega
        go_enter Tryz.func42, Tryz.ntmps42
        go_wp2_with fail
        go_ret
        exact ⟨by simp, rfl⟩
    · have h2I : decide ((64 : Int) ≤ (x : Int)) = false := by simp; omega
      go_enter Tryz.func42, Tryz.ntmps42
      go_wp2_with fail
      go_ret
      exact ⟨by simp [h1, h2], rfl⟩
  · have h1I : ((x : Int) % 4 == 0) = false := by rw [beq_eq_false_iff_ne]; omega
    go_enter Tryz.func42, Tryz.ntmps42
    go_wp2_with fail
    go_ret
    exact ⟨by simp [h1], rfl⟩
set_option maxHeartbeats 2000000 in
theorem mayf_any (a : Option Addr) (k c : Nat) (s s' : ByteArray) (x : Nat) (w : World) (hk : k ≤ 9223372036854775807) (hr : 0 < k → ∃ b off, a = some ⟨b, off, none⟩ ∧ b < w.heap.size ∧ w.cell? ⟨b, off + (k - 1) * 2, none⟩ = some (.string s')) :
    Calls Tryz.prog 43 #[.slice a k c, .agg #[.string s, .int .u32 (x : Int)]] w fun e w' => e = .returned (.bool (mayB k s' s)) ∧ Below w.heap.size w w' := by
  unfold mayB
  have bA : Below w.heap.size w (w.alloc (.cells #[.string s, .int .u32 (x : Int)] 64)) := (Below.refl w.heap.size w).alloc (Nat.le_refl _) _
  by_cases h1 : s.size < 1
  · have h1I : (s.size : Int) < 1 := by omega
    clear hr
    go_enter Tryz.func43, Tryz.ntmps43
    go_wp2_with fail
    go_ret
    exact ⟨by simp [show ¬ 1 ≤ s.size by omega], bA⟩
  · have h1I : decide ((s.size : Int) < 1) = false := by simp; omega
    by_cases h2 : 32 < s.size
    · have h2I : (32 : Int) < (s.size : Int) := by omega
      clear hr
      go_enter Tryz.func43, Tryz.ntmps43
      go_wp2_with fail
      go_ret
      exact ⟨by simp [show ¬ s.size ≤ 32 by omega], bA⟩
    · have h2I : decide ((32 : Int) < (s.size : Int)) = false := by simp; omega
      have hv : (decide (1 ≤ s.size) && decide (s.size ≤ 32)) = true := by simp; omega
      rw [hv]
      by_cases h0 : k = 0
      · subst h0
        clear hr
        go_enter Tryz.func43, Tryz.ntmps43
        go_wp2_with fail
        go_ret
        exact ⟨by simp, bA⟩
      · obtain ⟨g, off, rfl, hg, hcell⟩ := hr (by omega)
        have h0I : ((k : Int) == 0) = false := by rw [beq_eq_false_iff_ne]; omega
        have hwk : IntKind.i64.wrap ((k : Int) - 1) = (k : Int) - 1 := by rw [IntKind.wrap_i64]; omega
        have ht0 : ¬ ((k : Int) - 1 < 0) := by omega
        have ht1 : (k : Int) - 1 < (k : Int) := by omega
        have ht2 : ((k : Int) - 1).toNat = k - 1 := by omega
        have hlast := heap_alloc_last w (.cells #[.string s, .int .u32 (x : Int)] 64)
        have n0 : (w.alloc (.cells #[.string s, .int .u32 (x : Int)] 64)).cell? ⟨w.heap.size, 0, none⟩ = some (.string s) := by unfold World.cell?; simp only [hlast]; rfl
        clear hlast
        have hc2 := (bA.cell (p := ⟨g, off + (k - 1) * 2, none⟩) hg).trans hcell
        rw [decide_eq_false h0]
        by_cases h64 : k < 64
        · have h64I : (k : Int) < 64 := by omega
          rw [decide_eq_true h64]
          go_enter Tryz.func43, Tryz.ntmps43
          go_wp2_with fail
          generalize w.alloc (.cells #[.string s, .int .u32 (x : Int)] 64) = W1 at *
          clear hcell
          go_quiet (fail)
          go_wp2_with fail
          go_ret
          exact ⟨by simp, below_drewN bA _⟩
        · have h64I : decide ((k : Int) < 64) = false := by simp; omega
          rw [decide_eq_false h64]
          go_enter Tryz.func43, Tryz.ntmps43
          go_wp2_with fail
          generalize w.alloc (.cells #[.string s, .int .u32 (x : Int)] 64) = W1 at *
          clear hcell
          go_quiet (fail)
          go_wp2_with fail
          go_ret
          exact ⟨by simp, below_drewN bA _⟩
set_option maxHeartbeats 1000000 in
theorem room_any (v0 v1 v5 : Value) (a : Option Addr) (n c : Nat) (z st : Nat) (w : World) (_ : v0.oneCell' = true) (_ : v1.oneCell' = true) (_ : v5.oneCell' = true) (hn : n ≤ 9223372036854775807) (hz : z < 4294967296) (hs : st < 4294967296) :
    Calls Tryz.prog 22 #[.agg #[v0, v1, .slice a n c, .int .u32 z, .int .u32 st, v5]] w fun e w' => e = .returned (.int .u64 ((n : Int) + (z : Int) + (st : Int))) ∧ Below w.heap.size w w' := by
  go_enter Tryz.func22, Tryz.ntmps22
  go_wp2_with fail
  go_ret
  exact ⟨rfl, (Below.refl w.heap.size w).alloc (Nat.le_refl _) _⟩
end Go.Proofs.YtgbpfejodpplbaaGreatDoor
