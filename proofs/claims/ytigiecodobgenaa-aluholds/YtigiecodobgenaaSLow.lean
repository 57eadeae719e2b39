import Derived.Test.YtigiecodobgenaaSSize
namespace Go.Proofs.Ytigiecodobgenaa
open Go.RowKit

theorem or64_hi (x y : Nat) (hx : x < 4294967296) (hy : y < 4294967296) : bits .or .u64 (x : Int) ((y : Int) * 4294967296) = ((x + y * 4294967296 : Nat) : Int) := by
  have := u64_or_nat x (y * 4294967296) (by omega) (by omega)
  rw [Nat.or_comm, nat_join 32 (y * 4294967296) x (by omega) (by omega), Nat.add_comm, Int.natCast_mul] at this
  exact this
set_option maxRecDepth 100000 in
set_option maxHeartbeats 1000000 in
theorem low_any (ao : Option Addr) (cap : Nat) (zs : List Nat) (w : World) (hl : zs.length ≤ 1000000) (hr : ReadsU w ao zs w.heap.size) (hW : Words zs) :
    Calls Try.prog 35 #[.slice ao zs.length cap] w fun e w' => e = .returned (.int .u64 (nv zs % 18446744073709551616 : Nat)) ∧ w' = w := by
  match zs, hl, hr, hW with
  | [], _, _, _ =>
    have hb : nv [] % 18446744073709551616 = 0 := rfl
    rw [hb]
    go_enter Try.func35, Try.ntmps35
    go_wp2
    go_ret
    exact ⟨rfl, rfl⟩
  | [z], _, hr, hW =>
    obtain ⟨b, off, rfl, hbl, hc⟩ := hr (by simp)
    have hc0 := hc 0 (by simp)
    have hz := hW z (by simp)
    have hb : nv [z] % 18446744073709551616 = z := by simp only [nv]; omega
    rw [hb]
    simp only [List.getD, List.getElem?_cons_zero, Option.getD_some, Nat.add_zero] at hc0
    clear hc hr hW hb
    go_enter Try.func35, Try.ntmps35
    go_wp2
    go_ret
    exact ⟨rfl, rfl⟩
  | z :: y :: zs, hl, hr, hW =>
    obtain ⟨b, off, rfl, hbl, hc⟩ := hr (by simp)
    have hc0 := hc 0 (by simp)
    have hc1 := hc 1 (by simp)
    have hz := hW z (by simp)
    have hy := hW y (by simp)
    have hb : nv (z :: y :: zs) % 18446744073709551616 = z + y * 4294967296 := by simp only [nv]; omega
    rw [hb]
    simp only [List.getD, List.getElem?_cons_zero, List.getElem?_cons_succ, Option.getD_some, Nat.add_zero] at hc0 hc1
    have ho := or64_hi z y hz hy
    obtain ⟨n, hn⟩ : ∃ n, (z :: y :: zs).length = n + 2 := ⟨zs.length, rfl⟩
    rw [hn] at hl ⊢
    have g1 : decide ((0 : Int) < (n : Int) + 2) = true := decide_eq_true (by omega)
    have g2 : decide ((1 : Int) < (n : Int) + 2) = true := decide_eq_true (by omega)
    have g3 : (0 : Int) < (n : Int) + 2 := by omega
    have g4 : (1 : Int) < (n : Int) + 2 := by omega
    generalize z + y * 4294967296 = R at *
    clear hc hr hW hb hn
    go_enter Try.func35, Try.ntmps35
    go_wp2
    go_ret
    exact ⟨rfl, rfl⟩
end Go.Proofs.Ytigiecodobgenaa
