import Derived.Test.YtipgpigcpbckgaaDoorLBase
namespace Go.Proofs.YtipgpigcpbckgaaDoor
open Go.RowKit
set_option maxRecDepth 100000

def stp (p : Int × Int) (c : Int) : Int × Int := ((p.1 + c) % 65521, (p.2 + (p.1 + c) % 65521) % 65521)
def st (zs : List Int) : Int × Int := zs.foldl stp (1, 0)
def adl (zs : List Int) : Int := (st zs).2 * 65536 + (st zs).1
theorem st_snoc (L : List Int) (c : Int) : st (L ++ [c]) = stp (st L) c := by simp [st]
theorem stp_range (p : Int × Int) (c : Int) : (0 ≤ (stp p c).1 ∧ (stp p c).1 ≤ 65520) ∧ 0 ≤ (stp p c).2 ∧ (stp p c).2 ≤ 65520 := by
  simp only [stp]; omega
theorem st_fold_range (L : List Int) : ∀ p : Int × Int, ((0 ≤ p.1 ∧ p.1 ≤ 65520) ∧ 0 ≤ p.2 ∧ p.2 ≤ 65520) → ((0 ≤ (L.foldl stp p).1 ∧ (L.foldl stp p).1 ≤ 65520) ∧ 0 ≤ (L.foldl stp p).2 ∧ (L.foldl stp p).2 ≤ 65520) := by
  induction L with
  | nil => intro p h; exact h
  | cons a L ih => intro p _; exact ih _ (stp_range p a)
theorem st_range (L : List Int) : (0 ≤ (st L).1 ∧ (st L).1 ≤ 65520) ∧ 0 ≤ (st L).2 ∧ (st L).2 ≤ 65520 := st_fold_range L _ (by decide)
theorem adl_range (L : List Int) : 0 ≤ adl L ∧ adl L ≤ 4294967295 := by have := st_range L; unfold adl; omega

theorem or16 (h l : Int) (h0 : 0 ≤ h) (h1 : h ≤ 65535) (l0 : 0 ≤ l) (l1 : l ≤ 65535) : bits .or .u32 (h * 65536) l = h * 65536 + l := by
  obtain ⟨n, rfl⟩ := Int.eq_ofNat_of_zero_le h0
  obtain ⟨m, rfl⟩ := Int.eq_ofNat_of_zero_le l0
  have := u32_or_nat (n * 65536) m (by omega) (by omega)
  have e : n * 65536 ||| m = n * 65536 + m := by
    have := (Nat.shiftLeft_add_eq_or_of_lt (i := 16) (b := m) (by omega) n).symm
    simpa [Nat.shiftLeft_eq] using this
  rw [e] at this
  simpa using this

set_option maxHeartbeats 400000 in
theorem sum_any (ao : Option Addr) (cap : Nat) (zs : List Int) (w : World) (hn : zs.length ≤ 140737488355328) (hwf : ∀ z ∈ zs, 0 ≤ z ∧ z ≤ 255) (hr : Reads w ao zs w.heap.size) :
    Calls Tryd.prog 33 #[.slice ao zs.length cap] w fun e w' => e = .returned (.int .u32 (adl zs)) ∧ w' = w := by
  go_enter Tryd.func33, Tryd.ntmps33
  go_wp2
  go_loop [3, 4, 9] (fun l h i => ∃ k : Nat, k ≤ zs.length ∧ i = .int .i64 k ∧ l = .int .u32 (st (zs.take k)).1 ∧ h = .int .u32 (st (zs.take k)).2)
    (fun _ _ i => zs.length - (intOf i).toNat)
  case atStart => exact ⟨0, Nat.zero_le _, rfl, rfl, rfl⟩
  case round =>
    obtain ⟨k, hk, rfl, rfl, rfl⟩ := hrel
    have hst := st_range (zs.take k)
    by_cases hlt : k < zs.length
    · obtain ⟨b, off, rfl, hbl, hc⟩ := hr (by omega)
      have hck := hc k hlt
      clear hc
      have hts := take_snoc zs k hlt
      have hcw := hwf _ (getD_mem hlt)
      generalize zs.getD k 0 = c at hck hts hcw
      have HS : Hid (st (zs.take (k + 1)) = stp (st (zs.take k)) c) := by rw [hts]; exact st_snoc _ _
      clear hts
      generalize st (zs.take k) = p at hst HS
      obtain ⟨l, h⟩ := p
      simp only at hst
      obtain ⟨⟨l0, l1⟩, h0, h1⟩ := hst
      obtain ⟨c0, c1⟩ := hcw
      go_wp2
      go_round
      case rel => exact ⟨k + 1, by omega, by go_num, by rw [HS.out]; rfl, by rw [HS.out]; rfl⟩
      case measure => simp [intOf]; omega
    · have HE : Hid (adl zs = (st (zs.take k)).2 * 65536 + (st (zs.take k)).1) := by rw [show k = zs.length by omega, List.take_length]; rfl
      generalize st (zs.take k) = p at hst HE
      obtain ⟨l, h⟩ := p
      simp only at hst
      obtain ⟨⟨l0, l1⟩, h0, h1⟩ := hst
      have ho := or16 h l h0 (by omega) l0 (by omega)
      go_wp2
      go_ret
      exact ⟨by rw [HE.out]; rfl, rfl⟩
end Go.Proofs.YtipgpigcpbckgaaDoor
