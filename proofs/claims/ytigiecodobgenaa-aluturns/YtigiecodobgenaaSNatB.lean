import Derived.Test.YtigiecodobgenaaSAgn
namespace Go.Proofs.Ytigiecodobgenaa
open Go.RowKit

/-- a value that is a number -/
def NatV (w : World) (v : Value) (x : Nat) : Prop :=
  ∃ ao cap zs, v = .slice ao (List.length zs) cap ∧ List.length zs ≤ cap ∧ (ao = none → cap = 0) ∧ nv zs = x ∧ Norm zs ∧ Words zs ∧ ReadsU w ao zs w.heap.size
theorem NatV.below {w w' : World} {v : Value} {x : Nat} (h : NatV w v x) (hb : Below w.heap.size w w') : NatV w' v x := by
  obtain ⟨ao, cap, zs, e, h1, h2, h3, h4, h5, h6⟩ := h
  exact ⟨ao, cap, zs, e, h1, h2, h3, h4, h5, (h6.below hb).mono hb.size⟩
theorem NatV.drewN {w : World} {v : Value} {x : Nat} (h : NatV w v x) (n : Nat) : NatV (w.drewN n) v x := h.below ⟨rfl, rfl, rfl, Nat.le_refl _, fun _ _ => rfl⟩
/-- a number is not longer than it is great -/
theorem norm_len {zs : List Nat} (hN : Norm zs) (n : Nat) (h : nv zs < 4294967296 ^ n) : zs.length ≤ n := by
  apply Nat.le_of_not_lt
  intro hlt
  obtain ⟨m, hm⟩ : ∃ m, zs.length = m + 1 := ⟨zs.length - 1, by omega⟩
  have h1 := nv_ge m hm hN
  have h2 : 4294967296 ^ n ≤ 4294967296 ^ m := Nat.pow_le_pow_right (by decide) (by omega)
  omega
theorem belU {a w : World} {o : Obj} (h : Below a.heap.size a w) : Below a.heap.size a (w.alloc o) := h.alloc h.size o
set_option maxRecDepth 100000 in
set_option maxHeartbeats 1000000 in
theorem nat_any (x : Nat) (w : World) (hx : x < 18446744073709551616) :
    Calls Try.prog 33 #[.int .u64 x] w fun e w' => (∃ v, e = .returned v ∧ NatV w' v x) ∧ Below w.heap.size w w' := by
  obtain ⟨lo, hlo⟩ : ∃ lo, lo = x % 4294967296 := ⟨_, rfl⟩
  obtain ⟨hi, hhi⟩ : ∃ hi, hi = x / 4294967296 := ⟨_, rfl⟩
  have e1 : IntKind.u32.wrap (x : Int) = (lo : Int) := by rw [IntKind.wrap_u32', hlo]; omega
  have e2 : (x : Int) % 4294967296 = (lo : Int) := by omega
  have e3 : (x : Int) / 4294967296 = (hi : Int) := by omega
  have hl2 : lo < 4294967296 := by omega
  have hh2 : hi < 4294967296 := by omega
  have hnv : nv [lo, hi] = x := by simp only [nv]; omega
  have hW : Words [lo, hi] := by intro z hz; simp at hz; omega
  clear hlo hhi
  have HR : ReadsU (w.alloc (.cells #[.int .u32 (lo : Int), .int .u32 (hi : Int)] 22)) (some ⟨w.heap.size, 0, none⟩) [lo, hi] (w.alloc (.cells #[.int .u32 (lo : Int), .int .u32 (hi : Int)] 22)).heap.size := by
    intro _
    refine ⟨w.heap.size, 0, rfl, by simp, fun j hj => ?_⟩
    have : j = 0 ∨ j = 1 := by simp at hj; omega
    rcases this with rfl | rfl <;> simp
  have cc := cut_any (some ⟨w.heap.size, 0, none⟩) 2 [lo, hi] (w.alloc (.cells #[.int .u32 (lo : Int), .int .u32 (hi : Int)] 22)) (by simp) (by simp) HR (by simp)
  have HRH : Hid (ReadsU (w.alloc (.cells #[.int .u32 (lo : Int), .int .u32 (hi : Int)] 22)) (some ⟨w.heap.size, 0, none⟩) [lo, hi] (w.alloc (.cells #[.int .u32 (lo : Int), .int .u32 (hi : Int)] 22)).heap.size) := HR
  have HNV : Hid (nv [lo, hi] = x ∧ Words [lo, hi]) := ⟨hnv, hW⟩
  clear HR hnv hW
  go_enter Try.func33, Try.ntmps33
  go_wp2_with (go_at_call 50; refine cc.mono ?_; rintro e wq ⟨⟨n, hn, rfl, ht, hN⟩, hq⟩; subst wq)
  go_ret
  obtain ⟨h1, h2⟩ := HNV.out
  simp only [List.length_cons, List.length_nil] at hn
  have hlen : ([lo, hi].take n).length = n := by simp; omega
  refine ⟨⟨_, rfl, some ⟨w.heap.size, 0, none⟩, 2, [lo, hi].take n, by rw [hlen]; rfl, by rw [hlen]; omega, by simp, by rw [ht]; exact h1, hN, words_take h2 n, HRH.out.take n (by simp; omega)⟩, belU (Below.refl _ w)⟩
end Go.Proofs.Ytigiecodobgenaa
