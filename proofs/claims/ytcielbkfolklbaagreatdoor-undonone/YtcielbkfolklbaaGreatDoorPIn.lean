import Derived.Test.YtcielbkfolklbaaGreatDoorPSu
import Derived.Test.YtcielbkfolklbaaGreatDoorWSn
import Derived.Test.YtcielbkfolklbaaGreatDoorWQr
import Derived.Shelf.Spec.TrailingZeros
import Derived.Deep.WholeRow
namespace Go.Proofs.YtcielbkfolklbaaGreatDoor
open Go.RowKit Go.WideShapes
set_option maxRecDepth 100000

/-- the lowest bit of a word -/
theorem low_bit (x k m : Nat) (h : x = 2 ^ k * (2 * m + 1)) : x.testBit k = true ∧ ∀ j, j < k → x.testBit j = false := by
  subst h
  constructor
  · rw [Nat.testBit_two_pow_mul]
    simp
  · intro j hj
    rw [Nat.testBit_two_pow_mul]
    simp; omega
/-- what next gives: the first number from x on that is there, or N -/
structure NextS (p : Nat → Bool) (N x r : Nat) : Prop where
  none : ∀ y, x ≤ y → y < r → p y = false
  some : r < N → p r = true
  le : r ≤ N
  ge : x ≤ N → x ≤ r
/-- the numbers from a on and below b that are there -/
def rng (p : Nat → Bool) (a b : Nat) : List Nat := (List.range' a (b - a)).filter p
theorem mem_rng {p : Nat → Bool} {a b x : Nat} : x ∈ rng p a b ↔ (a ≤ x ∧ x < b) ∧ p x = true := by
  simp only [rng, List.mem_filter, List.mem_range'_1]
  constructor
  · rintro ⟨⟨h1, h2⟩, h3⟩; exact ⟨⟨h1, by omega⟩, h3⟩
  · rintro ⟨⟨h1, h2⟩, h3⟩; exact ⟨⟨h1, by omega⟩, h3⟩
theorem rng_nil {p : Nat → Bool} {a b : Nat} (h : ∀ y, a ≤ y → y < b → p y = false) : rng p a b = [] := by
  unfold rng
  rw [List.filter_eq_nil_iff]
  intro x hx
  rw [List.mem_range'_1] at hx
  rw [h x hx.1 (by omega)]
  simp
theorem rng_cut {p : Nat → Bool} {a c b : Nat} (h1 : a ≤ c) (h2 : c ≤ b) : rng p a b = rng p a c ++ rng p c b := by
  unfold rng
  rw [← List.filter_append, show b - a = (c - a) + (b - c) by omega, ← List.range'_append_1, show a + (c - a) = c by omega]
theorem rng_one {p : Nat → Bool} {a b : Nat} (h : a < b) (hp : p a = true) : rng p a b = a :: rng p (a + 1) b := by
  unfold rng
  rw [show b - a = (b - (a + 1)) + 1 by omega, List.range'_succ, List.filter_cons, if_pos hp]
theorem rng_next {p : Nat → Bool} {N x r b : Nat} (h : NextS p N x r) (hx : x ≤ N) (hb : b ≤ N) (hr : r < b) : rng p x b = r :: rng p (r + 1) b := by
  rw [rng_cut (h.ge hx) (Nat.le_of_lt hr), rng_nil h.none, List.nil_append, rng_one hr (h.some (by omega))]
theorem rng_last {p : Nat → Bool} {N x r b : Nat} (h : NextS p N x r) (hr : b ≤ r) : rng p x b = [] := rng_nil (fun y h1 h2 => h.none y h1 (by omega))
theorem rng_els (p : Nat → Bool) (n : Nat) : rng p 0 n = els n p := by
  unfold rng els
  rw [List.range_eq_range', Nat.sub_zero]
theorem rng_len (p : Nat → Bool) (a b : Nat) : (rng p a b).length ≤ b - a := by
  have := List.length_filter_le p (List.range' a (b - a))
  rw [List.length_range'] at this
  exact this
/-- the bits of a word from a place on -/
theorem left_bit {z k j : Nat} : (z >>> k <<< k).testBit j = (decide (k ≤ j) && z.testBit j) := by
  rw [Nat.testBit_shiftLeft, Nat.testBit_shiftRight]
  by_cases h : k ≤ j
  · simp [h, show k + (j - k) = j by omega]
  · simp [h]
theorem left_lt {z k : Nat} (hz : z < 2 ^ 64) : z >>> k <<< k < 2 ^ 64 := by
  rw [Nat.shiftRight_eq_div_pow, Nat.shiftLeft_eq]
  exact Nat.lt_of_le_of_lt (Nat.div_mul_le_self _ _) hz
/-- the step of next: a word that has no bit left -/
theorem left_zero {z k : Nat} (h : z >>> k <<< k = 0) (j : Nat) (hj : k ≤ j) : z.testBit j = false := by
  have := left_bit (z := z) (k := k) (j := j)
  rw [h, Nat.zero_testBit] at this
  simpa [hj] using this.symm
theorem belP {a w : World} {o : Obj} (h : Below a.heap.size a w) : Below a.heap.size a (w.alloc o) := h.alloc h.size o
theorem btP {w a b : World} (h1 : Below w.heap.size w a) (h2 : Below a.heap.size a b) : Below w.heap.size w b := h1.trans (h2.mono h1.size)
theorem below_drewP {B : Nat} {a w : World} (h : Below B a w) (n : Nat) : Below B a (w.drewN n) := h.trans ⟨rfl, rfl, rfl, Nat.le_refl _, fun _ _ => rfl⟩
theorem boxed_stepP {A B : World} {row : Option Nat} {b t : Nat} {v : Value} (h : Boxed A b t v) (hg : A.grownBy B row) (hr : ∀ r, row = some r → ∃ o : Obj, A.heap[r]? = some o ∧ o.isCells = false) : Boxed B b t v := by
  refine (hg.block b h.lt (fun e => ?_)).trans h
  obtain ⟨o, ho, hc⟩ := hr b e.symm
  rw [show A.heap[b]? = _ from h] at ho
  cases ho
  cases hc
theorem heap_setP {W : World} {b D : Nat} {v : Value} (h : D ≠ b) : (W.setCell ⟨b, 0, none⟩ v).heap[D]? = W.heap[D]? := Below.heap_setCell _ _ _ _ h
theorem grown_belowP {w w' : World} (h : Below w.heap.size w w') : w.grownBy w' none := ⟨h.os, h.tape, h.output, h.size, fun k hk _ => h.block k hk⟩
/-- the library's table -/
abbrev TabW (w : World) : Prop := TabAt 2 Lib.deBruijn64tab w
theorem TabW.below {B : Nat} {w w' : World} (h : TabW w) (hb : Below B w w') (hB : 2 < B) : TabW w' := fun j hj => (hb.cell (p := ⟨2, j, none⟩) hB).trans (h j hj)
theorem TabW.pos {w : World} (h : TabW w) : 2 < w.heap.size := by
  have hc := h 0 (by decide)
  by_cases hp : 2 < w.heap.size
  · exact hp
  · have : w.heap[2]? = none := Array.getElem?_eq_none (by omega)
    simp [World.cell?, this] at hc
set_option maxHeartbeats 1000000 in
theorem tz_core (x k idx : Nat) (w : World) (hx0 : ((x : Int) == 0) = false)
    (key : IntKind.u64.wrap (bits BinOp.and IntKind.u64 (x : Int) (IntKind.u64.wrap (-(x : Int))) * 285870213051353865) / 288230376151711744 = (idx : Int))
    (hi : idx < 64) (hk : k < 64) (hcell : w.cell? ⟨2, idx, none⟩ = some (.int .u8 k)) :
    Calls Tryz.prog 190 #[.int .u64 x] w fun e w' => e = .returned (.int .i64 k) ∧ w' = w := by
  go_enter Tryz.func190, Tryz.ntmps190
  go_wp2_with (simp only [key])
  go_ret
  exact ⟨rfl, rfl⟩
theorem tz_any (x : Nat) (hx : x < 18446744073709551616) (hx0 : x ≠ 0) (w : World) (hT : TabW w) : Calls Tryz.prog 190 #[.int .u64 x] w fun e w' => e = .returned (.int .i64 (Lib.ctz 64 x)) ∧ w' = w := by
  obtain ⟨hlow, hk⟩ := Lib.lowest_bit 64 x hx0 hx
  obtain ⟨hi, htab⟩ := Lib.deBruijn64_at _ hk
  have hcell := hT _ hi
  rw [htab] at hcell
  exact tz_core x _ _ w (by simp; omega) (tz64_key x _ hx hx0 hlow) hi hk hcell
/-- words that are read -/
def Ws (w : World) (ao : Option Addr) (ws : List Nat) (B : Nat) : Prop :=
  0 < ws.length → ∃ b off, ao = some ⟨b, off, none⟩ ∧ b < B ∧ ∀ i, i < ws.length → w.cell? ⟨b, off + i, none⟩ = some (.int .u64 ((ws.getD i 0 : Nat) : Int))
theorem Ws.below {w w' : World} {ao : Option Addr} {zs : List Nat} {B : Nat} (h : Ws w ao zs B) (hb : Below B w w') : Ws w' ao zs B := by
  intro hl
  obtain ⟨b, off, e, hlt, hc⟩ := h hl
  exact ⟨b, off, e, hlt, fun j hj => (hb.cell (p := ⟨b, off + j, none⟩) hlt).trans (hc j hj)⟩
theorem Ws.step {A C : World} {row : Option Nat} {ao : Option Addr} {ws : List Nat} {B : Nat} (h : Ws A ao ws B) (hg : A.grownBy C row) (hr : ∀ r, row = some r → ∃ o : Obj, A.heap[r]? = some o ∧ o.isCells = false) : Ws C ao ws B := by
  intro hp
  obtain ⟨b, off, e, hb, hx⟩ := h hp
  exact ⟨b, off, e, hb, fun j hj => cell_kept (hx j hj) hg hr⟩
theorem TabW.step {A C : World} {row : Option Nat} (h : TabW A) (hg : A.grownBy C row) (hr : ∀ r, row = some r → ∃ o : Obj, A.heap[r]? = some o ∧ o.isCells = false) : TabW C := fun j hj => cell_kept (h j hj) hg hr
theorem shl_back (z k : Nat) (hz : z < 18446744073709551616) : IntKind.u64.wrap ((z : Int) / 2 ^ k * 2 ^ k) = ((z >>> k <<< k : Nat) : Int) := by
  have h1 : ((z : Int) / 2 ^ k * 2 ^ k) = ((z >>> k <<< k : Nat) : Int) := by rw [Nat.shiftRight_eq_div_pow, Nat.shiftLeft_eq]; norm_cast
  have h2 : z >>> k <<< k < 2 ^ 64 := left_lt (by omega)
  rw [h1, IntKind.wrap_u64]
  generalize z >>> k <<< k = y at h2
  omega
end Go.Proofs.YtcielbkfolklbaaGreatDoor
