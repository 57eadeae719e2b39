import Derived.Test.YtgbpfejodpplbaaGreatDoorCPSu
import Derived.Shelf.Spec.TrailingZeros
import Derived.Deep.WholeRow
import Derived.RangeFuncKeeps
import Derived.LoopIn
import Derived.LoopNIn
import Derived.TacticsInMore
import Derived.OwnWalkIn
import Derived.OrdersHeld
import Derived.OrdersIn
namespace Go.Proofs.YtgbpfejodpplbaaGreatDoor
open Go.RowKit Go.WideShapes
set_option maxRecDepth 100000

/-- the lowest bit of a word -/
theorem low_bit (x k m : Nat) (h : x = 2 ^ k * (2 * m + 1)) : x.testBit k = true ∧ ∀ j, j < k → x.testBit j = false := by
  subst h
  constructor
  · rw [Nat.testBit_two_pow_mul]
    simp
  · intro j hj
    rw [Nat.testBit_two_pow_mul]
    simp; omega
/-- what next gives: the first number from x on that is there, or N -/
structure NextS (p : Nat → Bool) (N x r : Nat) : Prop where
  none : ∀ y, x ≤ y → y < r → p y = false
  some : r < N → p r = true
  le : r ≤ N
  ge : x ≤ N → x ≤ r
/-- the numbers from a on and below b that are there -/
def rng (p : Nat → Bool) (a b : Nat) : List Nat := (List.range' a (b - a)).filter p
theorem mem_rng {p : Nat → Bool} {a b x : Nat} : x ∈ rng p a b ↔ (a ≤ x ∧ x < b) ∧ p x = true := by
  simp only [rng, List.mem_filter, List.mem_range'_1]
  constructor
  · rintro ⟨⟨h1, h2⟩, h3⟩; exact ⟨⟨h1, by omega⟩, h3⟩
  · rintro ⟨⟨h1, h2⟩, h3⟩; exact ⟨⟨h1, by omega⟩, h3⟩
theorem rng_nil {p : Nat → Bool} {a b : Nat} (h : ∀ y, a ≤ y → y < b → p y = false) : rng p a b = [] := by
  unfold rng
  rw [List.filter_eq_nil_iff]
  intro x hx
  rw [List.mem_range'_1] at hx
  rw [h x hx.1 (by omega)]
  simp
theorem rng_cut {p : Nat → Bool} {a c b : Nat} (h1 : a ≤ c) (h2 : c ≤ b) : rng p a b = rng p a c ++ rng p c b := by
  unfold rng
  rw [← List.filter_append, show b - a = (c - a) + (b - c) by omega, ← List.range'_append_1, show a + (c - a) = c by omega]
theorem rng_one {p : Nat → Bool} {a b : Nat} (h : a < b) (hp : p a = true) : rng p a b = a :: rng p (a + 1) b := by
  unfold rng
  rw [show b - a = (b - (a + 1)) + 1 by omega, List.range'_succ, List.filter_cons, if_pos hp]
theorem rng_next {p : Nat → Bool} {N x r b : Nat} (h : NextS p N x r) (hx : x ≤ N) (hb : b ≤ N) (hr : r < b) : rng p x b = r :: rng p (r + 1) b := by
  rw [rng_cut (h.ge hx) (Nat.le_of_lt hr), rng_nil h.none, List.nil_append, rng_one hr (h.some (by omega))]
theorem rng_last {p : Nat → Bool} {N x r b : Nat} (h : NextS p N x r) (hr : b ≤ r) : rng p x b = [] := rng_nil (fun y h1 h2 => h.none y h1 (by omega))
theorem rng_els (p : Nat → Bool) (n : Nat) : rng p 0 n = els n p := by
  unfold rng els
  rw [List.range_eq_range', Nat.sub_zero]
theorem rng_len (p : Nat → Bool) (a b : Nat) : (rng p a b).length ≤ b - a := by
  have := List.length_filter_le p (List.range' a (b - a))
  rw [List.length_range'] at this
  exact this
/-- the bits of a word from a place on -/
theorem left_bit {z k j : Nat} : (z >>> k <<< k).testBit j = (decide (k ≤ j) && z.testBit j) := by
  rw [Nat.testBit_shiftLeft, Nat.testBit_shiftRight]
  by_cases h : k ≤ j
  · simp [h, show k + (j - k) = j by omega]
  · simp [h]
theorem left_lt {z k : Nat} (hz : z < 2 ^ 64) : z >>> k <<< k < 2 ^ 64 := by
  rw [Nat.shiftRight_eq_div_pow, Nat.shiftLeft_eq]
  exact Nat.lt_of_le_of_lt (Nat.div_mul_le_self _ _) hz
/-- the step of next: a word that has no bit left -/
theorem left_zero {z k : Nat} (h : z >>> k <<< k = 0) (j : Nat) (hj : k ≤ j) : z.testBit j = false := by
  have := left_bit (z := z) (k := k) (j := j)
  rw [h, Nat.zero_testBit] at this
  simpa [hj] using this.symm
theorem belP {a w : World} {o : Obj} (h : Below a.heap.size a w) : Below a.heap.size a (w.alloc o) := h.alloc h.size o
theorem btP {w a b : World} (h1 : Below w.heap.size w a) (h2 : Below a.heap.size a b) : Below w.heap.size w b := h1.trans (h2.mono h1.size)
theorem below_drewP {B : Nat} {a w : World} (h : Below B a w) (n : Nat) : Below B a (w.drewN n) := h.trans ⟨rfl, rfl, rfl, Nat.le_refl _, fun _ _ => rfl⟩
theorem boxed_stepP {A B : World} {row : Option Nat} {b t : Nat} {v : Value} (h : Boxed A b t v) (hg : A.grownBy B row) (hr : ∀ r, row = some r → ∃ o : Obj, A.heap[r]? = some o ∧ o.isCells = false) : Boxed B b t v := by
  refine (hg.block b h.lt (fun e => ?_)).trans h
  obtain ⟨o, ho, hc⟩ := hr b e.symm
  rw [show A.heap[b]? = _ from h] at ho
  cases ho
  cases hc
theorem heap_setP {W : World} {b D : Nat} {v : Value} (h : D ≠ b) : (W.setCell ⟨b, 0, none⟩ v).heap[D]? = W.heap[D]? := Below.heap_setCell _ _ _ _ h
theorem grown_belowP {w w' : World} (h : Below w.heap.size w w') : w.grownBy w' none := ⟨h.os, h.tape, h.output, h.size, fun k hk _ => h.block k hk⟩
/-- the library's table -/
abbrev TabW (w : World) : Prop := TabAt 0 Lib.deBruijn64tab w
theorem TabW.below {B : Nat} {w w' : World} (h : TabW w) (hb : Below B w w') (hB : 0 < B) : TabW w' := fun j hj => (hb.cell (p := ⟨0, j, none⟩) hB).trans (h j hj)
theorem TabW.pos {w : World} (h : TabW w) : 0 < w.heap.size := by
  have hc := h 0 (by decide)
  by_cases hp : 0 < w.heap.size
  · exact hp
  · have : w.heap[0]? = none := Array.getElem?_eq_none (by omega)
    simp [World.cell?, this] at hc
set_option maxHeartbeats 1000000 in
theorem tz_core (x k idx : Nat) (w : World) (hx0 : ((x : Int) == 0) = false)
    (key : IntKind.u64.wrap (bits BinOp.and IntKind.u64 (x : Int) (IntKind.u64.wrap (-(x : Int))) * 285870213051353865) / 288230376151711744 = (idx : Int))
    (hi : idx < 64) (hk : k < 64) (hcell : w.cell? ⟨0, idx, none⟩ = some (.int .u8 k)) :
    Calls Tryz.prog 109 #[.int .u64 x] w fun e w' => e = .returned (.int .i64 k) ∧ w' = w := by
  go_enter Tryz.func109, Tryz.ntmps109
  go_wp2_with (simp only [key])
  go_ret
  exact ⟨rfl, rfl⟩
theorem tz_any (x : Nat) (hx : x < 18446744073709551616) (hx0 : x ≠ 0) (w : World) (hT : TabW w) : Calls Tryz.prog 109 #[.int .u64 x] w fun e w' => e = .returned (.int .i64 (Lib.ctz 64 x)) ∧ w' = w := by
  obtain ⟨hlow, hk⟩ := Lib.lowest_bit 64 x hx0 hx
  obtain ⟨hi, htab⟩ := Lib.deBruijn64_at _ hk
  have hcell := hT _ hi
  rw [htab] at hcell
  exact tz_core x _ _ w (by simp; omega) (tz64_key x _ hx hx0 hlow) hi hk hcell
/-- words that are read -/
def Ws (w : World) (ao : Option Addr) (ws : List Nat) (B : Nat) : Prop :=
  0 < ws.length → ∃ b off, ao = some ⟨b, off, none⟩ ∧ b < B ∧ ∀ i, i < ws.length → w.cell? ⟨b, off + i, none⟩ = some (.int .u64 ((ws.getD i 0 : Nat) : Int))
theorem Ws.below {w w' : World} {ao : Option Addr} {zs : List Nat} {B : Nat} (h : Ws w ao zs B) (hb : Below B w w') : Ws w' ao zs B := by
  intro hl
  obtain ⟨b, off, e, hlt, hc⟩ := h hl
  exact ⟨b, off, e, hlt, fun j hj => (hb.cell (p := ⟨b, off + j, none⟩) hlt).trans (hc j hj)⟩
theorem Ws.step {A C : World} {row : Option Nat} {ao : Option Addr} {ws : List Nat} {B : Nat} (h : Ws A ao ws B) (hg : A.grownBy C row) (hr : ∀ r, row = some r → ∃ o : Obj, A.heap[r]? = some o ∧ o.isCells = false) : Ws C ao ws B := by
  intro hp
  obtain ⟨b, off, e, hb, hx⟩ := h hp
  exact ⟨b, off, e, hb, fun j hj => cell_kept (hx j hj) hg hr⟩
theorem TabW.step {A C : World} {row : Option Nat} (h : TabW A) (hg : A.grownBy C row) (hr : ∀ r, row = some r → ∃ o : Obj, A.heap[r]? = some o ∧ o.isCells = false) : TabW C := fun j hj => cell_kept (h j hj) hg hr
theorem shl_back (z k : Nat) (hz : z < 18446744073709551616) : IntKind.u64.wrap ((z : Int) / 2 ^ k * 2 ^ k) = ((z >>> k <<< k : Nat) : Int) := by
  have h1 : ((z : Int) / 2 ^ k * 2 ^ k) = ((z >>> k <<< k : Nat) : Int) := by rw [Nat.shiftRight_eq_div_pow, Nat.shiftLeft_eq]; norm_cast
  have h2 : z >>> k <<< k < 2 ^ 64 := left_lt (by omega)
  rw [h1, IntKind.wrap_u64]
  generalize z >>> k <<< k = y at h2
  omega
set_option maxHeartbeats 2000000 in
theorem next_any (ao : Option Addr) (cap : Nat) (ws : List Nat) (x : Nat) (w : World) (hn : ws.length ≤ 70000) (hx : x ≤ 64 * ws.length) (hw : ∀ z ∈ ws, z < 2 ^ 64) (hr : Ws w ao ws w.heap.size) (hT : TabW w) :
    Calls Tryz.prog 97 #[.slice ao ws.length cap, .int .i64 x] w fun e w' => (∃ r : Nat, e = .returned (.int .i64 r) ∧ NextS (hasW ws) (64 * ws.length) x r) ∧ w' = w := by
  go_enter Tryz.func97, Tryz.ntmps97
  go_wp2
  go_loopw [5, 6] (fun u v wr => ∃ (I P : Nat), u = .int .i64 P ∧ v = .int .i64 I ∧ P < 64 ∧ x ≤ 64 * I + P ∧ I ≤ ws.length ∧ (∀ y, x ≤ y → y < 64 * I + P → hasW ws y = false) ∧ wr = w)
    (fun _ v _ => ws.length - (intOf v).toNat)
  case atStart => exact ⟨x / 64, x % 64, by go_num, by go_num, Nat.mod_lt _ (by decide), by omega, by omega, fun y h1 h2 => by omega, rfl⟩
  case round =>
    obtain ⟨I, P, rfl, rfl, hP, hxq, hI, hno, hwr⟩ := hrel
    subst hwr
    rename World => w
    have HNO := hidS hno
    clear hno
    by_cases hlt : I < ws.length
    · obtain ⟨b, off, rfl, hb, hc⟩ := hr (by omega)
      have hck := hc I hlt
      have hlt' : (I : Int) < (ws.length : Int) := by omega
      have hwl : ws.getD I 0 < 18446744073709551616 := by
        rw [List.getD_eq_getElem?_getD, List.getElem?_eq_getElem hlt]
        exact hw _ (List.getElem_mem hlt)
      have HH : Hid (∀ j, j < 64 → hasW ws (64 * I + j) = (ws.getD I 0).testBit j) := hidS (fun j hj => by
        unfold hasW
        rw [show (64 * I + j) / 64 = I by omega, show (64 * I + j) % 64 = j by omega])
      generalize ws.getD I 0 = z at hck hwl HH
      have hsh := shl_back z P hwl
      have hll : z >>> P <<< P < 2 ^ 64 := left_lt (by omega)
      have HB : Hid (∀ j, (z >>> P <<< P).testBit j = (decide (P ≤ j) && z.testBit j)) := hidS (fun j => left_bit)
      have HZ : Hid (z >>> P <<< P = 0 → ∀ j, P ≤ j → z.testBit j = false) := hidS (fun h j hj => left_zero h j hj)
      generalize z >>> P <<< P = lf at hsh hll HB HZ
      by_cases hz : lf = 0
      · subst hz
        rw [show ((0 : Nat) : Int) = 0 from rfl] at hsh
        clear hc
        go_wp2
        go_roundw
        case rel => exact ⟨I + 1, 0, rfl, by go_num, by decide, by omega, by omega, fun y h1 h2 => by
          by_cases hy : y < 64 * I + P
          · exact HNO.out y h1 hy
          · have := HH.out (y - 64 * I) (by omega)
            rw [show 64 * I + (y - 64 * I) = y by omega] at this
            rw [this]
            exact HZ.out rfl _ (by omega), by first | rfl | trivial⟩
        case measure => simp [intOf]; omega
      · have hz' : ((lf : Int) != 0) = true := by simp; omega
        have hzi : ¬ (lf : Int) = 0 := by omega
        have hA := tz_any lf (by omega) hz w hT
        obtain ⟨m, hm, hk⟩ := Lib.ctzFrom_spec 64 lf (by omega) hll
        rw [show Lib.ctz 64 lf = Lib.ctzFrom 64 lf from if_neg hz] at hA
        generalize Lib.ctzFrom 64 lf = k at hA hm hk
        have HL := hidS (low_bit lf k m hm)
        clear hm hc
        go_wp2_with (go_at_call 109; with_reducible refine hA.mono ?_; rintro e w2 ⟨rfl, hw2⟩; subst hw2)
        go_ret
        have hPk : P ≤ k := by
          have h1 := HL.out.1
          rw [HB.out] at h1
          simp at h1
          exact h1.1
        refine ⟨⟨64 * I + k, by go_num, ⟨fun y h1 h2 => ?_, fun _ => ?_, by omega, fun _ => by omega⟩⟩, rfl⟩
        · by_cases hy : y < 64 * I + P
          · exact HNO.out y h1 hy
          · have h3 := HH.out (y - 64 * I) (by omega)
            rw [show 64 * I + (y - 64 * I) = y by omega] at h3
            rw [h3]
            have h4 := HL.out.2 (y - 64 * I) (by omega)
            rw [HB.out] at h4
            simpa [show P ≤ y - 64 * I by omega] using h4
        · have h3 := HH.out k hk
          rw [h3]
          have h1 := HL.out.1
          rw [HB.out] at h1
          simp at h1
          exact h1.2
    · have hIe : I = ws.length := by omega
      subst hIe
      go_wp2
      go_ret
      exact ⟨⟨64 * ws.length, by go_num, ⟨fun y h1 h2 => HNO.out y h1 (by omega), fun h => by omega, Nat.le_refl _, fun h => h⟩⟩, rfl⟩
end Go.Proofs.YtgbpfejodpplbaaGreatDoor
namespace Go.Proofs.YtgbpfejodpplbaaGreatDoor
open Go.RowKit Go.WideShapes Go.Shelf
set_option maxRecDepth 100000
attribute [local go_sem] Oper.semAt_some

theorem nilU_eq (a : Option Addr) (n c : Nat) (w : World) : (binOp .eql 143 (.slice a n c) (.slice none 0 0)).run Tryz.prog w = .ok (.bool a.isNone) w := by
  have e : binOp .eql 143 (.slice a n c) (.slice none 0 0) = (do pure (.bool (← Op.equal 143 (.slice a n c) (.slice none 0 0)))) := rfl
  rw [e, Sem.run_bind, run_equal_slice_nil w _ _ a n c Tryz.underlying143]
  rfl
set_option maxHeartbeats 1000000 in
theorem cloneU_any (g cap : Nat) (ws : List Nat) (w : World) (hn : ws.length ≤ 70000) (hr : URd w g 0 ws) (hg : g < w.heap.size) :
    Calls Tryz.prog 70 #[.slice (some ⟨g, 0, none⟩) ws.length cap] w fun e w' => ∃ v, e = .returned v ∧ w'.ownsRow w.heap.size 73 1 v ws.length (uv ws) ∧ Below w.heap.size w w' := by
  obtain ⟨i0, hi, hz0, hz1, hz2⟩ := info_parts Tryz.infoU
  have hq := nilU_eq (some ⟨g, 0, none⟩) ws.length cap w
  have own0 := World.ownsRow_lit (size := 1) (base := w.heap.size) (e := 73) w #[] 0 (Nat.le_refl _) (by decide) rfl
  have hb0 : Below w.heap.size w (w.alloc (.cells #[] 73)) := (Below.refl w.heap.size w).alloc (Nat.le_refl _) _
  have HC : Hid (∀ j u, (uv ws)[j]? = some u → (w.alloc (.cells #[] 73)).cell? ((⟨g, 0, none⟩ : Addr).add j) = some u) := hidS (fun j u hj => by
    have hjl : j < ws.length := by
      have := (List.getElem?_eq_some_iff.1 hj).1
      simpa [uv] using this
    rw [add_plain, Nat.zero_add, hb0.cell (p := ⟨g, j, none⟩) hg]
    have := hr j hjl
    rw [Nat.zero_add] at this
    rw [this]
    simp [uv, hjl] at hj
    simp [hjl, hj])
  clear hr
  go_enter Tryz.func70, Tryz.ntmps70
  go_wp2_with (at_builtin; refine wpList_append_own _ rfl _ _ 143 rfl w.heap.size 73 i0 (.int .u64 0) 1 8 Tryz.underlying143 hi hz0 hz1 hz2 rfl (by decide) _ 0 [] rfl own0 ⟨g, 0, none⟩ ws.length cap (uv ws) rfl ?d0 HC.out ?d2 ?d3 ?d4 ?d5 ?_)
  case d0 => simp [uv]
  case d2 => intro u hu; simp [uv] at hu; obtain ⟨z, _, rfl⟩ := hu; rfl
  case d3 => unfold maxLen; omega
  case d4 => omega
  intro v' w1 hown' hgrow _
  have R2 : Below w.heap.size w w1 := hb0.grown hgrow (by simp) (fun k e => by simp [Value.ownBlock] at e; omega)
  clear hgrow own0 hb0 HC
  go_wp2
  go_ret
  exact ⟨_, rfl, hown', R2⟩
theorem own_ws {w : World} {B : Nat} {v : Value} {ws : List Nat} (h : w.ownsRow B 73 1 v ws.length (uv ws)) : ∃ ao cap, v = .slice ao ws.length cap ∧ Ws w ao ws w.heap.size := by
  have h' := h
  have hlt := h.lt
  rcases h.2 with ⟨rfl, hz⟩ | ⟨g, cap, cur, rfl, _⟩
  · exact ⟨none, 0, by rw [hz], fun hp => by omega⟩
  · refine ⟨_, cap, rfl, fun _ => ⟨g, 0, rfl, (hlt g rfl).2, fun j hj => ?_⟩⟩
    rw [Nat.zero_add, h'.cellAt j (by omega)]
    simp [uv, hj]
/-- what an iterator over words keeps by it -/
structure InP (ws : List Nat) (Bw Bf Be : Nat) (ao : Option Addr) (cap f e B0 : Nat) (W : World) : Prop where
  bw : Boxed W Bw 143 (.slice ao ws.length cap)
  bf : Boxed W Bf 3 (.int .i64 f)
  be : Boxed W Be 3 (.int .i64 e)
  ws : Ws W ao ws B0
  tab : TabW W
theorem InP.step {ws : List Nat} {Bw Bf Be : Nat} {ao : Option Addr} {cap f e B0 : Nat} {A C : World} {row : Option Nat} (h : InP ws Bw Bf Be ao cap f e B0 A) (hg : A.grownBy C row) (hr : ∀ r, row = some r → ∃ o : Obj, A.heap[r]? = some o ∧ o.isCells = false) : InP ws Bw Bf Be ao cap f e B0 C :=
  ⟨boxed_stepP h.bw hg hr, boxed_stepP h.bf hg hr, boxed_stepP h.be hg hr, h.ws.step hg hr, TabW.step h.tab hg hr⟩
theorem InP.below {ws : List Nat} {Bw Bf Be : Nat} {ao : Option Addr} {cap f e B0 B : Nat} {A C : World} (h : InP ws Bw Bf Be ao cap f e B0 A) (hb : Below B A C) (h1 : Bw < B) (h2 : Bf < B) (h3 : Be < B) (h4 : B0 ≤ B) (h5 : 0 < B) : InP ws Bw Bf Be ao cap f e B0 C :=
  ⟨(hb.block Bw h1).trans h.bw, (hb.block Bf h2).trans h.bf, (hb.block Be h3).trans h.be, h.ws.below (hb.mono h4), h.tab.below hb h5⟩
abbrev KeP (ws : List Nat) (Bw Bf Be : Nat) (ao : Option Addr) (cap f e B0 : Nat) (W W' : World) : Prop := InP ws Bw Bf Be ao cap f e B0 W → InP ws Bw Bf Be ao cap f e B0 W'
theorem KeP_t {ws : List Nat} {Bw Bf Be : Nat} {ao : Option Addr} {cap f e B0 : Nat} {A B C : World} (h : KeP ws Bw Bf Be ao cap f e B0 A B) (k : KeP ws Bw Bf Be ao cap f e B0 B C) : KeP ws Bw Bf Be ao cap f e B0 A C := fun x => k (h x)
theorem KeP_b {ws : List Nat} {Bw Bf Be : Nat} {ao : Option Addr} {cap f e B0 : Nat} {w : World} (W : World) (l : Nat) (o o' : Obj) (_ : w.heap.size ≤ l) (h : W.heap[l]? = some o) (hc : o.isCells = false) (_ : o.isWalk = false) : KeP ws Bw Bf Be ao cap f e B0 W (W.putObj l o') :=
  fun x => x.step (grownBy_putObj' W l o') (fun r e => by cases e; exact ⟨o, h, hc⟩)
theorem pre_snoc_len {pre L : List Nat} {x : Nat} (h : pre ++ [x] <+: L) : pre.length < L.length := by
  have := h.length_le
  simp at this
  omega
abbrev encuint32 (x : Nat) : Array Value := #[.int .u32 x]
set_option maxHeartbeats 2000000 in
theorem withinuint32_in (n : Nat) (hn1 : 2 ≤ n) (l Bw Bf Be B0 : Nat) (ao : Option Addr) (cap f e : Nat) (ws : List Nat) (J Jx : List Nat → World → Prop) (W : World)
    (hl : ws.length ≤ 16384) (hw : ∀ z ∈ ws, z < 2 ^ 64) (hf : f ≤ 64 * ws.length) (he : e ≤ 64 * ws.length)
    (hY : ∀ pre x W1, J pre W1 → pre.length < 1048577 → pre ++ [x] <+: rng (hasW ws) f e → YieldAt Fence.wide (n - 1) Tryz.prog l (encuint32 x) W1 fun en W' =>
      (en = .returned (.bool true) ∧ J (pre ++ [x]) W' ∧ KeP ws Bw Bf Be ao cap f e B0 W1 W' ∧ Upon W.heap.size W1 W') ∨ (en = .returned (.bool false) ∧ Jx (pre ++ [x]) W' ∧ Upon W.heap.size W1 W'))
    (hP : InP ws Bw Bf Be ao cap f e B0 W) (hB0 : B0 ≤ W.heap.size) (h0 : J [] W) :
    CallsIn Fence.wide n Tryz.prog 96 #[.func (.yield l) #[] #[], .pointer (some ⟨Bw, 0, none⟩), .pointer (some ⟨Bf, 0, none⟩), .pointer (some ⟨Be, 0, none⟩)] W fun en W' => (∃ v, en = .returned v) ∧
      ((∃ ys, ys = rng (hasW ws) f e ∧ J ys W') ∨ (∃ pre, pre <+: rng (hasW ws) f e ∧ Jx pre W')) := by
  refine callsIn_of_wp Tryz.func96 rfl trivial ?_ rfl
  simp only [Tryz.ntmps96, List.size_toArray, List.length_cons, List.length_nil, Nat.reduceAdd, Nat.reduceSub, Array.replicate_succ, Array.replicate_zero, List.push_toArray, List.append_toArray, List.nil_append, List.cons_append]
  have hX : ∀ (V : World) (x : Nat), InP ws Bw Bf Be ao cap f e B0 V → B0 ≤ V.heap.size → x ≤ 64 * ws.length → Calls Tryz.prog 97 #[.slice ao ws.length cap, .int .i64 x] V fun en w' => (∃ r : Nat, en = .returned (.int .i64 r) ∧ NextS (hasW ws) (64 * ws.length) x r) ∧ w' = V := fun V x hV hB hx => next_any ao cap ws x V (by omega) hx hw (fun hp => by obtain ⟨b, off, h1, h2, h3⟩ := hV.ws hp; exact ⟨b, off, h1, by omega, h3⟩) hV.tab
  have hn0 : 1 ≤ n := by omega
  have HX := hidS hX
  have HP := hidS hP
  have c1 := hP.bw.cell
  have c2 := hP.bf.cell
  have hA := hX W f hP hB0 hf
  clear hX hP
  gi_wp2_with ((first | refine ⟨trivial, fun _ => by omega, ?_⟩ | refine ⟨trivial, ?_⟩); gi_at_call 97; refine (callsIn_wide.2 hA).mono ?_; rintro en w2 ⟨⟨r, rfl, hr⟩, hw2⟩; subst hw2)
  rename World => W
  gi_loopw [5] (fun u wr => ∃ (q r : Nat) (pre : List Nat), u = .int .i64 r ∧ NextS (hasW ws) (64 * ws.length) q r ∧ q ≤ 64 * ws.length ∧ pre ++ rng (hasW ws) q e = rng (hasW ws) f e ∧ InP ws Bw Bf Be ao cap f e B0 wr ∧ W.heap.size ≤ wr.heap.size ∧ J pre wr)
    (fun u _ => 64 * ws.length - (intOf u).toNat)
  case atStart => exact ⟨f, r, [], rfl, hr, hf, rfl, HP.out, Nat.le_refl _, h0⟩
  case round =>
    clear c1 c2 h0 hr hA HP
    obtain ⟨q, r, pre, rfl, hr, hq, hpre, hP, hsz, hj⟩ := hrel
    have c3 := hP.be.cell
    have hrN := hr.le
    by_cases hlt : r < e
    · have hlI : (r : Int) < (e : Int) := by omega
      have hcut := rng_next hr hq he hlt
      rw [hcut] at hpre
      have hsp : pre ++ [r] <+: rng (hasW ws) f e := ⟨rng (hasW ws) (r + 1) e, by rw [← hpre]; simp⟩
      have hlen : pre.length < 1048577 := by
        have h1 := pre_snoc_len hsp
        have h2 := rng_len (hasW ws) f e
        omega
      obtain ⟨fn, tmps, assign, body, hy, hR⟩ := hY pre r wr hj hlen hsp
      have hy' : (Instr.yield l #[.int .u32 (r : Int)]).run Tryz.prog wr = .ok (.round l fn tmps assign body) wr := hy
      have HPre := hidS hpre
      have hr32 : r < 4294967296 := by omega
      clear hy hY hcut hpre hsp
      gi_wp2
      refine hR.mono ?_
      clear hy' hR c3
      rintro en W3 (⟨rfl, hJ3, hk3, hu3⟩ | ⟨rfl, hJx3, hu3⟩)
      · have hP3 := hk3 hP
        have hs3 := hu3.size
        have c1 := hP3.bw.cell
        have hA := HX.out W3 (r + 1) hP3 (by omega) (by omega)
        rw [show (((r + 1 : Nat)) : Int) = (r : Int) + 1 by omega] at hA
        gi_wp2_with ((first | refine ⟨trivial, fun _ => by omega, ?_⟩ | refine ⟨trivial, ?_⟩); gi_at_call 97; refine (callsIn_wide.2 hA).mono ?_; rintro en w2 ⟨⟨r2, rfl, hr2⟩, hw2⟩; subst hw2)
        go_roundw
        case rel => exact ⟨r + 1, r2, pre ++ [r], rfl, hr2, by omega, by rw [← HPre.out]; simp, hP3, by omega, hJ3⟩
        case measure => have := hr2.ge (by omega); simp [intOf]; omega
      · gi_wp2
        refine bodyPost_ret (results_none rfl _ _ _) rfl ?_
        exact ⟨⟨_, rfl⟩, .inr ⟨_, ⟨rng (hasW ws) (r + 1) e, by rw [← HPre.out]; simp⟩, hJx3⟩⟩
    · have hlI : ¬ (r : Int) < (e : Int) := by omega
      have hnil := rng_last hr (b := e) (by omega)
      rw [hnil, List.append_nil] at hpre
      clear hY
      gi_wp2
      go_end0
      rw [hpre] at hj
      first | exact ⟨⟨_, rfl⟩, .inl hj⟩ | exact ⟨⟨_, rfl⟩, .inl ⟨_, rfl, hj⟩⟩
theorem sequint32 (n : Nat) (hn1 : 2 ≤ n) (Bw Bf Be B0 : Nat) (ao : Option Addr) (cap f e : Nat) (ws : List Nat) (w : World) (hl : ws.length ≤ 16384) (hw : ∀ z ∈ ws, z < 2 ^ 64) (hf : f ≤ 64 * ws.length) (he : e ≤ 64 * ws.length)
    (hP : InP ws Bw Bf Be ao cap f e B0 w) (hB0 : B0 ≤ w.heap.size) (hp : 0 < w.heap.size) :
    SeqOwn Fence.wide n Tryz.prog 96 #[.pointer (some ⟨Bw, 0, none⟩), .pointer (some ⟨Bf, 0, none⟩), .pointer (some ⟨Be, 0, none⟩)] encuint32 (KeP ws Bw Bf Be ao cap f e B0) (fun ys => ys = rng (hasW ws) f e) (fun pre => pre <+: rng (hasW ws) f e) 1048577 w :=
  fun l J Jx W hW _ _ hY h0 => withinuint32_in n hn1 l Bw Bf Be B0 ao cap f e ws J Jx W hl hw hf he hY (hP.below hW hP.bw.lt hP.bf.lt hP.be.lt hB0 hp) (Nat.le_trans hB0 hW.size) h0
theorem withinuint32_any (ao : Option Addr) (n cap : Nat) (f e : Int) (w : World) :
    Calls Tryz.prog 72 #[.slice ao n cap, .int .i64 f, .int .i64 e] w fun en w' => en = .returned (.func (.func 96) #[] #[.pointer (some ⟨w.heap.size, 0, none⟩), .pointer (some ⟨w.heap.size + 1, 0, none⟩), .pointer (some ⟨w.heap.size + 2, 0, none⟩)]) ∧
      w' = ((w.alloc (.cells #[.slice ao n cap] 143)).alloc (.cells #[.int .i64 f] 3)).alloc (.cells #[.int .i64 e] 3) := by
  go_enter Tryz.func72, Tryz.ntmps72
  go_wp2
  go_ret
  exact ⟨rfl, rfl⟩
set_option maxHeartbeats 1000000 in
theorem setalluint32_any (p g bound n : Nat) (ws : List Nat) (w : World) (h : SetR w p g bound ws n) (hT : TabW w) :
    Calls Tryz.prog 48 #[.pointer (some ⟨p, 0, none⟩)] w fun en w' => ∃ (Bw Bf Be : Nat) (ao : Option Addr) (cap B0 : Nat), en = .returned (.func (.func 96) #[] #[.pointer (some ⟨Bw, 0, none⟩), .pointer (some ⟨Bf, 0, none⟩), .pointer (some ⟨Be, 0, none⟩)]) ∧
      InP ws Bw Bf Be ao cap 0 (64 * ws.length) B0 w' ∧ B0 ≤ w'.heap.size ∧ w.heap.size ≤ Bw ∧ w.heap.size ≤ Bf ∧ w.heap.size ≤ Be ∧ (∀ b off, ao = some ⟨b, off, none⟩ → w.heap.size ≤ b) ∧ Below w.heap.size w w' := by
  have hl : ws.length ≤ 16384 := by have := h.len; have := h.bd; omega
  have hp := h.ltp
  have hpt := hT.pos
  have hH := held_any p g bound n ws w h
  have hC := cloneU_any g ws.length ws w (by omega) h.reads h.ltg
  clear h
  go_enter Tryz.func48, Tryz.ntmps48
  go_wp2_with (first
    | (go_at_call 71; with_reducible refine hH.mono ?_; rintro e w1 ⟨rfl, hw1⟩; subst hw1)
    | (go_at_call 70; with_reducible refine hC.mono ?_; rintro e w2 ⟨v, rfl, ho2, hq2⟩; have ho3 := ho2; obtain ⟨ao, cap, rfl, hws⟩ := own_ws ho2; have hA := withinuint32_any ao ws.length cap 0 ((ws.length : Int) * 64) w2)
    | (go_at_call 72; with_reducible refine hA.mono ?_; rintro e w3 ⟨rfl, hw3⟩))
  go_ret
  subst hw3
  have hz := hq2.size
  refine ⟨w2.heap.size, w2.heap.size + 1, w2.heap.size + 2, ao, cap, w2.heap.size, rfl, ⟨((Boxed.new w2 _ _).alloc _).alloc _, ?_, ?_, hws.below (((Below.refl _ w2).alloc (Nat.le_refl _) _).alloc (by simp) _ |>.alloc (by simp; omega) _), (hT.below hq2 (by omega)).below (((Below.refl _ w2).alloc (Nat.le_refl _) _).alloc (by simp) _ |>.alloc (by simp; omega) _) (by omega)⟩, by simp; omega, hz, by omega, by omega, ?_, ((hq2.alloc hz _).alloc (by simp; omega) _).alloc (by simp; omega) _⟩
  · have := (Boxed.new (w2.alloc (.cells #[.slice ao ws.length cap] 143)) 3 (.int .i64 0)).alloc (.cells #[.int .i64 ((ws.length : Int) * 64)] 3)
    rw [World.size_alloc] at this
    exact this
  · have := Boxed.new ((w2.alloc (.cells #[.slice ao ws.length cap] 143)).alloc (.cells #[.int .i64 0] 3)) 3 (.int .i64 ((ws.length : Int) * 64))
    rw [World.size_alloc, World.size_alloc] at this
    rw [show ((64 * ws.length : Nat) : Int) = (ws.length : Int) * 64 by omega]
    exact this
  · rintro b off rfl
    exact (ho3.lt b rfl).1
end Go.Proofs.YtgbpfejodpplbaaGreatDoor
namespace Go.Proofs.YtgbpfejodpplbaaGreatDoor
open Go.RowKit
set_option maxRecDepth 100000

section
variable {F : Fence} {n : Nat} {P : Program} {ops : Array Oper} {Q : Exit → Act → World → Prop} {md : Region.Mode} {S : World → Prop}

/-- it yields v wherever S holds, and calls nothing -/
def YieldsG (P : Program) (ops : Array Oper) (S : World → Prop) (o : Oper) (v : Value) (a : Act) : Prop := YieldsIf P ops S o v a ∧ ∀ w, o.about P w a.eval = none
theorem YieldsG.put {oi oj : Oper} {v : Value} {a : Act} (hy : YieldsG P ops S oi v a) (hsi : ∀ cs b, oi.op ≠ .select cs b) (h3 : ∀ d, oj.dst = some d → d ∉ oi.looksAt ops) (u : Value) : YieldsG P ops S oi v (a.put oj.dst u) :=
  ⟨hy.1.of_same (execOp_put oi hsi a oj.dst u h3) (wanted_put oi a oj.dst u h3), fun w => by rw [about_put oi w a oj.dst u h3]; exact hy.2 w⟩
theorem YieldsG.op {i : Nat} {o : Oper} {v : Value} {a : Act} (hro : F.round = none) (hi : ops[i]? = some o) (hy : YieldsG P ops S o v a) {K : Act → World → Prop} {w : World} (hS : S w) (h : K (a.put o.dst v) w) : wpOpIn F n P ops Q i K a w := by
  unfold Go.wpOpIn
  simp only [hi]
  have hab : ∀ f, o.about P w a.eval = some f → F.fn f := fun f hf => by rw [hy.2 w] at hf; cases hf
  rcases hy.1 with ⟨hw, hv⟩ | ⟨hw, rfl⟩
  · simp only [hw, if_true, Oper.wpIn, hro, Oper.semAt_none, hv w hS, Oper.uponIn]; exact ⟨hab, h⟩
  · simp only [hw, Bool.false_eq_true, if_false]; exact ⟨hab, h⟩
/-- another operation, apart from it, does not see whether it has come up -/
theorem putG {j : Nat} {oi oj : Oper} {v : Value} (hro : F.round = none) (hj : ops[j]? = some oj) (hap : oi.apart ops oj = true)
    (hsi : ∀ cs b, oi.op ≠ .select cs b) (hsj : ∀ cs b, oj.op ≠ .select cs b)
    (hQ : ∀ c a w, Q (.panic c) (a.put oi.dst v) w → Q (.panic c) a w) {K : Act → World → Prop} {a : Act} {w : World}
    (hy : YieldsG P ops S oi v a) (h : wpOpIn F n P ops Q j K (a.put oi.dst v) w) :
    wpOpIn F n P ops Q j (fun a' w' => YieldsG P ops S oi v a' ∧ K (a'.put oi.dst v) w') a w := by
  obtain ⟨h1, h2, h3⟩ := Oper.apart_spec hap
  have keep : ∀ (b : Act), YieldsG P ops S oi v b → ∀ u, YieldsG P ops S oi v (b.put oj.dst u) := fun b hb u => hb.put hsi h3 u
  unfold wpOpIn at *
  simp only [hj] at *
  rw [wanted_put oj a oi.dst v h1, about_put oj w a oi.dst v h1] at h
  by_cases hw : Region.wanted oj (yielded ops a.tmps) = true
  · simp only [hw, if_true] at h ⊢
    unfold Oper.wpIn at *
    rw [about_put oj w a oi.dst v h1] at h
    obtain ⟨hf, h⟩ := h
    refine ⟨hf, ?_⟩
    rw [hro, Oper.semAt_none, execOp_put oj hsj a oi.dst v h1] at h
    rw [hro, Oper.semAt_none]
    generalize (execOp a.eval oj).run P w = r at *
    cases r with
    | ok x w' =>
      cases x <;> simp only [Oper.uponIn] at h ⊢
      case value u => exact ⟨keep a hy u, by rw [← Act.put_comm a v u h2]; exact h⟩
      case skip => exact ⟨keep a hy _, by rw [← Act.put_comm a v undef h2]; exact h⟩
      case defer d =>
        refine ⟨keep { a with defers := d :: a.defers } ⟨hy.1.of_same rfl rfl, hy.2⟩ _, ?_⟩
        rw [← Act.put_comm _ v undef h2, ← Act.put_defers]
        exact h
      case enter f args =>
        refine ⟨h.1, CallsIn.mono h.2 fun e w'' he => ?_⟩
        cases e with
        | returned u => exact ⟨keep a hy u, by rw [← Act.put_comm a v u h2]; exact he⟩
        | panicked c => exact hQ _ _ _ he
        | outgrown => exact he
      case row row args => exact ⟨h.1, RowsIn.mono h.2 fun u w'' he => ⟨keep a hy u, by rw [← Act.put_comm a v u h2]; exact he⟩⟩
      case round l f tmps assign body =>
        refine ⟨h.1, RoundIn.mono h.2 fun e w'' he => ?_⟩
        cases e with
        | returned u => exact ⟨keep a hy u, by rw [← Act.put_comm a v u h2]; exact he⟩
        | panicked c => exact hQ _ _ _ he
        | outgrown => exact he
    | halt x w' =>
      cases x <;> simp only [Oper.uponIn] at h ⊢
      case panic u => exact hQ _ _ _ h
  · simp only [hw] at h ⊢
    exact ⟨h.1, keep a hy _, by rw [← Act.put_comm a v undef h2]; exact h.2⟩
/-- whatever order is picked; S is owed behind every operation but number z -/
def wpAnyG (F : Fence) (n : Nat) (P : Program) (md : Region.Mode) (ops : Array Oper) (Q : Exit → Act → World → Prop) (S : World → Prop) (z : Nat) : Nat → Array Bool → Act → World → Prop
  | 0, listed, a, w => Region.ready md ops listed = [] ∧ Q .normal a w
  | fuel + 1, listed, a, w =>
    (Region.ready md ops listed = [] → Q .normal a w) ∧
    ∀ i ∈ Region.ready md ops listed, wpOpIn F n P ops Q i (fun a' w' => (i ≠ z → S w') ∧ wpAnyG F n P md ops Q S z fuel (listed.setIfInBounds i true) a' w') a w
theorem wpAnyIn_of_G {z : Nat} : ∀ (fuel : Nat) (listed : Array Bool) (a : Act) (w : World), wpAnyG F n P md ops Q S z fuel listed a w → wpAnyIn F n P md ops Q fuel listed a w
  | 0, _, _, _, h => h
  | fuel + 1, _, _, _, h => ⟨h.1, fun i hi => wpOpIn_mono (fun a' w' h' => wpAnyIn_of_G fuel _ a' w' h'.2) (h.2 i hi)⟩
/-- z waits for i -/
def waits (md : Region.Mode) (ops : Array Oper) (z i : Nat) : Bool := match ops[z]? with | some o => o.after.any fun e => Region.binds md e && e.on == i | none => false
theorem wpAnyG_first {z i : Nat} {oi : Oper} {v : Value} (hro : F.round = none) (hi : ops[i]? = some oi) (hsel : ∀ (j : Nat) (o : Oper) cs b, ops[j]? = some o → o.op ≠ .select cs b)
    (hQ : ∀ c a w, Q (.panic c) (a.put oi.dst v) w → Q (.panic c) a w) (hz : waits md ops z i = true) :
    ∀ (fuel : Nat) (listed : Array Bool) (a : Act) (w : World),
      (∀ j oj, ops[j]? = some oj → j ≠ i → listed.getD j true = false → (∀ e ∈ oj.after, Region.binds md e = true → e.on ≠ i) → oi.apart ops oj = true) →
      i ∈ Region.ready md ops listed → YieldsG P ops S oi v a → S w →
      wpAnyG F n P md ops Q S z fuel (listed.setIfInBounds i true) (a.put oi.dst v) w → wpAnyG F n P md ops Q S z (fuel + 1) listed a w := by
  intro fuel
  induction fuel with
  | zero =>
    intro listed a w _ hr hy hS H
    refine ⟨fun h => (by rw [h] at hr; cases hr), fun j hj => ?_⟩
    by_cases hji : j = i
    · subst hji; exact hy.op hro hi hS ⟨fun _ => hS, H⟩
    · have := ready_mono hj hji
      rw [H.1] at this
      cases this
  | succ fuel ih =>
    intro listed a w hfree hr hy hS H
    refine ⟨fun h => (by rw [h] at hr; cases hr), fun j hj => ?_⟩
    by_cases hji : j = i
    · subst hji; exact hy.op hro hi hS ⟨fun _ => hS, H⟩
    · have h1 := H.2 j (ready_mono hj hji)
      obtain ⟨hjun, oj, hoj, hall⟩ := mem_ready.1 hj
      have hnot : ∀ e ∈ oj.after, Region.binds md e = true → e.on ≠ i := fun e he hb heq => by
        have h1 := hall e he hb
        have h0 := (mem_ready.1 hr).1
        rw [heq] at h1
        rcases Nat.lt_or_ge i listed.size with h' | h'
        · simp [h'] at h0 h1; rw [h0] at h1; cases h1
        · simp [Array.getElem?_eq_none h'] at h1
      have hjz : j ≠ z := fun e => by
        subst e
        unfold waits at hz
        simp only [hoj] at hz
        rw [Array.any_eq_true'] at hz
        obtain ⟨x, hx1, hx2⟩ := hz
        simp at hx2
        exact hnot x hx1 hx2.1 hx2.2
      have h2 := putG hro hoj (hfree j oj hoj hji hjun hnot) (fun cs b => hsel i oi cs b hi) (fun cs b => hsel j oj cs b hoj) hQ hy h1
      have hfree' : ∀ k ok, ops[k]? = some ok → k ≠ i → (listed.setIfInBounds j true).getD k true = false →
          (∀ e ∈ ok.after, Region.binds md e = true → e.on ≠ i) → oi.apart ops ok = true := fun k ok hk hki hun hno => by
        refine hfree k ok hk hki ?_ hno
        by_cases hjk : j = k
        · subst hjk; exact hjun
        · rw [getD_set_ne true hjk] at hun; exact hun
      refine wpOpIn_mono (fun a' w' h3 => ⟨h3.2.1, ih (listed.setIfInBounds j true) a' w' hfree' (ready_mono hr (Ne.symm hji)) h3.1 (h3.2.1 hjz) ?_⟩) h2
      rw [Array.setIfInBounds_comm _ _ hji]
      exact h3.2.2
theorem wpAnyG_take {z i : Nat} {oi : Oper} {v : Value} {fuel : Nat} {listed : Array Bool} {a : Act} {w : World} (hro : F.round = none) (hi : ops[i]? = some oi)
    (hs : Region.noSelect ops = true) (hf : Region.free md ops listed i = true) (hr : (Region.ready md ops listed).contains i = true)
    (hQ : ∀ c a w, Q (.panic c) (a.put oi.dst v) w → Q (.panic c) a w) (hz : waits md ops z i = true) (hy : YieldsG P ops S oi v a) (hS : S w)
    (h : wpAnyG F n P md ops Q S z fuel (listed.setIfInBounds i true) (a.put oi.dst v) w) : wpAnyG F n P md ops Q S z (fuel + 1) listed a w :=
  wpAnyG_first hro hi (Region.noSelect_spec hs) hQ hz fuel listed a w (Region.free_spec hi hf) (by simpa using hr) hy hS h
/-- one alone may come up -/
theorem wpAnyG_one {z i : Nat} {o : Oper} {fuel : Nat} {listed : Array Bool} {a : Act} {w : World} (hr : Region.ready md ops listed = [i]) (ho : ops[i]? = some o) (hw : Region.wanted o (yielded ops a.tmps) = true)
    (h : o.wpIn F n P a w (fun a' w' => (i ≠ z → S w') ∧ wpAnyG F n P md ops Q S z fuel (listed.setIfInBounds i true) a' w') Q) : wpAnyG F n P md ops Q S z (fuel + 1) listed a w :=
  ⟨fun h0 => (by rw [hr] at h0; cases h0), fun j hj => by
    rw [hr] at hj
    obtain rfl := List.mem_singleton.1 hj
    unfold wpOpIn
    simp only [ho, hw, if_true]
    exact h⟩
theorem wpAnyG_done {z : Nat} {listed : Array Bool} {a : Act} {w : World} (hr : Region.ready md ops listed = []) (h : Q .normal a w) : ∀ fuel, wpAnyG F n P md ops Q S z fuel listed a w
  | 0 => ⟨hr, h⟩
  | _ + 1 => ⟨fun _ => h, by rw [hr]; simp⟩
end
/-- such a region, in a round or out of it -/
theorem region_G {F : Fence} {n : Nat} {P : Program} {id : Nat} {ops : Array Oper} {Q : Exit → Act → World → Prop} {a : Act} {w : World} (S : World → Prop) (z : Nat) (hd : ∀ (i : Nat) (o : Oper), ops[i]? = some o → noDefer o = true) (hm : P.follows .mixedOrders = true)
    (h : wpAnyG F.plain n P .any ops Q S z ops.size (Array.replicate ops.size false) a w.drew) : (Code.region id ops true).wpIn F n P Q a w :=
  wpIn_region_any hm (any_plain hd _ _ _ _ (wpAnyIn_of_G _ _ _ _ h))
end Go.Proofs.YtgbpfejodpplbaaGreatDoor
