import Derived.Test.YtnjglagfpghbjaaDoorCP8
import Derived.Test.YtnjglagfpghbjaaDoorCP10
namespace Go.Proofs.YtnjglagfpghbjaaDoor
open Go.RowKit Go.WideShapes
set_option maxRecDepth 100000

/-- how many bits are set, as Go counts them -/
def oc1 (n : Int) : Int := IntKind.u64.wrap (bits .and .u64 (n / 2) 6148914691236517205 + bits .and .u64 n 6148914691236517205)
def oc2 (x : Int) : Int := IntKind.u64.wrap (bits .and .u64 (x / 4) 3689348814741910323 + bits .and .u64 x 3689348814741910323)
def oc3 (x : Int) : Int := bits .and .u64 (IntKind.u64.wrap (x / 16 + x)) 1085102592571150095
def oc4 (x : Int) : Int := IntKind.u64.wrap (x + x / 256)
def oc5 (x : Int) : Int := IntKind.u64.wrap (x + x / 65536)
def oc6 (x : Int) : Int := IntKind.u64.wrap (x + x / 4294967296)
def oc7 (x : Int) : Int := bits .and .i64 (wrap64 x) 127
def oc (n : Int) : Int := oc7 (oc6 (oc5 (oc4 (oc3 (oc2 (oc1 n))))))
def p1 (n : Nat) : Nat := ((n / 2) &&& 6148914691236517205) + (n &&& 6148914691236517205)
def p2 (n : Nat) : Nat := ((n / 4) &&& 3689348814741910323) + (n &&& 3689348814741910323)
def p3 (n : Nat) : Nat := (n / 16 + n) &&& 1085102592571150095
def pc (n : Nat) : Nat :=
  let x := p3 (p2 (p1 n))
  let y := x + x / 256
  let z := y + y / 65536
  (z + z / 4294967296) &&& 127
theorem and_k (k : IntKind) (a b : Nat) (hk : k = .u64 ∨ k = .i64) (ha : a < 9223372036854775808) (hb : b < 9223372036854775808) : bits .and k (a : Int) (b : Int) = ((a &&& b : Nat) : Int) := by
  have hx : a &&& b < 2 ^ 63 := Nat.and_lt_two_pow _ (by omega)
  have h1 : (BitVec.ofInt 64 (a : Int)).toNat = a := by
    rw [BitVec.ofInt_natCast, BitVec.toNat_ofNat]; exact Nat.mod_eq_of_lt (by omega)
  have h2 : (BitVec.ofInt 64 (b : Int)).toNat = b := by
    rw [BitVec.ofInt_natCast, BitVec.toNat_ofNat]; exact Nat.mod_eq_of_lt (by omega)
  rcases hk with rfl | rfl
  · show IntKind.u64.wrap ((BitVec.ofInt 64 (a : Int) &&& BitVec.ofInt 64 (b : Int)).toNat : Int) = _
    rw [BitVec.toNat_and, h1, h2, IntKind.wrap_u64]
    omega
  · show IntKind.i64.wrap ((BitVec.ofInt 64 (a : Int) &&& BitVec.ofInt 64 (b : Int)).toNat : Int) = _
    rw [BitVec.toNat_and, h1, h2]
    rw [IntKind.wrap_i64]; omega
theorem wr_u (n : Nat) (h : n < 9223372036854775808) : IntKind.u64.wrap (n : Int) = n := by rw [IntKind.wrap_u64]; omega
theorem pc_eq (n : Nat) : pc n = (p3 (p2 (p1 n)) + p3 (p2 (p1 n)) / 256 + (p3 (p2 (p1 n)) + p3 (p2 (p1 n)) / 256) / 65536 + (p3 (p2 (p1 n)) + p3 (p2 (p1 n)) / 256 + (p3 (p2 (p1 n)) + p3 (p2 (p1 n)) / 256) / 65536) / 4294967296) &&& 127 := rfl
theorem oc_pc (n : Nat) (h : n ≤ 65536) : oc (n : Int) = (pc n : Nat) := by
  rw [pc_eq]
  have a1 : n / 2 &&& 6148914691236517205 ≤ n / 2 := Nat.and_le_left
  have a2 : n &&& 6148914691236517205 ≤ n := Nat.and_le_left
  have e1 : oc1 (n : Int) = (p1 n : Nat) := by
    unfold oc1 p1
    rw [show ((n : Int) / 2) = ((n / 2 : Nat) : Int) by omega, show (6148914691236517205 : Int) = ((6148914691236517205 : Nat) : Int) by rfl, and_k .u64 _ _ (.inl rfl) (by omega) (by omega), and_k .u64 _ _ (.inl rfl) (by omega) (by omega), ← Int.natCast_add, wr_u _ (by omega)]
  have b1 : p1 n ≤ 98304 := by unfold p1; omega
  generalize p1 n = x at *
  have a3 : x / 4 &&& 3689348814741910323 ≤ x / 4 := Nat.and_le_left
  have a4 : x &&& 3689348814741910323 ≤ x := Nat.and_le_left
  have e2 : oc2 (x : Int) = (p2 x : Nat) := by
    unfold oc2 p2
    rw [show ((x : Int) / 4) = ((x / 4 : Nat) : Int) by omega, show (3689348814741910323 : Int) = ((3689348814741910323 : Nat) : Int) by rfl, and_k .u64 _ _ (.inl rfl) (by omega) (by omega), and_k .u64 _ _ (.inl rfl) (by omega) (by omega), ← Int.natCast_add, wr_u _ (by omega)]
  have b2 : p2 x ≤ 122880 := by unfold p2; omega
  generalize p2 x = y at *
  have a5 : (y / 16 + y) &&& 1085102592571150095 ≤ y / 16 + y := Nat.and_le_left
  have e3 : oc3 (y : Int) = (p3 y : Nat) := by
    unfold oc3 p3
    rw [show ((y : Int) / 16 + (y : Int)) = ((y / 16 + y : Nat) : Int) by omega, wr_u _ (by omega), show (1085102592571150095 : Int) = ((1085102592571150095 : Nat) : Int) by rfl, and_k .u64 _ _ (.inl rfl) (by omega) (by omega)]
  have b3 : p3 y ≤ 130560 := by unfold p3; omega
  generalize p3 y = z at *
  have e4 : oc4 (z : Int) = ((z + z / 256 : Nat) : Int) := by
    unfold oc4
    rw [show ((z : Int) + (z : Int) / 256) = ((z + z / 256 : Nat) : Int) by omega, wr_u _ (by omega)]
  have b4 : z + z / 256 ≤ 131070 := by omega
  generalize z + z / 256 = u at *
  have e5 : oc5 (u : Int) = ((u + u / 65536 : Nat) : Int) := by
    unfold oc5
    rw [show ((u : Int) + (u : Int) / 65536) = ((u + u / 65536 : Nat) : Int) by omega, wr_u _ (by omega)]
  have b5 : u + u / 65536 ≤ 131072 := by omega
  generalize u + u / 65536 = v at *
  have e6 : oc6 (v : Int) = ((v + v / 4294967296 : Nat) : Int) := by
    unfold oc6
    rw [show ((v : Int) + (v : Int) / 4294967296) = ((v + v / 4294967296 : Nat) : Int) by omega, wr_u _ (by omega)]
  have b6 : v + v / 4294967296 ≤ 131072 := by omega
  generalize v + v / 4294967296 = t at *
  have e7 : oc7 (t : Int) = ((t &&& 127 : Nat) : Int) := by
    unfold oc7
    rw [show wrap64 (t : Int) = (t : Int) by unfold wrap64; omega, show (127 : Int) = ((127 : Nat) : Int) by rfl, and_k .i64 _ _ (.inr rfl) (by omega) (by omega)]
  unfold oc
  rw [e1, e2, e3, e4, e5, e6, e7]
def isPw (n : Nat) : Bool := n == 256 || n == 512 || n == 1024 || n == 2048 || n == 4096 || n == 8192 || n == 16384 || n == 32768 || n == 65536
def ck : Nat → Bool
  | 0 => true
  | k + 1 => (Nat.blt k 256 || !(pc k == 1) || isPw k) && ck k
theorem ck_of : ∀ m, ck m = true → ∀ k, k < m → 256 ≤ k → pc k = 1 → isPw k = true
  | 0, _, k, h, _, _ => absurd h (Nat.not_lt_zero k)
  | m + 1, h, k, hk, h1, h2 => by
    simp only [ck, Bool.and_eq_true] at h
    by_cases e : k = m
    · subst e
      have h3 : Nat.blt k 256 = false := by
        cases hb : Nat.blt k 256 with
        | false => rfl
        | true => rw [Nat.blt_eq] at hb; omega
      have h4 := h.1
      rw [h3, h2] at h4
      simpa using h4
    · exact ck_of m h.2 k (by omega) h1 h2
theorem ck_all : ck 65537 = true := by kernel_rfl
theorem isPw_pw {n : Nat} (h : isPw n = true) : Pw n := by
  unfold isPw at h
  simp only [Bool.or_eq_true, beq_iff_eq] at h
  unfold Pw
  omega
theorem oc_pw (n : Nat) (h1 : 256 ≤ n) (h2 : n ≤ 65536) (h : ¬ Pw n) : ¬ oc (n : Int) = 1 := fun e => by
  rw [oc_pc n h2] at e
  exact h (isPw_pw (ck_of 65537 ck_all n (by omega) h1 (by omega)))
set_option maxHeartbeats 1000000 in
theorem ones_all (n : Nat) (w : World) : Calls Tryd.prog 74 #[.int .u64 n] w fun e w' => e = .returned (.int .i64 (oc n)) ∧ w' = w := by
  go_enter Tryd.func74, Tryd.ntmps74
  go_wp2
  go_ret
  exact ⟨rfl, rfl⟩
theorem onesc_all (n : Nat) (w : World) : Calls Tryd.prog 69 #[.int .u64 n] w fun e w' => e = .returned (.int .i64 (oc n)) ∧ w' = w := by
  have hO := ones_all n w
  generalize oc (n : Int) = z at *
  go_enter Tryd.func69, Tryd.ntmps69
  go_wp2_with (first
    | (go_at_call 74; with_reducible refine hO.mono ?_; rintro e wq ⟨rfl, hq⟩; subst wq)
    | fail)
  go_ret
  exact ⟨rfl, rfl⟩
theorem size_no (n : Nat) (w : World) (hn : n ≤ 9223372036854775807) (h : ¬ Pw n) : Calls Tryd.prog 60 #[.int .i64 n] w fun e w' => e = .returned (.bool false) ∧ w' = w := by
  by_cases b1 : (256 : Int) ≤ (n : Int)
  · by_cases b2 : (n : Int) ≤ 65536
    · have hO := onesc_all n w
      have hne := oc_pw n (by omega) (by omega) h
      generalize oc (n : Int) = z at *
      clear h
      go_enter Tryd.func60, Tryd.ntmps60
      go_wp2_with (first
        | (go_at_call 69; with_reducible refine hO.mono ?_; rintro e wq ⟨rfl, hq⟩; subst wq)
        | fail)
      go_ret
      exact ⟨by simp [hne], rfl⟩
    · have b3 : 65536 < (n : Int) := by omega
      clear h
      go_enter Tryd.func60, Tryd.ntmps60
      go_wp2_with fail
      go_ret
      exact ⟨rfl, rfl⟩
  · have b3 : (n : Int) < 256 := by omega
    clear h
    go_enter Tryd.func60, Tryd.ntmps60
    go_wp2_with fail
    go_ret
    exact ⟨rfl, rfl⟩
theorem from_no (ao : Option Addr) (n cap : Nat) (w : World) (hn : n ≤ 9223372036854775807) (h : ¬ Pw n) :
    Calls Tryd.prog 30 #[.slice ao n cap] w fun e w' => e = .returned (.tuple #[.pointer none, .int .i64 91]) ∧ w' = w := by
  have hZ := size_no n w hn h
  clear h
  go_enter Tryd.func30, Tryd.ntmps30
  go_wp2_with (first
    | (go_at_call 60; with_reducible refine hZ.mono ?_; rintro e wq ⟨rfl, hq⟩; subst wq)
    | fail)
  go_ret2
  exact ⟨rfl, rfl⟩
end Go.Proofs.YtnjglagfpghbjaaDoor
namespace Go.Proofs.YtnjglagfpghbjaaDoor
open Go.RowKit Go.WideShapes
set_option maxRecDepth 100000

theorem pow_9 (j : Nat) (h : j ≤ 9) : 2 ^ (8 + j) ≤ 131072 := by
  have : 2 ^ (8 + j) ≤ 2 ^ 17 := Nat.pow_le_pow_right (by decide) (by omega)
  simpa using this
theorem pow_8 (j : Nat) (h : j < 9) : Pw (2 ^ (8 + j)) := pow_pw (8 + j) (by omega) (by omega)
theorem pw_pow {n : Nat} (h : Pw n) : ∃ j, j < 9 ∧ n = 2 ^ (8 + j) := by
  rcases h with rfl | rfl | rfl | rfl | rfl | rfl | rfl | rfl | rfl
  · exact ⟨0, by decide, rfl⟩
  · exact ⟨1, by decide, rfl⟩
  · exact ⟨2, by decide, rfl⟩
  · exact ⟨3, by decide, rfl⟩
  · exact ⟨4, by decide, rfl⟩
  · exact ⟨5, by decide, rfl⟩
  · exact ⟨6, by decide, rfl⟩
  · exact ⟨7, by decide, rfl⟩
  · exact ⟨8, by decide, rfl⟩
set_option maxHeartbeats 1000000 in
theorem from_r (ao : Option Addr) (cap : Nat) (zs : List Int) (w : World) (hp : Pw zs.length) (hwf : ∀ z ∈ zs, 0 ≤ z ∧ z ≤ 255) (hr : Reads w ao zs w.heap.size) :
    Calls Tryd.prog 31 #[.slice ao zs.length cap] w fun e w' => ∃ r g c, e = .returned (.tuple #[.pointer (some ⟨r, 0, none⟩), .int .i64 0]) ∧ Hid (RefS w' r g c zs false (.slice none 0 0) [] ∧ w.heap.size ≤ r ∧ w.heap.size ≤ g ∧ Below w.heap.size w w') := by
  have hb := hp.bd
  have hC : Calls Tryd.prog 54 #[.slice ao zs.length cap] w fun e w' => ∃ g c, e = .returned (.slice (some ⟨g, 0, none⟩) zs.length c) ∧ Hid (w'.ownsRow w.heap.size 5 1 (.slice (some ⟨g, 0, none⟩) zs.length c) zs.length (bv zs) ∧ Below w.heap.size w w') :=
    (copied_r ao cap zs w hb.2 hr).mono fun e w' ⟨v, he, h1, h2⟩ => by
      obtain ⟨g, c, rfl, _⟩ := own_form h1 (by omega)
      exact ⟨g, c, he, h1, h2⟩
  have HPW := hidS hp
  have HWF := hidS hwf
  obtain ⟨J, hJ, hJe⟩ := pw_pow hp
  have HJ := hidS hJ
  have HJE := hidS hJe
  clear hp hwf hr hJ hJe
  go_enter Tryd.func31, Tryd.ntmps31
  go_wp2_with fail
  go_loopw [4] (fun v wr => ∃ j : Nat, j ≤ J ∧ v = .int .i64 ((2 ^ (8 + j) : Nat) : Int) ∧ wr = w) (fun v _ => 131073 - (intOf v).toNat)
  case atStart => exact ⟨0, Nat.zero_le _, rfl, rfl⟩
  case round =>
    obtain ⟨j, hj, rfl, rfl⟩ := hrel
    have hpj := (pow_8 j (by have := HJ.out; omega)).bd
    by_cases hjj : j = J
    · subst hjj
      have e1 : (zs.length : Int) = ((2 ^ (8 + j) : Nat) : Int) := by rw [HJE.out]
      generalize 2 ^ (8 + j) = y at *
      have hyb : (y : Int) ≤ 65536 := by omega
      obtain rfl : y = zs.length := by omega
      clear e1
      go_wp2_with (first
        | (go_at_call 54; with_reducible refine hC.mono ?_; rintro e w1 ⟨g2, c2, rfl, HQ⟩)
        | fail)
      go_ret2
      obtain ⟨q1, q2⟩ := HQ.out
      have hg := q1.lt g2 rfl
      have hb : Below w1.heap.size w1 (w1.alloc (.cells #[.slice (some ⟨g2, 0, none⟩) zs.length c2, .bool false, .slice none 0 0] 54)) := (Below.refl _ _).alloc (Nat.le_refl _) _
      exact ⟨w1.heap.size, g2, c2, rfl, ⟨heap_alloc_new w1 _, (Kp.ofBelow (S := fun _ => False) hb).own (own_base q1 (Nat.zero_le _)) (fun _ _ h => h), World.ownsRow_nil _ _ _ _, by omega, by simp [Value.ownBlock], by simp [Value.ownBlock], HPW.out, HWF.out, by simp⟩, q2.size, hg.1, q2.trans (hb.mono q2.size)⟩
    · have hne : ¬ (zs.length : Int) = ((2 ^ (8 + j) : Nat) : Int) := fun e => hjj (by
        have h2 : 2 ^ (8 + J) = 2 ^ (8 + j) := by rw [← HJE.out]; omega
        have h3 := (Nat.pow_right_inj (a := 2) (by decide)).1 h2
        omega)
      have hp1 : 2 ^ (8 + (j + 1)) = 2 ^ (8 + j) * 2 := Nat.pow_succ 2 (8 + j)
      generalize hy0 : 2 ^ (8 + j) = y at *
      have hyb : (y : Int) ≤ 65536 := by omega
      have hy : wrap64 ((y : Int) * 2) = ((y * 2 : Nat) : Int) := by unfold wrap64; omega
      have HP1 := hidS hp1
      clear hy0 hp1
      go_wp2_with fail
      go_roundw
      case rel =>
        refine ⟨j + 1, by omega, ?_⟩
        rw [HP1.out]
        first | (simp; done) | (simp; omega)
      case measure => simp [intOf]; omega
set_option maxHeartbeats 1000000 in
theorem from_rno (ao : Option Addr) (n cap : Nat) (w : World) (hp : ¬ Pw n) :
    Calls Tryd.prog 31 #[.slice ao n cap] w fun e w' => e = .returned (.tuple #[.pointer none, .int .i64 91]) ∧ w' = w := by
  have HP := hidS hp
  clear hp
  go_enter Tryd.func31, Tryd.ntmps31
  go_wp2_with fail
  go_loopw [4] (fun v wr => ∃ j : Nat, j ≤ 9 ∧ v = .int .i64 ((2 ^ (8 + j) : Nat) : Int) ∧ wr = w) (fun v _ => 131073 - (intOf v).toNat)
  case atStart => exact ⟨0, Nat.zero_le _, rfl, rfl⟩
  case round =>
    obtain ⟨j, hj, rfl, rfl⟩ := hrel
    have hp9 := pow_9 j hj
    by_cases hjj : j < 9
    · have hpj := pow_8 j hjj
      have hne : ¬ (n : Int) = ((2 ^ (8 + j) : Nat) : Int) := fun e => HP.out (by rw [show n = 2 ^ (8 + j) by omega]; exact hpj)
      have hb := hpj.bd
      have hp1 : 2 ^ (8 + (j + 1)) = 2 ^ (8 + j) * 2 := Nat.pow_succ 2 (8 + j)
      clear hpj
      generalize hy0 : 2 ^ (8 + j) = y at *
      have hyb : (y : Int) ≤ 65536 := by omega
      have hy : wrap64 ((y : Int) * 2) = ((y * 2 : Nat) : Int) := by unfold wrap64; omega
      have HP1 := hidS hp1
      clear hy0 hp1
      go_wp2_with fail
      go_roundw
      case rel =>
        refine ⟨j + 1, by omega, ?_⟩
        rw [HP1.out]
        first | (simp; done) | (simp; omega)
      case measure => simp [intOf]; omega
    · obtain rfl : j = 9 := by omega
      go_wp2_with fail
      go_ret2
      exact ⟨rfl, rfl⟩
end Go.Proofs.YtnjglagfpghbjaaDoor
namespace Go.Proofs.YtnjglagfpghbjaaDoor
open Go.RowKit Go.WideShapes
set_option maxRecDepth 100000

set_option maxHeartbeats 1000000 in
theorem from_m (ao : Option Addr) (cap : Nat) (zs : List Int) (w : World) (hp : Pw zs.length) (hwf : ∀ z ∈ zs, 0 ≤ z ∧ z ≤ 255) (hr : Reads w ao zs w.heap.size) :
    Calls Tryd.prog 30 #[.slice ao zs.length cap] w fun e w' => ∃ a, e = .returned (.tuple #[.pointer (some ⟨a, 0, none⟩), .int .i64 0]) ∧ (segP false a zs []).h (fun k => w.heap.size ≤ k) w' ∧ Below w.heap.size w w' := by
  have hb := hp.bd
  have hZ := size_any zs.length w hp
  have hC := clone_any ao cap zs w (by omega) (fun e => by obtain ⟨_, _, e2, _⟩ := hr (by omega); rw [e] at e2; cases e2) hr
  have hC2 : Calls Tryd.prog 53 #[.slice ao zs.length cap] w fun e w1 => ∃ g c, e = .returned (.slice (some ⟨g, 0, none⟩) zs.length c) ∧ Hid (w1.ownsRow w.heap.size 5 1 (.slice (some ⟨g, 0, none⟩) zs.length c) zs.length (bv zs) ∧ Below w.heap.size w w1) := hC.mono fun e w1 ⟨v, he, ho, hb⟩ => by
    obtain ⟨g, c, rfl, _⟩ := own_form ho (by omega)
    exact ⟨g, c, he, ho, hb⟩
  have hH := fun g c W ho => hold_any g c zs W ho hp hwf
  have HC := hidS hC2
  have HH := hidS hH
  clear hC hC2 hH hr hwf hp
  go_enter Tryd.func30, Tryd.ntmps30
  go_wp2_with (first
    | (go_at_call 60; with_reducible refine hZ.mono ?_; rintro e wq ⟨rfl, hq⟩; subst wq)
    | (go_at_call 53; with_reducible refine HC.out.mono ?_; rintro e w1 ⟨g, c, rfl, HQ⟩)
    | (go_at_call 59; with_reducible refine (HH.out _ _ _ (own_base HQ.out.1 (Nat.zero_le _))).mono ?_; rintro e w2 ⟨rfl, hq1, hq2⟩; have HQ1 := hidS hq1; have HQ2 := hidS hq2; clear hq1 hq2)
    | fail)
  go_ret2
  have hgB := (HQ.out.1.lt g rfl).1
  exact ⟨_, rfl, ⟨g, c, _, HQ1.out, foot_new HQ.out.2.size hgB⟩, HQ.out.2.trans (HQ2.out.mono HQ.out.2.size)⟩
set_option maxHeartbeats 1000000 in
theorem make1g (o n : Nat) (A : Wd) (M : Col → Pc) (i : Nat) (hi : i < 4) (s : Stp) (W : World) (hS0 : Stt W M) (hI0 : Inv o A M) (hA : WfA A n) (hn : n < 5800000000000) (h8 : M (8, 2) = noP) (hs : StpOk s) (j : Nat) (hj : j < 4) (w0 : World) (hw0 : M (9, 0) = outP w0) (hr0 : Reads w0 s.da s.dz w0.heap.size) (hl : s.dz.length ≤ 140737488351232) (h85 : M (8, 5) = noP) (hpw : Pw s.dz.length) (hd : s.d = 1) :
    Calls Tryd.prog 15 #[.pointer (some ⟨o, 0, none⟩), .agg (stpC s), .int .i64 i, .int .i64 j] W fun e w' => e = .returned (.bool true) ∧ Hid (Aft o M (n) w') := by
  have hS1 := stt_stp (8, 2) s hS0
  have hI1 := inv_far (j := 2) (p := objP W.heap.size (stpC s) 34) hI0
  have HLV := hidS (fun w' => Aft.leave (o := o) (j := 2) (n := n) (p := objP W.heap.size (stpC s) 34) (w' := w') h8)
  have hM8 : upd M (8, 2) (objP W.heap.size (stpC s) 34) (8, 2) = objP W.heap.size (stpC s) 34 := upd_eq _ _ _
  have hdI : (s.d : Int) = 1 := by omega
  have hM9 : ∀ j, upd M (8, 2) (objP W.heap.size (stpC s) 34) (9, j) = M (9, j) := fun j => upd_ne (by simp)
  have hM7 : ∀ j, j ≠ 2 → upd M (8, 2) (objP W.heap.size (stpC s) 34) (8, j) = M (8, j) := fun j hj => upd_ne (by simp [hj])
  generalize upd M (8, 2) (objP W.heap.size (stpC s) 34) = M1 at *
  have _u := And.intro hn (And.intro hs hi)
  clear _u
  have _v := hj
  clear _v
  have hiI : (i : Int) < 4 := by omega
  have hO1 : M1 (9, 0) = outP w0 := (hM9 0).trans hw0
  have h5 : M1 (8, 5) = noP := (hM7 5 (by decide)).trans h85
  have hrd : ∀ W' M', Stt W' M' → M' (9, 0) = outP w0 → Reads W' s.da s.dz W'.heap.size := fun W' M' h e => (hr0.below (stt_out h e)).mono (stt_out h e).size
  have HL : Hid (∀ W', Stt W' M1 → Calls Tryd.prog 29 #[.slice s.da s.dz.length s.dc] W' fun e w' => ∃ g cp, e = .returned (Value.slice (some ⟨g, 0, none⟩) (s.dz.length + 64) cp) ∧ s.dz.length + 64 ≤ cp ∧ Hid (Stt w' (upd M1 (8, 5) (rowP 5 1 (.slice (some ⟨g, 0, none⟩) (s.dz.length + 64) cp) (s.dz.length + 64) (bv (s.dz ++ marks 0 64)))))) := fun W' h =>
    (lent_any s.da s.dc s.dz W' hl (hrd W' M1 h hO1)).mono fun e w' ⟨v, he, hown, hb⟩ => by
      obtain ⟨g, cp, rfl, hcp⟩ := own_form hown (by omega)
      exact ⟨g, cp, he, hcp, stt_new h hb ⟨own_base hown (Nat.zero_le _), fun k e => (hown.lt k e).1⟩⟩
  have HC2 := hidS (fun (g cp : Nat) W' h => stt_c (W := W') (M := upd M1 (8, 5) (rowP 5 1 (.slice (some ⟨g, 0, none⟩) (s.dz.length + 64) cp) (s.dz.length + 64) (bv (s.dz ++ marks 0 64)))) (c := (8, 2)) h ((upd_ne (by simp)).trans hM8))
  have HC3 := hidS (fun (g cp a : Nat) W' h => stt_c (W := W') (M := upd (upd M1 (8, 5) (rowP 5 1 (.slice (some ⟨g, 0, none⟩) (s.dz.length + 64) cp) (s.dz.length + 64) (bv (s.dz ++ marks 0 64)))) (1, i) (segO (some ⟨a, 0, ⟨s.dz, false, []⟩⟩))) (c := (8, 2)) h ((upd_ne (by simp)).trans ((upd_ne (by simp)).trans hM8)))
  have HC4 := hidS (fun (g cp a r : Nat) W' h => stt_c (W := W') (M := upd (upd (upd M1 (8, 5) (rowP 5 1 (.slice (some ⟨g, 0, none⟩) (s.dz.length + 64) cp) (s.dz.length + 64) (bv (s.dz ++ marks 0 64)))) (1, i) (segO (some ⟨a, 0, ⟨s.dz, false, []⟩⟩))) (2, i) (refO (some ⟨0, r, ⟨s.dz, false, []⟩⟩))) (c := (8, 2)) h ((upd_ne (by simp)).trans ((upd_ne (by simp)).trans ((upd_ne (by simp)).trans hM8))))
  have HW : Hid (∀ (g cp : Nat) W', Stt W' (upd M1 (8, 5) (rowP 5 1 (.slice (some ⟨g, 0, none⟩) (s.dz.length + 64) cp) (s.dz.length + 64) (bv (s.dz ++ marks 0 64)))) → Calls Tryd.prog 30 #[.slice (some ⟨g, 0, none⟩) s.dz.length cp] W' fun e w' => ∃ a : Nat, e = .returned (.tuple #[.pointer (some ⟨a, 0, none⟩), .int .i64 0]) ∧ Hid (Stt w' (upd (upd M1 (8, 5) (rowP 5 1 (.slice (some ⟨g, 0, none⟩) (s.dz.length + 64) cp) (s.dz.length + 64) (bv (s.dz ++ marks 0 64)))) (1, i) (segO (some ⟨a, 0, ⟨s.dz, false, []⟩⟩))))) := fun g cp W' h => by
    exact (from_m (some ⟨g, 0, none⟩) cp s.dz W' hpw hs.wf (reads_own (stt_row h (upd_eq _ _ _)) (by simp))).mono fun e w' ⟨a, he, hr, hb⟩ => ⟨a, he, stt_new h hb hr⟩
  have HR : Hid (∀ (g cp a : Nat) W', Stt W' (upd (upd M1 (8, 5) (rowP 5 1 (.slice (some ⟨g, 0, none⟩) (s.dz.length + 64) cp) (s.dz.length + 64) (bv (s.dz ++ marks 0 64)))) (1, i) (segO (some ⟨a, 0, ⟨s.dz, false, []⟩⟩))) → Calls Tryd.prog 31 #[.slice s.da s.dz.length s.dc] W' fun e w' => ∃ r : Nat, e = .returned (.tuple #[.pointer (some ⟨r, 0, none⟩), .int .i64 0]) ∧ Hid (Stt w' (upd (upd (upd M1 (8, 5) (rowP 5 1 (.slice (some ⟨g, 0, none⟩) (s.dz.length + 64) cp) (s.dz.length + 64) (bv (s.dz ++ marks 0 64)))) (1, i) (segO (some ⟨a, 0, ⟨s.dz, false, []⟩⟩))) (2, i) (refO (some ⟨0, r, ⟨s.dz, false, []⟩⟩))))) := fun g cp a W' h => by
    have ho := ((upd_ne (by simp)).trans ((upd_ne (by simp)).trans hO1) : (upd (upd M1 (8, 5) (rowP 5 1 (.slice (some ⟨g, 0, none⟩) (s.dz.length + 64) cp) (s.dz.length + 64) (bv (s.dz ++ marks 0 64)))) (1, i) (segO (some ⟨a, 0, ⟨s.dz, false, []⟩⟩))) (9, 0) = outP w0)
    exact (from_r s.da s.dc s.dz W' hpw hs.wf (hrd W' _ h ho)).mono fun e w' ⟨r, g, c, he, hq⟩ => ⟨r, he, stt_new h hq.out.2.2.2 ⟨g, c, _, hq.out.1, foot_new hq.out.2.1 hq.out.2.2.1⟩⟩
  have HK : Hid (∀ (g cp a r : Nat) W', Stt W' (upd (upd (upd M1 (8, 5) (rowP 5 1 (.slice (some ⟨g, 0, none⟩) (s.dz.length + 64) cp) (s.dz.length + 64) (bv (s.dz ++ marks 0 64)))) (1, i) (segO (some ⟨a, 0, ⟨s.dz, false, []⟩⟩))) (2, i) (refO (some ⟨0, r, ⟨s.dz, false, []⟩⟩))) → Calls Tryd.prog 32 #[Value.slice (some ⟨g, 0, none⟩) (s.dz.length + 64) cp, .slice s.da s.dz.length s.dc] W' fun e w' => e = .returned (.bool true) ∧ Hid (Stt w' (upd (upd (upd M1 (8, 5) (rowP 5 1 (.slice (some ⟨g, 0, none⟩) (s.dz.length + 64) cp) (s.dz.length + 64) (bv (s.dz ++ marks 0 64)))) (1, i) (segO (some ⟨a, 0, ⟨s.dz, false, []⟩⟩))) (2, i) (refO (some ⟨0, r, ⟨s.dz, false, []⟩⟩))))) := fun g cp a r W' h => by
    have hrow := stt_row h ((upd_ne (by simp)).trans ((upd_ne (by simp)).trans (upd_eq _ _ _)))
    refine (kept_any s.da s.dc s.dz g cp W' hl (hrd W' _ h ((upd_ne (by simp)).trans ((upd_ne (by simp)).trans ((upd_ne (by simp)).trans hO1)))) (fun j hj => ?_)).mono fun e w' ⟨he, m, hw⟩ => ⟨he, by rw [hw]; exact stt_drewN m h⟩
    exact own_get hrow (by simp [marks_len]; omega)
  have HO : Hid (∀ (g cp a r : Nat) W', Stt W' (upd (upd (upd M1 (8, 5) (rowP 5 1 (.slice (some ⟨g, 0, none⟩) (s.dz.length + 64) cp) (s.dz.length + 64) (bv (s.dz ++ marks 0 64)))) (1, i) (segO (some ⟨a, 0, ⟨s.dz, false, []⟩⟩))) (2, i) (refO (some ⟨0, r, ⟨s.dz, false, []⟩⟩))) → Calls Tryd.prog 33 #[Value.slice (some ⟨g, 0, none⟩) (s.dz.length + 64) cp] W' fun e w' => e = .returned (.tuple #[]) ∧ Hid (Stt w' (upd (upd (upd (upd M1 (8, 5) (rowP 5 1 (.slice (some ⟨g, 0, none⟩) (s.dz.length + 64) cp) (s.dz.length + 64) (bv (s.dz ++ marks 0 64)))) (1, i) (segO (some ⟨a, 0, ⟨s.dz, false, []⟩⟩))) (2, i) (refO (some ⟨0, r, ⟨s.dz, false, []⟩⟩))) (8, 5) (rowP 5 1 (.slice (some ⟨g, 0, none⟩) (s.dz.length + 64) cp) (s.dz.length + 64) (bv (marks (-1) (s.dz.length + 64) ++ (s.dz ++ marks 0 64).drop (s.dz.length + 64))))))) := fun g cp a r W' h => by
    have e5 : (upd (upd (upd M1 (8, 5) (rowP 5 1 (.slice (some ⟨g, 0, none⟩) (s.dz.length + 64) cp) (s.dz.length + 64) (bv (s.dz ++ marks 0 64)))) (1, i) (segO (some ⟨a, 0, ⟨s.dz, false, []⟩⟩))) (2, i) (refO (some ⟨0, r, ⟨s.dz, false, []⟩⟩))) (8, 5) = rowP 5 1 (.slice (some ⟨g, 0, none⟩) (s.dz.length + 64) cp) (s.dz.length + 64) (bv (s.dz ++ marks 0 64)) := (upd_ne (by simp)).trans ((upd_ne (by simp)).trans (upd_eq _ _ _))
    exact stt_call (c := (8, 5)) (p' := rowP 5 1 (.slice (some ⟨g, 0, none⟩) (s.dz.length + 64) cp) (s.dz.length + 64) (bv (marks (-1) (s.dz.length + 64) ++ (s.dz ++ marks 0 64).drop (s.dz.length + 64)))) e5 h (fun F hF hB => (over_any g cp (s.dz.length + 64) (s.dz.length + 64) 0 (s.dz ++ marks 0 64) W' (by omega) (Nat.le_refl _) (by simp [marks_len]) hF.1).mono fun e w' ⟨he, p1, _, _, p2⟩ => ⟨he, ⟨p1, hF.2⟩, Kp.ofGrown p2 (fun k e _ => hF.2 k e)⟩)
  have HX := hidS (fun (g cp a r : Nat) W' h => stt_sl (W := W') (M := upd (upd (upd (upd M1 (8, 5) (rowP 5 1 (.slice (some ⟨g, 0, none⟩) (s.dz.length + 64) cp) (s.dz.length + 64) (bv (s.dz ++ marks 0 64)))) (1, i) (segO (some ⟨a, 0, ⟨s.dz, false, []⟩⟩))) (2, i) (refO (some ⟨0, r, ⟨s.dz, false, []⟩⟩))) (8, 5) (rowP 5 1 (.slice (some ⟨g, 0, none⟩) (s.dz.length + 64) cp) (s.dz.length + 64) (bv (marks (-1) (s.dz.length + 64) ++ (s.dz ++ marks 0 64).drop (s.dz.length + 64))))) h ((upd_ne (by simp)).trans ((upd_ne (by simp)).trans ((upd_ne (by simp)).trans ((upd_ne (by simp)).trans hI1.obj)))) i hi (.pointer (some ⟨a, 0, none⟩)) (.pointer (some ⟨r, 0, none⟩)))
  have HF : Hid (∀ (g cp a r : Nat) W', Stt W' (upd (upd (upd (upd (upd (upd M1 (8, 5) (rowP 5 1 (.slice (some ⟨g, 0, none⟩) (s.dz.length + 64) cp) (s.dz.length + 64) (bv (s.dz ++ marks 0 64)))) (1, i) (segO (some ⟨a, 0, ⟨s.dz, false, []⟩⟩))) (2, i) (refO (some ⟨0, r, ⟨s.dz, false, []⟩⟩))) (8, 5) (rowP 5 1 (.slice (some ⟨g, 0, none⟩) (s.dz.length + 64) cp) (s.dz.length + 64) (bv (marks (-1) (s.dz.length + 64) ++ (s.dz ++ marks 0 64).drop (s.dz.length + 64))))) (0, 0) (objP o ((wldC A).setIfInBounds i (.pointer (some ⟨a, 0, none⟩))) 30)) (0, 0) (objP o (((wldC A).setIfInBounds i (.pointer (some ⟨a, 0, none⟩))).setIfInBounds (4 + i) (.pointer (some ⟨r, 0, none⟩))) 30)) → Aft o M n W') := fun g cp a r W' h => by
    refine HLV.out _ ⟨setS A i (some ⟨a, r, ⟨s.dz, false, []⟩⟩), upd (upd (upd M1 (1, i) (segO (some ⟨a, 0, ⟨s.dz, false, []⟩⟩))) (2, i) (refO (some ⟨0, r, ⟨s.dz, false, []⟩⟩))) (0, 0) (objP o (((wldC A).setIfInBounds i (.pointer (some ⟨a, 0, none⟩))).setIfInBounds (4 + i) (.pointer (some ⟨r, 0, none⟩))) 30), stt_forget (8, 5) h (by simp [upd, h5]) (fun d hd => ?_), ?_⟩
    · by_cases d0 : d = (0, 0)
      · simp [upd, d0]
      · simp [upd, hd, d0]
    refine (fun q => ⟨q.1, q.2, hA.slot _ _⟩) (inv_new hI1 ((upd_eq _ _ _).trans (by rw [← wld_set hi (some ⟨a, r, ⟨s.dz, false, []⟩⟩)]; rfl)) ?_ ?_ ?_)
    · first | (simp [upd]; done) | (simp [upd]; rfl)
    · first | (simp [upd]; done) | (simp [upd]; rfl)
    · exact fun d d1 d2 d3 => by simp [upd, d1, d2, d3]
  clear hO1 h5 hrd hw0 hr0 hl h85 hpw
  obtain ⟨c0, -, -, -, -, c7⟩ := stt_c hS1 hM8
  have HS1 := hidS hS1
  clear hS1 hs hd hS0 h8 hI0 hI1 hA hM8 hM9 hM7
  go_enter Tryd.func15, Tryd.ntmps15
  go_wp2_with (first
    | (go_at_call 29; with_reducible refine (HL.out _ HS1.out).mono ?_; rintro e w1 ⟨g, cp, rfl, hcp, HQ1⟩; obtain ⟨-, -, -, -, -, d7⟩ := HC2.out _ _ _ HQ1.out; have hc1 : s.dz.length ≤ cp := (by omega); have hc2 : (s.dz.length : Int) ≤ (cp : Int) := (by omega))
    | (go_at_call 30; with_reducible refine (HW.out _ _ _ HQ1.out).mono ?_; rintro e w2 ⟨a1, rfl, HQ2⟩; obtain ⟨-, -, -, -, -, f7⟩ := HC3.out g cp a1 _ HQ2.out)
    | (go_at_call 31; with_reducible refine (HR.out g cp a1 _ HQ2.out).mono ?_; rintro e w3 ⟨r3, rfl, HQ3⟩; obtain ⟨-, -, -, -, -, k7⟩ := HC4.out g cp a1 r3 _ HQ3.out)
    | (go_at_call 32; with_reducible refine (HK.out g cp a1 r3 _ HQ3.out).mono ?_; rintro e w4 ⟨rfl, HQ4⟩)
    | (go_at_call 33; with_reducible refine (HO.out g cp a1 r3 _ HQ4.out).mono ?_; rintro e w5 ⟨rfl, HQ5⟩; obtain ⟨x1, x2, x3, x4, HQ6⟩ := HX.out g cp a1 r3 _ HQ5.out; have HQ7 := hidS HQ6; clear HQ6)
    | fail)
  go_ret
  exact ⟨rfl, HF.out g cp a1 r3 _ HQ7.out⟩
set_option maxHeartbeats 1000000 in
theorem make1b (o n : Nat) (A : Wd) (M : Col → Pc) (i : Nat) (hi : i < 4) (s : Stp) (W : World) (hS0 : Stt W M) (hI0 : Inv o A M) (hA : WfA A n) (hn : n < 5800000000000) (h8 : M (8, 2) = noP) (hs : StpOk s) (j : Nat) (hj : j < 4) (w0 : World) (hw0 : M (9, 0) = outP w0) (hr0 : Reads w0 s.da s.dz w0.heap.size) (hl : s.dz.length ≤ 140737488351232) (h85 : M (8, 5) = noP) (hpw : ¬ Pw s.dz.length) (hd : s.d = 1) :
    Calls Tryd.prog 15 #[.pointer (some ⟨o, 0, none⟩), .agg (stpC s), .int .i64 i, .int .i64 j] W fun e w' => e = .returned (.bool true) ∧ Hid (Aft o M (n) w') := by
  have hS1 := stt_stp (8, 2) s hS0
  have hI1 := inv_far (j := 2) (p := objP W.heap.size (stpC s) 34) hI0
  have HLV := hidS (fun w' => Aft.leave (o := o) (j := 2) (n := n) (p := objP W.heap.size (stpC s) 34) (w' := w') h8)
  have hM8 : upd M (8, 2) (objP W.heap.size (stpC s) 34) (8, 2) = objP W.heap.size (stpC s) 34 := upd_eq _ _ _
  have hdI : (s.d : Int) = 1 := by omega
  have hM9 : ∀ j, upd M (8, 2) (objP W.heap.size (stpC s) 34) (9, j) = M (9, j) := fun j => upd_ne (by simp)
  have hM7 : ∀ j, j ≠ 2 → upd M (8, 2) (objP W.heap.size (stpC s) 34) (8, j) = M (8, j) := fun j hj => upd_ne (by simp [hj])
  generalize upd M (8, 2) (objP W.heap.size (stpC s) 34) = M1 at *
  have _u := And.intro hn (And.intro hs hi)
  clear _u
  have _v := hj
  clear _v
  have hiI : (i : Int) < 4 := by omega
  have hO1 : M1 (9, 0) = outP w0 := (hM9 0).trans hw0
  have h5 : M1 (8, 5) = noP := (hM7 5 (by decide)).trans h85
  have hrd : ∀ W' M', Stt W' M' → M' (9, 0) = outP w0 → Reads W' s.da s.dz W'.heap.size := fun W' M' h e => (hr0.below (stt_out h e)).mono (stt_out h e).size
  have HL : Hid (∀ W', Stt W' M1 → Calls Tryd.prog 29 #[.slice s.da s.dz.length s.dc] W' fun e w' => ∃ g cp, e = .returned (Value.slice (some ⟨g, 0, none⟩) (s.dz.length + 64) cp) ∧ s.dz.length + 64 ≤ cp ∧ Hid (Stt w' (upd M1 (8, 5) (rowP 5 1 (.slice (some ⟨g, 0, none⟩) (s.dz.length + 64) cp) (s.dz.length + 64) (bv (s.dz ++ marks 0 64)))))) := fun W' h =>
    (lent_any s.da s.dc s.dz W' hl (hrd W' M1 h hO1)).mono fun e w' ⟨v, he, hown, hb⟩ => by
      obtain ⟨g, cp, rfl, hcp⟩ := own_form hown (by omega)
      exact ⟨g, cp, he, hcp, stt_new h hb ⟨own_base hown (Nat.zero_le _), fun k e => (hown.lt k e).1⟩⟩
  have HC2 := hidS (fun (g cp : Nat) W' h => stt_c (W := W') (M := upd M1 (8, 5) (rowP 5 1 (.slice (some ⟨g, 0, none⟩) (s.dz.length + 64) cp) (s.dz.length + 64) (bv (s.dz ++ marks 0 64)))) (c := (8, 2)) h ((upd_ne (by simp)).trans hM8))
  have HC3 := hidS (fun (g cp a : Nat) W' h => stt_c (W := W') (M := upd (upd M1 (8, 5) (rowP 5 1 (.slice (some ⟨g, 0, none⟩) (s.dz.length + 64) cp) (s.dz.length + 64) (bv (s.dz ++ marks 0 64)))) (1, i) (segO (none))) (c := (8, 2)) h ((upd_ne (by simp)).trans ((upd_ne (by simp)).trans hM8)))
  have HC4 := hidS (fun (g cp a r : Nat) W' h => stt_c (W := W') (M := upd (upd (upd M1 (8, 5) (rowP 5 1 (.slice (some ⟨g, 0, none⟩) (s.dz.length + 64) cp) (s.dz.length + 64) (bv (s.dz ++ marks 0 64)))) (1, i) (segO (none))) (2, i) (refO (none))) (c := (8, 2)) h ((upd_ne (by simp)).trans ((upd_ne (by simp)).trans ((upd_ne (by simp)).trans hM8))))
  have HW : Hid (∀ (g cp : Nat) W', Stt W' (upd M1 (8, 5) (rowP 5 1 (.slice (some ⟨g, 0, none⟩) (s.dz.length + 64) cp) (s.dz.length + 64) (bv (s.dz ++ marks 0 64)))) → Calls Tryd.prog 30 #[.slice (some ⟨g, 0, none⟩) s.dz.length cp] W' fun e w' => ∃ a : Nat, e = .returned (.tuple #[.pointer none, .int .i64 91]) ∧ Hid (Stt w' (upd (upd M1 (8, 5) (rowP 5 1 (.slice (some ⟨g, 0, none⟩) (s.dz.length + 64) cp) (s.dz.length + 64) (bv (s.dz ++ marks 0 64)))) (1, i) (segO (none))))) := fun g cp W' h => by
    exact (from_no (some ⟨g, 0, none⟩) s.dz.length cp W' (by omega) hpw).mono fun e w' ⟨he, hw⟩ => ⟨0, he, stt_new h (by rw [hw]; exact Below.refl _ _) trivial⟩
  have HR : Hid (∀ (g cp a : Nat) W', Stt W' (upd (upd M1 (8, 5) (rowP 5 1 (.slice (some ⟨g, 0, none⟩) (s.dz.length + 64) cp) (s.dz.length + 64) (bv (s.dz ++ marks 0 64)))) (1, i) (segO (none))) → Calls Tryd.prog 31 #[.slice s.da s.dz.length s.dc] W' fun e w' => ∃ r : Nat, e = .returned (.tuple #[.pointer none, .int .i64 91]) ∧ Hid (Stt w' (upd (upd (upd M1 (8, 5) (rowP 5 1 (.slice (some ⟨g, 0, none⟩) (s.dz.length + 64) cp) (s.dz.length + 64) (bv (s.dz ++ marks 0 64)))) (1, i) (segO (none))) (2, i) (refO (none))))) := fun g cp a W' h => by
    have ho := ((upd_ne (by simp)).trans ((upd_ne (by simp)).trans hO1) : (upd (upd M1 (8, 5) (rowP 5 1 (.slice (some ⟨g, 0, none⟩) (s.dz.length + 64) cp) (s.dz.length + 64) (bv (s.dz ++ marks 0 64)))) (1, i) (segO (none))) (9, 0) = outP w0)
    have _w := ho
    clear _w
    exact (from_rno s.da s.dz.length s.dc W' hpw).mono fun e w' ⟨he, hw⟩ => ⟨0, he, stt_new h (by rw [hw]; exact Below.refl _ _) trivial⟩
  have HK : Hid (∀ (g cp a r : Nat) W', Stt W' (upd (upd (upd M1 (8, 5) (rowP 5 1 (.slice (some ⟨g, 0, none⟩) (s.dz.length + 64) cp) (s.dz.length + 64) (bv (s.dz ++ marks 0 64)))) (1, i) (segO (none))) (2, i) (refO (none))) → Calls Tryd.prog 32 #[Value.slice (some ⟨g, 0, none⟩) (s.dz.length + 64) cp, .slice s.da s.dz.length s.dc] W' fun e w' => e = .returned (.bool true) ∧ Hid (Stt w' (upd (upd (upd M1 (8, 5) (rowP 5 1 (.slice (some ⟨g, 0, none⟩) (s.dz.length + 64) cp) (s.dz.length + 64) (bv (s.dz ++ marks 0 64)))) (1, i) (segO (none))) (2, i) (refO (none))))) := fun g cp a r W' h => by
    have hrow := stt_row h ((upd_ne (by simp)).trans ((upd_ne (by simp)).trans (upd_eq _ _ _)))
    refine (kept_any s.da s.dc s.dz g cp W' hl (hrd W' _ h ((upd_ne (by simp)).trans ((upd_ne (by simp)).trans ((upd_ne (by simp)).trans hO1)))) (fun j hj => ?_)).mono fun e w' ⟨he, m, hw⟩ => ⟨he, by rw [hw]; exact stt_drewN m h⟩
    exact own_get hrow (by simp [marks_len]; omega)
  have HO : Hid (∀ (g cp a r : Nat) W', Stt W' (upd (upd (upd M1 (8, 5) (rowP 5 1 (.slice (some ⟨g, 0, none⟩) (s.dz.length + 64) cp) (s.dz.length + 64) (bv (s.dz ++ marks 0 64)))) (1, i) (segO (none))) (2, i) (refO (none))) → Calls Tryd.prog 33 #[Value.slice (some ⟨g, 0, none⟩) (s.dz.length + 64) cp] W' fun e w' => e = .returned (.tuple #[]) ∧ Hid (Stt w' (upd (upd (upd (upd M1 (8, 5) (rowP 5 1 (.slice (some ⟨g, 0, none⟩) (s.dz.length + 64) cp) (s.dz.length + 64) (bv (s.dz ++ marks 0 64)))) (1, i) (segO (none))) (2, i) (refO (none))) (8, 5) (rowP 5 1 (.slice (some ⟨g, 0, none⟩) (s.dz.length + 64) cp) (s.dz.length + 64) (bv (marks (-1) (s.dz.length + 64) ++ (s.dz ++ marks 0 64).drop (s.dz.length + 64))))))) := fun g cp a r W' h => by
    have e5 : (upd (upd (upd M1 (8, 5) (rowP 5 1 (.slice (some ⟨g, 0, none⟩) (s.dz.length + 64) cp) (s.dz.length + 64) (bv (s.dz ++ marks 0 64)))) (1, i) (segO (none))) (2, i) (refO (none))) (8, 5) = rowP 5 1 (.slice (some ⟨g, 0, none⟩) (s.dz.length + 64) cp) (s.dz.length + 64) (bv (s.dz ++ marks 0 64)) := (upd_ne (by simp)).trans ((upd_ne (by simp)).trans (upd_eq _ _ _))
    exact stt_call (c := (8, 5)) (p' := rowP 5 1 (.slice (some ⟨g, 0, none⟩) (s.dz.length + 64) cp) (s.dz.length + 64) (bv (marks (-1) (s.dz.length + 64) ++ (s.dz ++ marks 0 64).drop (s.dz.length + 64)))) e5 h (fun F hF hB => (over_any g cp (s.dz.length + 64) (s.dz.length + 64) 0 (s.dz ++ marks 0 64) W' (by omega) (Nat.le_refl _) (by simp [marks_len]) hF.1).mono fun e w' ⟨he, p1, _, _, p2⟩ => ⟨he, ⟨p1, hF.2⟩, Kp.ofGrown p2 (fun k e _ => hF.2 k e)⟩)
  have HX := hidS (fun (g cp a r : Nat) W' h => stt_sl (W := W') (M := upd (upd (upd (upd M1 (8, 5) (rowP 5 1 (.slice (some ⟨g, 0, none⟩) (s.dz.length + 64) cp) (s.dz.length + 64) (bv (s.dz ++ marks 0 64)))) (1, i) (segO (none))) (2, i) (refO (none))) (8, 5) (rowP 5 1 (.slice (some ⟨g, 0, none⟩) (s.dz.length + 64) cp) (s.dz.length + 64) (bv (marks (-1) (s.dz.length + 64) ++ (s.dz ++ marks 0 64).drop (s.dz.length + 64))))) h ((upd_ne (by simp)).trans ((upd_ne (by simp)).trans ((upd_ne (by simp)).trans ((upd_ne (by simp)).trans hI1.obj)))) i hi (.pointer none) (.pointer none))
  have HF : Hid (∀ (g cp a r : Nat) W', Stt W' (upd (upd (upd (upd (upd (upd M1 (8, 5) (rowP 5 1 (.slice (some ⟨g, 0, none⟩) (s.dz.length + 64) cp) (s.dz.length + 64) (bv (s.dz ++ marks 0 64)))) (1, i) (segO (none))) (2, i) (refO (none))) (8, 5) (rowP 5 1 (.slice (some ⟨g, 0, none⟩) (s.dz.length + 64) cp) (s.dz.length + 64) (bv (marks (-1) (s.dz.length + 64) ++ (s.dz ++ marks 0 64).drop (s.dz.length + 64))))) (0, 0) (objP o ((wldC A).setIfInBounds i (.pointer none)) 30)) (0, 0) (objP o (((wldC A).setIfInBounds i (.pointer none)).setIfInBounds (4 + i) (.pointer none)) 30)) → Aft o M n W') := fun g cp a r W' h => by
    refine HLV.out _ ⟨setS A i (none), upd (upd (upd M1 (1, i) (segO (none))) (2, i) (refO (none))) (0, 0) (objP o (((wldC A).setIfInBounds i (.pointer none)).setIfInBounds (4 + i) (.pointer none)) 30), stt_forget (8, 5) h (by simp [upd, h5]) (fun d hd => ?_), ?_⟩
    · by_cases d0 : d = (0, 0)
      · simp [upd, d0]
      · simp [upd, hd, d0]
    refine (fun q => ⟨q.1, q.2, hA.slot _ _⟩) (inv_new hI1 ((upd_eq _ _ _).trans (by rw [← wld_set hi (none)]; rfl)) ?_ ?_ ?_)
    · first | (simp [upd]; done) | (simp [upd]; rfl)
    · first | (simp [upd]; done) | (simp [upd]; rfl)
    · exact fun d d1 d2 d3 => by simp [upd, d1, d2, d3]
  clear hO1 h5 hrd hw0 hr0 hl h85 hpw
  obtain ⟨c0, -, -, -, -, c7⟩ := stt_c hS1 hM8
  have HS1 := hidS hS1
  clear hS1 hs hd hS0 h8 hI0 hI1 hA hM8 hM9 hM7
  go_enter Tryd.func15, Tryd.ntmps15
  go_wp2_with (first
    | (go_at_call 29; with_reducible refine (HL.out _ HS1.out).mono ?_; rintro e w1 ⟨g, cp, rfl, hcp, HQ1⟩; obtain ⟨-, -, -, -, -, d7⟩ := HC2.out _ _ _ HQ1.out; have hc1 : s.dz.length ≤ cp := (by omega); have hc2 : (s.dz.length : Int) ≤ (cp : Int) := (by omega))
    | (go_at_call 30; with_reducible refine (HW.out _ _ _ HQ1.out).mono ?_; rintro e w2 ⟨a1, rfl, HQ2⟩; obtain ⟨-, -, -, -, -, f7⟩ := HC3.out g cp a1 _ HQ2.out)
    | (go_at_call 31; with_reducible refine (HR.out g cp a1 _ HQ2.out).mono ?_; rintro e w3 ⟨r3, rfl, HQ3⟩; obtain ⟨-, -, -, -, -, k7⟩ := HC4.out g cp a1 r3 _ HQ3.out)
    | (go_at_call 32; with_reducible refine (HK.out g cp a1 r3 _ HQ3.out).mono ?_; rintro e w4 ⟨rfl, HQ4⟩)
    | (go_at_call 33; with_reducible refine (HO.out g cp a1 r3 _ HQ4.out).mono ?_; rintro e w5 ⟨rfl, HQ5⟩; obtain ⟨x1, x2, x3, x4, HQ6⟩ := HX.out g cp a1 r3 _ HQ5.out; have HQ7 := hidS HQ6; clear HQ6)
    | fail)
  go_ret
  exact ⟨rfl, HF.out g cp a1 r3 _ HQ7.out⟩
theorem make_all (s : Stp) (hs : StpQ s) : MakeOk s := fun o n A M i j W w0 hi hj hS hI hA hn h8 h85 hw0 hr0 => by
  by_cases d1 : s.d = 1
  · by_cases hpw : Pw s.dz.length
    · exact make1g o n A M i hi s W hS hI hA hn h8 hs.ok j hj w0 hw0 hr0 hs.dl h85 hpw d1
    · exact make1b o n A M i hi s W hS hI hA hn h8 hs.ok j hj w0 hw0 hr0 hs.dl h85 hpw d1
  · exact make_mid o n A M i j hi hj s W hS hI hA hn h8 hs.ok d1
end Go.Proofs.YtnjglagfpghbjaaDoor
namespace Go.Proofs.YtnjglagfpghbjaaDoor
open Go.RowKit Go.WideShapes
set_option maxRecDepth 100000

set_option maxHeartbeats 2000000 in
theorem stand_core (o : Nat) (A : Wd) (M : Col → Pc) (W : World) (hS : Stt W M) (hobj : M (0, 0) = objP o (wldC A) 30) (hseg : ∀ i, i < 4 → M (1, i) = segO (A.s i)) (href : ∀ i, i < 4 → M (2, i) = refO (A.s i)) (h7 : M (8, 7) = noP) (h8 : M (8, 8) = noP) :
    Calls Tryd.prog 6 #[.pointer (some ⟨o, 0, none⟩)] W fun e w' => e = .returned (.bool true) ∧ Hid (Stt w' M) := by
  have HL : Hid (∀ i, i < 4 → ∀ W', Stt W' M → Calls Tryd.prog 20 #[haveV (A.s i)] W' fun e w' => ∃ v, e = .returned v ∧ Hid (Stt w' (upd M (8, 7) (rowB v (btD (A.s i)))))) := fun i hi W' h => by
    obtain ⟨F, hF⟩ := stt_get h (hseg i hi)
    exact (bt_h (A.s i) F W' hF).mono fun e w' ⟨v, he, hr, hb⟩ => ⟨v, he, stt_new h hb hr⟩
  have HR : Hid (∀ i, i < 4 → ∀ v W', Stt W' (upd M (8, 7) (rowB v (btD (A.s i)))) → Calls Tryd.prog 21 #[wantV (A.s i)] W' fun e w' => ∃ u, e = .returned u ∧ Hid (Stt w' (upd (upd M (8, 7) (rowB v (btD (A.s i)))) (8, 8) (rowB u (btD (A.s i)))))) := fun i hi v W' h => by
    obtain ⟨F, hF⟩ := stt_get h ((upd_ne (by simp)).trans (href i hi))
    exact (bt_w (A.s i) F W' hF).mono fun e w' ⟨v, he, hr, hb⟩ => ⟨v, he, stt_new h hb hr⟩
  have HB : Hid (∀ i, i < 4 → ∀ v u W', Stt W' (upd (upd M (8, 7) (rowB v (btD (A.s i)))) (8, 8) (rowB u (btD (A.s i)))) → Calls Tryd.prog 19 #[v, u] W' fun e w' => e = .returned (.bool true) ∧ Hid (Stt w' M ∧ Stt w' (upd (upd M (8, 7) (rowB v (btD (A.s i)))) (8, 8) (rowB u (btD (A.s i)))))) := fun i hi v u W' h => by
    obtain ⟨F, hF⟩ := stt_get h ((upd_ne (by simp)).trans ((upd_ne (by simp)).trans (hseg i hi)))
    have hl := btD_len hF
    obtain ⟨a1, c1, q1, r1⟩ := own_reads (stt_row h ((upd_ne (by simp)).trans (upd_eq _ _ _)))
    obtain ⟨a2, c2, q2, r2⟩ := own_reads (stt_row h (upd_eq _ _ _))
    subst q1 q2
    refine (same_any _ _ _ _ _ _ W' (by omega) r1 r2).mono fun e w' ⟨he, m, hw⟩ => ⟨by simpa using he, ?_⟩
    have h2 : Stt w' (upd (upd M (8, 7) (rowB (.slice a1 (btD (A.s i)).length c1) (btD (A.s i)))) (8, 8) (rowB (.slice a2 (btD (A.s i)).length c2) (btD (A.s i)))) := by rw [hw]; exact stt_drewN m h
    exact ⟨stt_forget (8, 8) (stt_forget (8, 7) (M' := upd M (8, 8) (rowB (.slice a2 (btD (A.s i)).length c2) (btD (A.s i)))) h2 (by simp [upd, h7]) (fun d hd => by simp [upd, hd])) h8 (fun d hd => by simp [upd, hd]), h2⟩
  have HV := hidS (fun W' (h : Stt W' M) => stt_hv h hobj)
  have HV1 := hidS (fun i v W' (h : Stt W' (upd M (8, 7) (rowB v (btD (A.s i))))) => stt_hv h ((upd_ne (by simp)).trans hobj))
  have HV2 := hidS (fun i v u W' (h : Stt W' (upd (upd M (8, 7) (rowB v (btD (A.s i)))) (8, 8) (rowB u (btD (A.s i))))) => stt_hv h ((upd_ne (by simp)).trans ((upd_ne (by simp)).trans hobj)))
  have HS := hidS hS
  clear hS hobj hseg href h7 h8
  go_enter Tryd.func6, Tryd.ntmps6
  go_wp2_with fail
  go_loopw [3] (fun i wr => ∃ k : Nat, k ≤ 4 ∧ i = .int .i64 k ∧ Stt wr M) (fun i _ => 4 - (intOf i).toNat)
  case atStart => exact ⟨0, by omega, rfl, HS.out⟩
  case round =>
    obtain ⟨k, hk, rfl, hq⟩ := hrel
    have HQ := hidS hq
    clear hq
    by_cases hlt : k < 4
    · have hkI : (k : Int) < 4 := by omega
      obtain ⟨c1, c2⟩ := HV.out _ HQ.out k hlt
      cases hsl : A.s k with
      | none =>
        rw [hsl] at c1 c2
        have HL' := hidS (HL.out k hlt)
        have HR' := hidS (HR.out k hlt)
        have HB' := hidS (HB.out k hlt)
        have HC1 := hidS (fun v W' h => HV1.out k v W' h k hlt)
        have HC2 := hidS (fun v u W' h => HV2.out k v u W' h k hlt)
        rw [hsl] at HL' HR' HB' HC1 HC2
        simp only [haveV, wantV] at c1 c2 HL' HR' HC1 HC2
        clear HL HR HB HV1 HV2
        go_wp2_with fail
        go_region_held3 (fun w' => w'.cell? ⟨o, k, none⟩ = some (.pointer none) ∧ w'.cell? ⟨o, 4 + k, none⟩ = some (.pointer none)) ((first | exact ⟨c1, c2⟩ | exact HC2.out _ _ _ HQ3.out.2 | exact HC2.out _ _ _ HQ2.out | exact HC1.out _ _ HQ1.out)) (first
          | (go_at_call 20; with_reducible refine (HL'.out _ (by (repeat (first | exact HQ.out | with_reducible refine stt_drew ?_)))).mono ?_; rintro e w1 ⟨v1, rfl, HQ1⟩)
          | (go_at_call 21; with_reducible refine (HR'.out _ _ HQ1.out).mono ?_; rintro e w2 ⟨v2, rfl, HQ2⟩)
          | (go_at_call 19; with_reducible refine (HB'.out _ _ _ HQ2.out).mono ?_; rintro e w3 ⟨rfl, HQ3⟩)
          | fail)
        go_wp2_with fail
        go_roundw
        case rel => exact ⟨k + 1, by omega, by go_num, HQ3.out.1⟩
        case measure => simp [intOf]; omega
      | some sl =>
        rw [hsl] at c1 c2
        have HL' := hidS (HL.out k hlt)
        have HR' := hidS (HR.out k hlt)
        have HB' := hidS (HB.out k hlt)
        have HC1 := hidS (fun v W' h => HV1.out k v W' h k hlt)
        have HC2 := hidS (fun v u W' h => HV2.out k v u W' h k hlt)
        rw [hsl] at HL' HR' HB' HC1 HC2
        simp only [haveV, wantV] at c1 c2 HL' HR' HC1 HC2
        clear HL HR HB HV1 HV2
        go_wp2_with fail
        go_region_held3 (fun w' => w'.cell? ⟨o, k, none⟩ = some (.pointer (some ⟨sl.a, 0, none⟩)) ∧ w'.cell? ⟨o, 4 + k, none⟩ = some (.pointer (some ⟨sl.r, 0, none⟩))) ((first | exact ⟨c1, c2⟩ | exact HC2.out _ _ _ HQ3.out.2 | exact HC2.out _ _ _ HQ2.out | exact HC1.out _ _ HQ1.out)) (first
          | (go_at_call 20; with_reducible refine (HL'.out _ (by (repeat (first | exact HQ.out | with_reducible refine stt_drew ?_)))).mono ?_; rintro e w1 ⟨v1, rfl, HQ1⟩)
          | (go_at_call 21; with_reducible refine (HR'.out _ _ HQ1.out).mono ?_; rintro e w2 ⟨v2, rfl, HQ2⟩)
          | (go_at_call 19; with_reducible refine (HB'.out _ _ _ HQ2.out).mono ?_; rintro e w3 ⟨rfl, HQ3⟩)
          | fail)
        go_wp2_with fail
        go_roundw
        case rel => exact ⟨k + 1, by omega, by go_num, HQ3.out.1⟩
        case measure => simp [intOf]; omega
    · have hkI : ¬ (k : Int) < 4 := by omega
      go_wp2_with fail
      go_ret
      exact ⟨rfl, HQ⟩
theorem stand_any (o : Nat) (A : Wd) (M : Col → Pc) (W : World) (hS : Stt W M) (hI : Inv o A M) (h7 : M (8, 7) = noP) (h8 : M (8, 8) = noP) :
    Calls Tryd.prog 6 #[.pointer (some ⟨o, 0, none⟩)] W fun e w' => e = .returned (.bool true) ∧ Hid (Stt w' M) := stand_core o A M W hS hI.obj hI.seg hI.ref h7 h8
end Go.Proofs.YtnjglagfpghbjaaDoor
namespace Go.Proofs.YtnjglagfpghbjaaDoor
open Go.RowKit Go.WideShapes
set_option maxRecDepth 100000

theorem stt_setc {W : World} {M : Col → Pc} {c : Col} {o i : Nat} {cs cs' : Array Value} {t : TypeId} (h : Stt W M) (ho : M c = objP o cs t) (v : Value) (hc : cs.setIfInBounds i v = cs') : Stt (W.setCell ⟨o, i, none⟩ v) (upd M c (objP o cs' t)) := by
  obtain ⟨col, h⟩ := h
  have hb := h c
  rw [ho] at hb
  subst hc
  exact stt_one h ⟨set_cells hb.1, fun _ => hb.2⟩ (Kp.setCell W _ v (fun _ => hb.2))
def wd0 : Wd := ⟨fun _ => none, .slice none 0 0, .slice none 0 0, .slice none 0 0, .slice none 0 0, [], [], [], []⟩
def mp0 (W : World) : Col → Pc := fun d => if d = (0, 0) then objP W.heap.size (wldC wd0) 30 else if d = (9, 0) then outP W else if d = (3, 0) ∨ d = (3, 1) then rowP 32 1 (.slice none 0 0) 0 [] else if d = (3, 2) ∨ d = (3, 3) then rowP 40 1 (.slice none 0 0) 0 [] else noP
theorem nil_rowX (e : Nat) (F : Nat → Prop) (W : World) : (rowP e 1 (.slice none 0 0) 0 []).h F W := ⟨⟨rfl, .inl ⟨rfl, rfl⟩⟩, fun k e => by simp [Value.ownBlock] at e⟩
theorem stt_init (W : World) : Stt (W.alloc (.cells (wldC wd0) 30)) (mp0 W) := by
  refine ⟨fun k => if k < W.heap.size then (9, 0) else (0, 0), fun d => ?_⟩
  unfold mp0
  split
  · rename_i h; subst h
    exact ⟨heap_alloc_new W _, if_neg (Nat.lt_irrefl _)⟩
  split
  · rename_i h; subst h
    exact ⟨(Below.refl _ _).alloc (Nat.le_refl _) _, fun k hk => if_pos hk⟩
  split
  · exact nil_rowX _ _ _
  split
  · exact nil_rowX _ _ _
  · trivial
theorem inv_init (W : World) : Inv W.heap.size wd0 (mp0 W) :=
  ⟨rfl, fun i _ => by simp [mp0, wd0, segO], fun i _ => by simp [mp0, wd0, refO], by simp [mp0, wd0], by simp [mp0, wd0], by simp [mp0, wd0], by simp [mp0, wd0], fun j v zs h => by simp [wd0] at h, fun j v zs h => by simp [wd0] at h, fun j v zs h => by simp [wd0] at h, fun j v zs h => by simp [wd0] at h⟩
theorem wf_init : WfA wd0 0 := ⟨rfl, rfl, fun x h => by simp [wd0] at h, fun x h => by simp [wd0] at h, Nat.le_refl _, Nat.le_refl _⟩
theorem mp0_8 (W : World) (j : Nat) : mp0 W (8, j) = noP := by simp [mp0]
theorem mp0_9 (W : World) : mp0 W (9, 0) = outP W := by simp [mp0]
/-- what is held between two steps -/
def Mid (o : Nat) (w0 : World) (n : Nat) (w : World) : Prop := ∃ A M, Stt w M ∧ Inv o A M ∧ WfA A n ∧ M (9, 0) = outP w0 ∧ ∀ j, M (8, j) = noP
theorem mid_init (W : World) : Mid W.heap.size W 0 (W.alloc (.cells #[.pointer none, .pointer none, .pointer none, .pointer none, .pointer none, .pointer none, .pointer none, .pointer none, .slice none 0 0, .slice none 0 0, .slice none 0 0, .slice none 0 0] 30)) :=
  ⟨wd0, mp0 W, stt_init W, inv_init W, wf_init, mp0_9 W, mp0_8 W⟩
theorem mid_of {o n : Nat} {w0 w' : World} {M : Col → Pc} (h9 : M (9, 0) = outP w0) (h8 : ∀ j, M (8, j) = noP) (h : Aft o M n w') : Mid o w0 n w' := by
  obtain ⟨A', M', q1, q2, q3, q4⟩ := h
  exact ⟨A', M', q1, q2, q4, (q3 0).2.trans h9, fun j => (q3 j).1.trans (h8 j)⟩
theorem make_ok (s : Stp) (hs : StpOk s) (hd : ¬ s.d = 1) : MakeOk s := fun o n A M i j W _ hi hj hS hI hA hn h8 _ _ _ => make_mid o n A M i j hi hj s W hS hI hA hn h8 hs hd
/-- a step from between two steps -/
theorem step_mid (o n : Nat) (s : Stp) (w0 W : World) (h : Mid o w0 n W) (hn : n + 1 < 5800000000000) (hs : StpQ s) (hmk : MakeOk s) (hr0 : Reads w0 s.da s.dz w0.heap.size) (hT : TabA w0) (h1w : 1 < w0.heap.size) :
    Calls Tryd.prog 5 #[.pointer (some ⟨o, 0, none⟩), .agg #[.int .u8 s.d, .int .u8 s.a, .int .u8 s.b, .int .u32 s.at_, .int .u32 s.v, .int .i64 s.n, .bool s.on, .slice s.da s.dz.length s.dc]] W fun e w' => e = .returned (.bool true) ∧ Hid (Mid o w0 (n + 2) w') := by
  obtain ⟨A, M, q1, q2, q3, q4, q5⟩ := h
  exact (step_any o n A M s W q1 q2 q3 hn (fun j _ => q5 j) hs hmk w0 q4 hr0 hT h1w).mono fun e w' ⟨he, hq⟩ => ⟨he, mid_of q4 q5 hq.out⟩
/-- a step while the step lies in a block of the caller's -/
theorem step_loc (o n : Nat) (s : Stp) (w0 W : World) (A : Wd) (M : Col → Pc) (hS : Stt W M) (hI : Inv o A M) (hA : WfA A n) (h9 : M (9, 0) = outP w0) (h8 : ∀ j, 1 ≤ j → M (8, j) = noP) (hn : n + 1 < 5800000000000) (hs : StpQ s) (hmk : MakeOk s) (hr0 : Reads w0 s.da s.dz w0.heap.size) (hT : TabA w0) (h1w : 1 < w0.heap.size) :
    Calls Tryd.prog 5 #[.pointer (some ⟨o, 0, none⟩), .agg #[.int .u8 s.d, .int .u8 s.a, .int .u8 s.b, .int .u32 s.at_, .int .u32 s.v, .int .i64 s.n, .bool s.on, .slice s.da s.dz.length s.dc]] W fun e w' => e = .returned (.bool true) ∧ Hid (Mid o w0 (n + 2) w') :=
  (step_any o n A M s W hS hI hA hn h8 hs hmk w0 h9 hr0 hT h1w).mono fun e w' ⟨he, hq⟩ => ⟨he, by
    obtain ⟨A', M', q1, q2, q3, q4⟩ := hq.out
    refine ⟨A', upd M' (8, 0) noP, stt_forget (8, 0) q1 (upd_eq _ _ _) (fun d hd => upd_ne hd), inv_far q2, q4, (upd_ne (by simp)).trans ((q3 0).2.trans h9), fun j => ?_⟩
    by_cases e : j = 0
    · subst e; exact upd_eq _ _ _
    · exact (upd_ne (by simp [e])).trans ((q3 j).1.trans (h8 j (by omega)))⟩
end Go.Proofs.YtnjglagfpghbjaaDoor
namespace Go.Proofs.YtnjglagfpghbjaaDoor
open Go.RowKit Go.WideShapes
set_option maxRecDepth 100000

set_option maxHeartbeats 1000000 in
theorem make0q (o n : Nat) (A : Wd) (M : Col → Pc) (i : Nat) (hi : i < 4) (s : Stp) (W : World) (hS0 : Stt W M) (hI0 : Inv o A M) (hA : WfA A n) (hn : n < 5800000000000) (h8 : M (8, 2) = noP) (hs : StpOk s) (j : Nat) (hj : j < 4) (hnw : 8 ≤ s.n ∧ s.n ≤ 16) (hd : s.d = 0) :
    Calls Tryd.prog 15 #[.pointer (some ⟨o, 0, none⟩), .agg (stpC s), .int .i64 i, .int .i64 j] W fun e w' => e = .returned (.bool true) ∧ Hid (AftQ (fun B : Wd => ∃ a, haveV (B.s i) = .pointer (some ⟨a, 0, none⟩)) o M (n) w') := by
  have hS1 := stt_stp (8, 2) s hS0
  have hI1 := inv_far (j := 2) (p := objP W.heap.size (stpC s) 34) hI0
  have HLV := hidS (fun w' => AftQ.leave (Q := (fun B : Wd => ∃ a, haveV (B.s i) = .pointer (some ⟨a, 0, none⟩))) (o := o) (j := 2) (n := n) (p := objP W.heap.size (stpC s) 34) (w' := w') h8)
  have hM8 : upd M (8, 2) (objP W.heap.size (stpC s) 34) (8, 2) = objP W.heap.size (stpC s) 34 := upd_eq _ _ _
  have hdI : (s.d : Int) = 0 := by omega
  have hM9 : ∀ j, upd M (8, 2) (objP W.heap.size (stpC s) 34) (9, j) = M (9, j) := fun j => upd_ne (by simp)
  have hM7 : ∀ j, j ≠ 2 → upd M (8, 2) (objP W.heap.size (stpC s) 34) (8, j) = M (8, j) := fun j hj => upd_ne (by simp [hj])
  generalize upd M (8, 2) (objP W.heap.size (stpC s) 34) = M1 at *
  have _u := And.intro hn (And.intro hs hi)
  clear _u
  have _v := hj
  clear _v
  have hiI : (i : Int) < 4 := by omega
  have HL : Hid (∀ W', Stt W' M1 → Calls Tryd.prog 27 #[.int .i64 s.n] W' fun e w' => ∃ a : Nat, e = .returned (.tuple #[.pointer (some ⟨a, 0, none⟩), .int .i64 0]) ∧ Hid (Stt w' (upd M1 (1, i) (segO (some ⟨a, 0, ⟨List.replicate (2 ^ s.n.toNat) 0, false, []⟩⟩))))) := fun W' h => by
    have q := nw_h s.n W'
    simp only [nwS, nwE, hnw, and_self, if_true] at q
    exact q.mono fun e w' ⟨a, he, hr, hb⟩ => ⟨a, he, stt_new h hb hr⟩
  have HR : Hid (∀ (a : Nat) W', Stt W' (upd M1 (1, i) (segO (some ⟨a, 0, ⟨List.replicate (2 ^ s.n.toNat) 0, false, []⟩⟩))) → Calls Tryd.prog 28 #[.int .i64 s.n] W' fun e w' => ∃ r : Nat, e = .returned (.tuple #[.pointer (some ⟨r, 0, none⟩), .int .i64 0]) ∧ Hid (Stt w' (upd (upd M1 (1, i) (segO (some ⟨a, 0, ⟨List.replicate (2 ^ s.n.toNat) 0, false, []⟩⟩))) (2, i) (refO (some ⟨0, r, ⟨List.replicate (2 ^ s.n.toNat) 0, false, []⟩⟩))))) := fun (a : Nat) W' h => by
    have q := nw_w s.n W'
    simp only [nwS, nwE, hnw, and_self, if_true] at q
    exact q.mono fun e w' ⟨a, he, hr, hb⟩ => ⟨a, he, stt_new h hb hr⟩
  have HX := hidS (fun (a r : Nat) W' h => stt_sl (W := W') (M := upd (upd M1 (1, i) (segO (some ⟨a, 0, ⟨List.replicate (2 ^ s.n.toNat) 0, false, []⟩⟩))) (2, i) (refO (some ⟨0, r, ⟨List.replicate (2 ^ s.n.toNat) 0, false, []⟩⟩))) h ((upd_ne (by simp)).trans ((upd_ne (by simp)).trans hI1.obj)) i hi (.pointer (some ⟨a, 0, none⟩)) (.pointer (some ⟨r, 0, none⟩)))
  have HF : Hid (∀ (a r : Nat) W', Stt W' (upd (upd (upd (upd M1 (1, i) (segO (some ⟨a, 0, ⟨List.replicate (2 ^ s.n.toNat) 0, false, []⟩⟩))) (2, i) (refO (some ⟨0, r, ⟨List.replicate (2 ^ s.n.toNat) 0, false, []⟩⟩))) (0, 0) (objP o ((wldC A).setIfInBounds i (.pointer (some ⟨a, 0, none⟩))) 30)) (0, 0) (objP o (((wldC A).setIfInBounds i (.pointer (some ⟨a, 0, none⟩))).setIfInBounds (4 + i) (.pointer (some ⟨r, 0, none⟩))) 30)) → AftQ (fun B : Wd => ∃ a, haveV (B.s i) = .pointer (some ⟨a, 0, none⟩)) o M n W') := fun (a r : Nat) W' h => by
    refine HLV.out _ ⟨setS A i (some ⟨a, r, ⟨List.replicate (2 ^ s.n.toNat) 0, false, []⟩⟩), _, h, ?_⟩
    refine (fun q => ⟨q.1, q.2, hA.slot _ _, a, by simp [setS, haveV]⟩) (inv_new hI1 ((upd_eq _ _ _).trans (by rw [← wld_set hi (some ⟨a, r, ⟨List.replicate (2 ^ s.n.toNat) 0, false, []⟩⟩)]; rfl)) ?_ ?_ ?_)
    · first | (simp [upd]; done) | (simp [upd]; rfl)
    · first | (simp [upd]; done) | (simp [upd]; rfl)
    · exact fun d d1 d2 d3 => by simp [upd, d1, d2, d3]
  have HC1 := hidS (fun (a : Nat) W' h => stt_c (W := W') (M := upd M1 (1, i) (segO (some ⟨a, 0, ⟨List.replicate (2 ^ s.n.toNat) 0, false, []⟩⟩))) (c := (8, 2)) h ((upd_ne (by simp)).trans hM8))
  clear hnw
  obtain ⟨c0, -, -, c5, -, -⟩ := stt_c hS1 hM8
  have HS1 := hidS hS1
  clear hS1 hs hd hS0 h8 hI0 hI1 hA hM8 hM9 hM7
  go_enter Tryd.func15, Tryd.ntmps15
  go_wp2_with (first
    | (go_at_call 27; with_reducible refine (HL.out _ HS1.out).mono ?_; rintro e w1 ⟨a1, rfl, HQ1⟩; obtain ⟨-, -, -, d5, -, -⟩ := HC1.out a1 _ HQ1.out)
    | (go_at_call 28; with_reducible refine (HR.out a1 _ HQ1.out).mono ?_; rintro e w2 ⟨r2, rfl, HQ2⟩; obtain ⟨x1, x2, x3, x4, HQ3⟩ := HX.out a1 r2 _ HQ2.out; have HQ4 := hidS HQ3; clear HQ3)
    | fail)
  go_ret
  exact ⟨rfl, HF.out a1 r2 _ HQ4.out⟩
/-- the first step makes the first segment -/
theorem step_first (o : Nat) (w0 W : World) (h : Mid o w0 0 W) (hT : TabA w0) (h1w : 1 < w0.heap.size) :
    Calls Tryd.prog 5 #[.pointer (some ⟨o, 0, none⟩), .agg #[.int .u8 0, .int .u8 0, .int .u8 0, .int .u32 0, .int .u32 0, .int .i64 8, .bool false, .slice none 0 0]] W fun e w' => e = .returned (.bool true) ∧ ∃ a, Hid (Mid o w0 2 w') ∧ w'.cell? ⟨o, 0, none⟩ = some (.pointer (some ⟨a, 0, none⟩)) := by
  obtain ⟨A, M, q1, q2, q3, q4, q5⟩ := h
  have hq : StpQ ⟨0, 0, 0, 0, 0, 8, false, none, 0, []⟩ := ⟨⟨by simp, by simp, by simp, by simp, by simp, by simp, fun z hz => by simp at hz⟩, by simp, by simp, by simp⟩
  have hm : MakeQ (fun B : Wd => ∃ a, haveV (B.s 0) = .pointer (some ⟨a, 0, none⟩)) ⟨0, 0, 0, 0, 0, 8, false, none, 0, []⟩ := fun o n A M i j W w0 a1 a2 a3 a4 a5 a6 a7 _ _ _ hi => by
    obtain rfl : i = 0 := hi
    exact make0q o n A M 0 a1 ⟨0, 0, 0, 0, 0, 8, false, none, 0, []⟩ W a3 a4 a5 a6 a7 hq.ok j a2 (by decide) rfl
  refine (step_q (fun B : Wd => ∃ a, haveV (B.s 0) = .pointer (some ⟨a, 0, none⟩)) (fun A A' hp ⟨a, e⟩ => ⟨a, (hp 0).1.trans e⟩) o 0 A M ⟨0, 0, 0, 0, 0, 8, false, none, 0, []⟩ W q1 q2 q3 (by decide) (fun j _ => q5 j) hq hm w0 q4 (Reads.nil _ _ _) hT h1w).mono fun e w' ⟨he, hz⟩ => ⟨he, ?_⟩
  obtain ⟨A', M', p1, p2, p3, p4, a, p5⟩ := hz.out
  refine ⟨a, ⟨A', M', p1, p2, p4, (p3 0).2.trans q4, fun j => (p3 j).1.trans (q5 j)⟩, ?_⟩
  have := (stt_hv p1 p2.obj 0 (by decide)).1
  rw [p5] at this
  exact this
end Go.Proofs.YtnjglagfpghbjaaDoor
