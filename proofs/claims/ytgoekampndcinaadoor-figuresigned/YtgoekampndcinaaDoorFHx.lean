import Derived.Test.YtgoekampndcinaaDoorFTz
import Derived.Lib.ItoaWalk
import Derived.Lib.ItoaMem
namespace Go.Proofs.YtgoekampndcinaaDoor
open Go.RowKit

/-- the sign of a hexadecimal digit -/
def hexd (d : Nat) : Nat := if d < 10 then 48 + d else 87 + d
theorem hexd_lt (d : Nat) (h : d < 16) : hexd d < 256 := by unfold hexd; split <;> omega

def z65 : Array Value := Array.replicate 65 (.int .u8 0)
theorem z65_at (i : Nat) (h : i < 65) : z65[i]? = some (.int .u8 0) := by
  unfold z65; rw [Array.getElem?_replicate, if_pos h]
@[go_sem] theorem zv65 (w : World) : (zeroValue 70).run Tryd.prog w = .ok (.agg z65) w := by kernel_rfl
theorem cin (w : World) (o : Obj) (p : Addr) (h : p.block < w.heap.size) : (w.alloc o).cell? p = w.cell? p := ((Below.refl w.heap.size w).alloc (Nat.le_refl _) o).cell h
theorem cell_blk {w : World} {p : Addr} {v : Value} (h : w.cell? p = some v) : p.block < w.heap.size := by
  apply Nat.lt_of_not_le
  intro hn
  have : w.heap[p.block]? = none := Array.getElem?_eq_none hn
  unfold World.cell? at h
  rw [this] at h
  simp at h
/-- the digits behind k of them -/
def dgs : ByteArray := ⟨#[48, 49, 50, 51, 52, 53, 54, 55, 56, 57, 97, 98, 99, 100, 101, 102, 103, 104, 105, 106, 107, 108, 109, 110, 111, 112, 113, 114, 115, 116, 117, 118, 119, 120, 121, 122]⟩
theorem dgs_at : ∀ d : Fin 16, bt dgs d.val = hexd d.val := by decide
theorem dgs_size : dgs.size = 36 := rfl
theorem dgs_ix (d : Nat) (h : d < 16) (h' : d < dgs.size) : (dgs[d]'h').toNat = hexd d := by
  rw [← bt_eq dgs d h']; exact dgs_at ⟨d, h⟩
theorem and15 (u : Nat) (h : u < 18446744073709551616) : bits .and .u64 (u : Int) 15 = ((u % 16 : Nat) : Int) := by
  have := u64_and_nat u 15 h (by omega)
  rw [show u &&& 15 = u % 16 from Nat.and_two_pow_sub_one_eq_mod u 4] at this
  exact this
/-- what the row of the digits holds -/
def Row (W : World) (B : Nat) (G : Nat → Nat) : Prop := ∀ t, t < 65 → W.cell? ⟨B, t, none⟩ = some (.int .u8 (G t : Nat)) ∧ W.frozen? ⟨B, t, none⟩ = false
theorem Row.set {W : World} {B : Nat} {G : Nat → Nat} (h : Row W B G) (i v : Nat) (hi : i < 65) : Row (W.setCell ⟨B, i, none⟩ (.int .u8 (v : Nat))) B (fun t => if t = i then v else G t) := by
  intro t ht
  refine ⟨?_, ?_⟩
  · by_cases e : t = i
    · subst e
      rw [World.cell?_setCell_same _ _ _ (h t ht).1]; simp
    · rw [World.cell?_setCell_other _ _ _ _ (by first | (simp; done) | (simp; omega) | (intro hh; exact e (by simpa using hh))), (h t ht).1]; simp [e]
  · rw [World.frozen?_setCell]; exact (h t ht).2
theorem row0 (w : World) (T : TypeId) : Row (w.alloc (.cells z65 T)) w.heap.size (fun _ => 0) := by
  intro t ht
  exact ⟨by rw [World.cell?_alloc_new, z65_at t ht]; first | rfl | skip, World.frozen?_alloc_new _ _ _ _⟩
/-- the last k hexadecimal digits -/
def hk : Nat → Nat → List Nat
  | 0, _ => []
  | k + 1, x => hk k (x / 16) ++ [hexd (x % 16)]
theorem hk_len (k : Nat) : ∀ x, (hk k x).length = k := by
  induction k with
  | zero => intro x; rfl
  | succ k ih => intro x; rw [hk, List.length_append, ih]; rfl
theorem hk_at (k : Nat) : ∀ x j, j < k → (hk k x).getD (k - 1 - j) 0 = hexd (x / 16 ^ j % 16) := by
  induction k with
  | zero => intro x j hj; omega
  | succ k ih =>
    intro x j hj
    rw [hk]
    cases j with
    | zero =>
      rw [show k + 1 - 1 - 0 = k by omega, List.getD_eq_getElem?_getD, List.getElem?_append_right (by rw [hk_len]; exact Nat.le_refl _), hk_len]
      simp
    | succ j =>
      rw [List.getD_eq_getElem?_getD, List.getElem?_append_left (by rw [hk_len]; omega), ← List.getD_eq_getElem?_getD, show k + 1 - 1 - (j + 1) = k - 1 - j by omega, ih (x / 16) j (by omega), Nat.div_div_eq_div_mul, Nat.pow_succ, Nat.mul_comm 16]
def byts (L : List Nat) : List UInt8 := L.map UInt8.ofNat

set_option maxRecDepth 100000 in
set_option maxHeartbeats 4000000 in
theorem fbits16 (x : Nat) (w : World) (hx : x < 4294967296) (hc : w.cell? ⟨3, 15, none⟩ = some (.int .u8 4)) :
    Calls Tryd.prog 35 #[.slice none 0 0, .int .u64 x, .int .i64 16, .bool false, .bool false] w fun e w' => (∃ k, k < 8 ∧ x / 16 ^ k < 16 ∧ (k = 0 ∨ 16 ^ k ≤ x) ∧ e = .returned (.tuple #[.slice none 0 0, .string ⟨(byts (hk (k + 1) x)).toArray⟩])) ∧ Below w.heap.size w w' := by
  have hc2 : (w.alloc (.cells z65 70)).cell? ⟨3, 15, none⟩ = some (.int .u8 4) := by rw [cin _ _ _ (cell_blk hc)]; exact hc
  have R0 := row0 w 70
  have B0 : Below w.heap.size w (w.alloc (.cells z65 70)) := (Below.refl _ _).alloc (Nat.le_refl _) _
  go_enter Tryd.func35, Tryd.ntmps35
  go_name_bytes PM hPM
  clear hPM
  go_name_bytes SM hSM
  have eSM : SM = dgs := by rw [← hSM]; rfl
  subst eSM
  clear hSM
  go_wp2_with (first
    | (go_at_call 41; refine (isp_16 _).mono ?_; rintro e w' ⟨rfl, hw'⟩; subst hw')
    | (go_at_call 42; refine (tz_16 _ hc2).mono ?_; rintro e w' ⟨rfl, hw'⟩; subst hw'))
  go_loopw [1, 13] (fun vu vi wr => ∃ k J : Nat, ∃ G : Nat → Nat, k ≤ 8 ∧ J + 1 + k = 65 ∧ vu = .int .u64 ((x / 16 ^ k : Nat) : Int) ∧ vi = .int .i64 ((J : Int) + 1) ∧ (k = 0 ∨ 16 ^ k ≤ x) ∧ Hid (Row wr w.heap.size G) ∧ Hid (∀ j, j < k → G (64 - j) = hexd (x / 16 ^ j % 16)) ∧ Below w.heap.size w wr)
    (fun _ vi _ => (intOf vi).toNat)
  case atStart => exact ⟨0, 64, fun _ => 0, by omega, rfl, by simp, rfl, Or.inl rfl, R0, fun j hj => by omega, B0⟩
  case round =>
    obtain ⟨k, J, G, hk8, hJ, rfl, rfl, hkx, HR, HG, hb⟩ := hrel
    obtain ⟨u, hu⟩ : ∃ u, x / 16 ^ k = u := ⟨_, rfl⟩
    have HU : Hid (x / 16 ^ k = u) := hu
    rw [hu]
    have hux : u ≤ x := by rw [← hu]; exact Nat.div_le_self _ _
    have hu2 : x / 16 ^ (k + 1) = u / 16 := by rw [Nat.pow_succ, ← Nat.div_div_eq_div_mul, hu]
    have hcj := (HR.out J (by omega)).1
    have hfj := (HR.out J (by omega)).2
    have hJ64 : (J : Int) < 65 := by omega
    clear hu
    by_cases h16 : 16 ≤ u
    · have h16I : (16 : Int) ≤ (u : Int) := by omega
      have ha := and15 u (by omega)
      obtain ⟨d, hd⟩ : ∃ d, u % 16 = d := ⟨_, rfl⟩
      have hd16 : d < 16 := by rw [← hd]; exact Nat.mod_lt _ (by decide)
      have hd36 : d < dgs.size := by rw [dgs_size]; omega
      have hix : (dgs[d]'hd36).toNat = hexd d := dgs_ix d hd16 hd36
      have hdl := hexd_lt d hd16
      have hdI : (d : Int) < 36 := by omega
      rw [hd] at ha
      have HDD : Hid (u % 16 = d) := hd
      clear hd
      have hs36 : dgs.size = 36 := rfl
      obtain ⟨u1, hu1⟩ : ∃ u1, u / 16 = u1 := ⟨_, rfl⟩
      have hdv : (u : Int) / 16 = (u1 : Int) := by omega
      rw [hu1] at hu2
      clear hu1
      have hk9 : k < 8 := by
        rcases Nat.lt_or_ge k 8 with h | h
        · exact h
        · obtain rfl : k = 8 := by omega
          have : x / 16 ^ 8 = 0 := Nat.div_eq_of_lt (by simpa using hx)
          rw [HU.out] at this; omega
      have HR2 : Hid (Row _ w.heap.size _) := HR.out.set J (hexd d) (by omega)
      have HG2 : Hid (∀ j, j < k + 1 → (fun t => if t = J then hexd d else G t) (64 - j) = hexd (x / 16 ^ j % 16)) := by
        intro j hj
        by_cases e : j = k
        · subst e
          show (if 64 - j = J then _ else _) = _
          rw [if_pos (by omega), HU.out, HDD.out]
        · show (if 64 - j = J then _ else _) = _
          rw [if_neg (by omega)]; exact HG.out j (by omega)
      have hkx2 : 16 ^ (k + 1) ≤ x := by
        have h1 : 16 * 16 ^ k ≤ u * 16 ^ k := Nat.mul_le_mul_right _ h16
        have h2 : u * 16 ^ k ≤ x := by rw [← HU.out]; exact Nat.div_mul_le_self _ _
        rw [Nat.pow_succ, Nat.mul_comm]; exact Nat.le_trans h1 h2
      have HKX : Hid (16 ^ (k + 1) ≤ x) := hkx2
      have HU2 : Hid (x / 16 ^ (k + 1) = u1) := hu2
      clear hkx2 hu2
      generalize hexd d = hd at *
      go_wp2
      go_roundw
      case rel =>
        exact ⟨k + 1, J - 1, _, by omega, by omega, by rw [HU2.out], by go_num, Or.inr HKX.out, HR2, HG2, hb.setCell (p := ⟨w.heap.size, J, none⟩) (Nat.le_refl _) _⟩
      case measure => simp [intOf]
    · have h16I : (u : Int) < 16 := by omega
      have hu36 : u < dgs.size := by rw [dgs_size]; omega
      have hix : (dgs[u]'hu36).toNat = hexd u := dgs_ix u (by omega) hu36
      have hdl := hexd_lt u (by omega)
      have hs36 : dgs.size = 36 := rfl
      have hk8' : k < 8 := by
        rcases Nat.lt_or_ge k 8 with h | h
        · exact h
        · obtain rfl : k = 8 := by omega
          have h1 : x / 16 ^ 8 = 0 := Nat.div_eq_of_lt (by simpa using hx)
          rcases hkx with h2 | h2
          · omega
          · have h3 : (16 : Nat) ^ 8 = 4294967296 := by decide
            omega
      have HR2 : Hid (Row _ w.heap.size _) := HR.out.set J (hexd u) (by omega)
      have hal : Tryd.prog.arrayLen 70 = 65 := by simp [Program.arrayLen, Tryd.underlying70]
      have hJk : J + (k + 1) = 65 := by omega
      have hsl : ∀ W : World, (Instr.sliceAt 70 (.pointer (some ⟨w.heap.size, 0, none⟩)) (some (.int .i64 (J : Int))) none none).run Tryd.prog W = .ok (.slice (some ⟨w.heap.size, J, none⟩) (k + 1) (k + 1)) W := fun W => by
        rw [run_sliceAt_array_l W 70 ⟨w.heap.size, 0, none⟩ (by simp [Program.arrayLen, Program.elem, Tryd.underlying70]) .i64 (J : Int) (by omega) (by rw [hal]; omega)]
        go_simp
        omega
      clear hal
      have hcv : ∀ W : World, Row W w.heap.size (fun t => if t = J then hexd u else G t) → (convert 42 9 (.slice (some ⟨w.heap.size, J, none⟩) (k + 1) (k + 1))).run Tryd.prog W = .ok (.string ⟨(byts (hk (k + 1) x)).toArray⟩) W := fun W hW => by
        have h := run_convert_bytes_back (P := Tryd.prog) W 42 9 5 ⟨w.heap.size, J, none⟩ (k + 1) (byts (hk (k + 1) x)) Tryd.underlying42 Tryd.underlying5 Tryd.underlying9 (fun j hj => by
          have hj' : j < k + 1 := by simpa [byts, hk_len] using hj
          have hc1 := (hW (J + j) (by omega)).1
          rw [Lib.add_plain, hc1]
          have hv : (if J + j = J then hexd u else G (J + j)) = hexd (x / 16 ^ (k - j) % 16) := by
            by_cases e : j = 0
            · subst e
              rw [if_pos (by omega), Nat.sub_zero, HU.out, Nat.mod_eq_of_lt (by omega)]
            · rw [if_neg (by omega), show J + j = 64 - (k - j) by omega, HG.out (k - j) (by omega)]
          have hv2 := hk_at (k + 1) x (k - j) (by omega)
          rw [show k + 1 - 1 - (k - j) = j by omega] at hv2
          show some (Value.int .u8 ((if J + j = J then hexd u else G (J + j) : Nat) : Int)) = _
          rw [hv, ← hv2]
          have hlt : hexd (x / 16 ^ (k - j) % 16) < 256 := hexd_lt _ (Nat.mod_lt _ (by decide))
          rw [← hv2] at hlt
          have hg : (byts (hk (k + 1) x))[j] = UInt8.ofNat ((hk (k + 1) x).getD j 0) := by
            simp [byts, List.getD_eq_getElem?_getD, List.getElem?_eq_getElem (show j < (hk (k + 1) x).length by rw [hk_len]; exact hj')]
          rw [hg]
          generalize (hk (k + 1) x).getD j 0 = dd at *
          have hdd : (UInt8.ofNat dd).toNat = dd := by rw [UInt8.toNat_ofNat']; exact Nat.mod_eq_of_lt hlt
          rw [hdd])
        have hlen : (byts (hk (k + 1) x)).length = k + 1 := by simp [byts, hk_len]
        rw [hlen] at h
        exact h
      have hcv2 := hcv _ HR2.out
      have hu16 : u < 16 := by omega
      clear hcv HR HR2 HG hu2
      generalize hexd u = hd at *
      go_wp2
      go_ret2
      refine ⟨⟨k, hk8', by rw [HU.out]; exact hu16, hkx, rfl⟩, hb.setCell (p := ⟨w.heap.size, J, none⟩) (Nat.le_refl _) _⟩
end Go.Proofs.YtgoekampndcinaaDoor
