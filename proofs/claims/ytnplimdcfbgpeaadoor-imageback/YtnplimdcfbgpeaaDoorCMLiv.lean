import Derived.Test.YtnplimdcfbgpeaaDoorCMSeg
import Derived.Test.YtnplimdcfbgpeaaDoorCLBase
import Derived.Laws.AppendOwn
namespace Go.Proofs.YtnplimdcfbgpeaaDoor
open Go.RowKit Go.WideShapes Go.Sort Go.Lib
set_option maxRecDepth 100000

theorem parse_any (ao : Option Addr) (cap : Nat) (zs : List Int) (w : World) (hcp : zs.length ≤ cap) (hwf : ∀ z ∈ zs, 0 ≤ z ∧ z ≤ 255) (hr : Reads w ao zs w.heap.size) (hg : Sg w) :
    Calls Tryd.prog 11 #[.slice ao zs.length cap] w fun e w' => ParPost zs e ∧ Below w.heap.size w w' := by
  by_cases h1 : zs.length < 64
  · refine (parse_bad ao zs.length cap w zs.length 80 (by decide) (fun W _ => (header_lo ao zs.length cap W h1).mono fun e w' ⟨he, hw⟩ => ⟨he, by rw [hw]; exact Below.refl _ _⟩)).mono ?_
    rintro e w' ⟨rfl, hb⟩
    exact ⟨⟨_, _, _, _, _, _, _, _, rfl, i6_all rfl rfl rfl rfl rfl rfl, fun h => absurd h (by decide)⟩, hb⟩
  · by_cases h2 : 1048576 < zs.length
    · refine (parse_bad ao zs.length cap w 1048576 80 (by decide) (fun W _ => (header_hi ao zs.length cap W h2).mono fun e w' ⟨he, hw⟩ => ⟨he, by rw [hw]; exact Below.refl _ _⟩)).mono ?_
      rintro e w' ⟨rfl, hb⟩
      exact ⟨⟨_, _, _, _, _, _, _, _, rfl, i6_all rfl rfl rfl rfl rfl rfl, fun h => absurd h (by decide)⟩, hb⟩
    · obtain ⟨b, off, rfl, _⟩ := hr (by omega)
      exact parse_mid b off cap zs w (by omega) (by omega) hcp hwf hr hg
theorem parse_nil (w : World) :
    Calls Tryd.prog 11 #[.slice none 0 0] w fun e w' => e = .returned (.tuple #[.agg #[.slice none 0 0, .slice none 0 0, .slice none 0 0, .int .u32 0, .int .u32 0, .slice none 0 0], .int .i64 0, .int .i64 80]) ∧ Below w.heap.size w w' :=
  parse_bad none 0 0 w 0 80 (by decide) (fun W _ => (header_lo none 0 0 W (by decide)).mono fun e w' ⟨he, hw⟩ => ⟨he, by rw [hw]; exact Below.refl _ _⟩)
set_option maxHeartbeats 1000000 in
theorem stack64 (w : World) :
    Calls Tryd.prog 19 #[.int .u32 64] w fun e w' => e = .returned (.bool true) ∧ w' = w := by
  go_enter Tryd.func19, Tryd.ntmps19
  go_wp2
  go_ret
  exact ⟨rfl, rfl⟩
set_option maxHeartbeats 1000000 in
theorem small_any (w : World) :
    Calls Tryd.prog 17 #[] w fun e w' => e = .returned (.agg #[.slice (some ⟨w.heap.size + 1, 0, none⟩) 1 1, .slice none 0 0, .slice (some ⟨w.heap.size + 1 + 1, 0, none⟩) 1 1, .int .u32 0, .int .u32 64, .slice none 0 0]) ∧ w'.heap[w.heap.size + 1]? = some (.cells #[.int .u8 3, .int .u32 4] 54) ∧ Below w.heap.size w w' := by
  go_enter Tryd.func17, Tryd.ntmps17
  go_wp2_with fail
  obtain ⟨fs, hu⟩ := undI6
  have hR : (((w.alloc (.cells #[.slice (some ⟨w.heap.size + 1, 0, none⟩) 1 1, .slice none 0 0, .slice (some ⟨w.heap.size + 1 + 1, 0, none⟩) 1 1, .int .u32 0, .int .u32 64, .slice none 0 0] 28)).alloc (.cells #[.int .u8 3, .int .u32 4] 54)).alloc (.cells #[.int .u8 7] 5)).heap[w.heap.size]? = some (.cells #[.slice (some ⟨w.heap.size + 1, 0, none⟩) 1 1, .slice none 0 0, .slice (some ⟨w.heap.size + 1 + 1, 0, none⟩) 1 1, .int .u32 0, .int .u32 64, .slice none 0 0] 28) := by
    rw [Below.heap_alloc _ _ _ (by simp; omega), Below.heap_alloc _ _ _ (by simp)]
    exact heap_alloc_last w _
  refine bodyPost_ret (results_cell_row (p := 0) (ty := 28) (by kernel_rfl) _ _ w.heap.size 28 _ (0, 0) _ rfl hR hu rfl (by rw [infoI6]; rfl)) rfl ⟨rfl, ?_, belS (belS (belS (Below.refl _ _)))⟩
  rw [Below.heap_alloc _ _ _ (by simp)]
  have := heap_alloc_last (w.alloc (.cells #[.slice (some ⟨w.heap.size + 1, 0, none⟩) 1 1, .slice none 0 0, .slice (some ⟨w.heap.size + 1 + 1, 0, none⟩) 1 1, .int .u32 0, .int .u32 64, .slice none 0 0] 28)) (.cells #[.int .u8 3, .int .u32 4] 54)
  simpa using this
set_option maxHeartbeats 2000000 in
theorem check_small (B C : Nat) (w : World) (hB : w.heap[B]? = some (.cells #[.int .u8 3, .int .u32 4] 54)) :
    Calls Tryd.prog 7 #[.agg #[.slice (some ⟨B, 0, none⟩) 1 1, .slice none 0 0, .slice (some ⟨C, 0, none⟩) 1 1, .int .u32 0, .int .u32 64, .slice none 0 0]] w fun e w' => e = .returned (.int .i64 0) ∧ Below w.heap.size w w' := by
  have hlt : B < w.heap.size := (Array.getElem?_eq_some_iff.1 hB).1
  have hK : ∀ W, Calls Tryd.prog 18 #[.agg #[.int .u8 3, .int .u32 4]] W fun e w' => e = .returned (.int .i64 0) ∧ Below W.heap.size W w' := fun W => check_any 3 4 W (by decide)
  have hS := fun W => stack64 W
  have hRm : ∀ W, Calls Tryd.prog 20 #[.agg #[.slice (some ⟨B, 0, none⟩) 1 1, .slice none 0 0, .slice (some ⟨C, 0, none⟩) 1 1, .int .u32 0, .int .u32 64, .slice none 0 0]] W fun e w' => e = .returned (.int .u64 65) ∧ Below W.heap.size W w' := fun W => room_any (.slice (some ⟨B, 0, none⟩) 1 1) (.slice none 0 0) (.slice none 0 0) (some ⟨C, 0, none⟩) 1 1 0 64 W rfl rfl rfl (by decide) (by decide) (by decide)
  have HK := hidS hK
  have HS := hidS hS
  have HRm := hidS hRm
  have bA : Below w.heap.size w (w.alloc (.cells #[.slice (some ⟨B, 0, none⟩) 1 1, .slice none 0 0, .slice (some ⟨C, 0, none⟩) 1 1, .int .u32 0, .int .u32 64, .slice none 0 0] 28)) := belS (Below.refl _ _)
  have hA := heap_alloc_last w (.cells #[.slice (some ⟨B, 0, none⟩) 1 1, .slice none 0 0, .slice (some ⟨C, 0, none⟩) 1 1, .int .u32 0, .int .u32 64, .slice none 0 0] 28)
  have hB1 := (bA.block B hlt).trans hB
  have hsA : (w.alloc (.cells #[.slice (some ⟨B, 0, none⟩) 1 1, .slice none 0 0, .slice (some ⟨C, 0, none⟩) 1 1, .int .u32 0, .int .u32 64, .slice none 0 0] 28)).heap.size = w.heap.size + 1 := by simp
  clear hK hS hRm hB
  go_enter Tryd.func7, Tryd.ntmps7
  go_wp2_with fail
  generalize w.alloc (.cells #[.slice (some ⟨B, 0, none⟩) 1 1, .slice none 0 0, .slice (some ⟨C, 0, none⟩) 1 1, .int .u32 0, .int .u32 64, .slice none 0 0] 28) = W0 at *
  go_loopw [15] (fun i wr => ∃ k : Nat, k ≤ 1 ∧ i = .int .i64 k ∧ Below W0.heap.size W0 wr) (fun i _ => 1 - (intOf i).toNat)
  case atStart => exact ⟨0, by omega, rfl, Below.refl _ _⟩
  case round =>
    obtain ⟨k, hk, rfl, hb⟩ := hrel
    have hBr := (hb.block B (by omega)).trans hB1
    have hAr := (hb.block w.heap.size (by omega)).trans hA
    have d0 := blk_cell hBr (i := 0) rfl
    have d1 := blk_cell hBr (i := 1) rfl
    by_cases hlt1 : k < 1
    · obtain rfl : k = 0 := by omega
      go_wp2_with fail
      with_reducible refine (HK.out _).mono ?_
      rintro e wq ⟨rfl, hq⟩
      have hbq := btS (belS (o := .cells #[.int .u8 3, .int .u32 4] 54) hb) hq
      go_wp2_with fail
      go_roundw
      case rel => exact ⟨1, by omega, by go_num, hbq⟩
      case measure => simp [intOf]
    · obtain rfl : k = 1 := by omega
      have i0 := blk_cell hAr (i := 0) rfl
      have i1 := blk_cell hAr (i := 1) rfl
      have i2 := blk_cell hAr (i := 2) rfl
      have i3 := blk_cell hAr (i := 3) rfl
      have i4 := blk_cell hAr (i := 4) rfl
      have i5 := blk_cell hAr (i := 5) rfl
      go_wp2_with fail
      with_reducible refine (HS.out _).mono ?_
      rintro e wq ⟨rfl, hq⟩
      subst wq
      go_wp2_with fail
      with_reducible refine (HRm.out _).mono ?_
      rintro e W2 ⟨rfl, b2⟩
      have hA2 := (b2.block w.heap.size (by have := hb.size; omega)).trans hAr
      clear i0 i1 i2 i3 i4 i5
      have i5 := blk_cell hA2 (i := 5) rfl
      have BF := btS (btS bA hb) b2
      go_wp2_with fail
      go_loop [41] (fun i => i = .int .i64 0) (fun _ => 0)
      case atStart => rfl
      case round =>
        obtain rfl := hrel
        go_wp2_with fail
        go_ret
        exact ⟨rfl, BF⟩
set_option maxHeartbeats 2000000 in
theorem bits_small (B C : Nat) (w : World) (hB : w.heap[B]? = some (.cells #[.int .u8 3, .int .u32 4] 54)) :
    Calls Tryd.prog 10 #[.agg #[.slice (some ⟨B, 0, none⟩) 1 1, .slice none 0 0, .slice (some ⟨C, 0, none⟩) 1 1, .int .u32 0, .int .u32 64, .slice none 0 0]] w fun e w' => e = .returned (.tuple #[.int .i64 8, .int .i64 0]) ∧ Below w.heap.size w w' := by
  have hlt : B < w.heap.size := (Array.getElem?_eq_some_iff.1 hB).1
  have hRm : ∀ W, Calls Tryd.prog 20 #[.agg #[.slice (some ⟨B, 0, none⟩) 1 1, .slice none 0 0, .slice (some ⟨C, 0, none⟩) 1 1, .int .u32 0, .int .u32 64, .slice none 0 0]] W fun e w' => e = .returned (.int .u64 65) ∧ Below W.heap.size W w' := fun W => room_any (.slice (some ⟨B, 0, none⟩) 1 1) (.slice none 0 0) (.slice none 0 0) (some ⟨C, 0, none⟩) 1 1 0 64 W rfl rfl rfl (by decide) (by decide) (by decide)
  have HRm := hidS hRm
  have bA : Below w.heap.size w (w.alloc (.cells #[.slice (some ⟨B, 0, none⟩) 1 1, .slice none 0 0, .slice (some ⟨C, 0, none⟩) 1 1, .int .u32 0, .int .u32 64, .slice none 0 0] 28)) := belS (Below.refl _ _)
  have hA := heap_alloc_last w (.cells #[.slice (some ⟨B, 0, none⟩) 1 1, .slice none 0 0, .slice (some ⟨C, 0, none⟩) 1 1, .int .u32 0, .int .u32 64, .slice none 0 0] 28)
  have hC := check_small B C (w.alloc (.cells #[.slice (some ⟨B, 0, none⟩) 1 1, .slice none 0 0, .slice (some ⟨C, 0, none⟩) 1 1, .int .u32 0, .int .u32 64, .slice none 0 0] 28)) ((bA.block B hlt).trans hB)
  have hsA : (w.alloc (.cells #[.slice (some ⟨B, 0, none⟩) 1 1, .slice none 0 0, .slice (some ⟨C, 0, none⟩) 1 1, .int .u32 0, .int .u32 64, .slice none 0 0] 28)).heap.size = w.heap.size + 1 := by simp
  clear hRm hB
  go_enter Tryd.func10, Tryd.ntmps10
  go_wp2_with fail
  with_reducible refine hC.mono ?_
  rintro e W1 ⟨rfl, b1⟩
  have hA1 := (b1.block w.heap.size (by omega)).trans hA
  have i0 := blk_cell hA1 (i := 0) rfl
  have i1 := blk_cell hA1 (i := 1) rfl
  have i2 := blk_cell hA1 (i := 2) rfl
  have i3 := blk_cell hA1 (i := 3) rfl
  have i4 := blk_cell hA1 (i := 4) rfl
  have i5 := blk_cell hA1 (i := 5) rfl
  have B1 := btS bA b1
  clear hC hA
  go_wp2_with fail
  go_loopw [5] (fun i wr => i = .int .i64 8 ∧ wr = W1) (fun _ _ => 0)
  case atStart => exact ⟨rfl, rfl⟩
  case round =>
    obtain ⟨rfl, hwr⟩ := hrel
    subst wr
    go_wp2_with fail
    go_region_with (first | (go_at_call 20; with_reducible refine (HRm.out _).mono ?_; rintro e wq ⟨rfl, hq⟩))
    go_wp2_with fail
    refine bodyPost_ret (results_tmp2 rfl _ _ _) rfl ?_
    exact ⟨rfl, by first | exact btS B1 hq | exact Below.drew (btS B1 hq) | exact btS B1 (btS (Below.drew (Below.refl _ _)) hq)⟩
set_option maxHeartbeats 2000000 in
theorem lives_any (w : World) :
    Calls Tryd.prog 6 #[] w fun e w' => e = .returned (.bool true) ∧ Below w.heap.size w w' := by
  have hS := small_any w
  go_enter Tryd.func6, Tryd.ntmps6
  go_wp2_with fail
  with_reducible refine hS.mono ?_
  rintro e w1 ⟨rfl, hB, b1⟩
  have hBt := bits_small (w.heap.size + 1) (w.heap.size + 1 + 1) w1 hB
  clear hS hB
  go_wp2_with fail
  with_reducible refine hBt.mono ?_
  rintro e w2 ⟨rfl, b2⟩
  have hP := parse_nil w2
  clear hBt
  go_wp2_with fail
  with_reducible refine hP.mono ?_
  rintro e w3 ⟨rfl, b3⟩
  have B3 := btS (btS b1 b2) b3
  clear hP
  go_wp2_with fail
  go_ret
  exact ⟨rfl, by (repeat (first | exact B3 | with_reducible refine belS ?_ | with_reducible refine Below.drew ?_))⟩
end Go.Proofs.YtnplimdcfbgpeaaDoor
namespace Go.Proofs.YtnplimdcfbgpeaaDoor
open Go.RowKit
set_option maxRecDepth 100000

def tot (L : List Int) : Int := L.foldr (fun a s => a + s) 0
def hh : List Int → Int
  | [] => 0
  | a :: L => ((L.length : Int) + 1) * a + hh L
theorem tot_cons (a : Int) (L : List Int) : tot (a :: L) = a + tot L := rfl
theorem modp {X Y : Int} (t : Int) (h : X = Y + 65521 * t) : X % 65521 = Y % 65521 := by subst h; omega

theorem alg1 (p1 p2 a q q2 H n : Int) : p2 + (p1 + a - 65521 * q) - 65521 * q2 + n * (p1 + a - 65521 * q) + H = p2 + (n + 1) * p1 + ((n + 1) * a + H) + 65521 * -(q + q2 + n * q) := by grind
theorem alg2 (hx lx n H q q2 : Int) : hx + (n + H - 65521 * q) + (n - 65521 * q2) * (lx + 65520) = hx + n * lx + H + 65521 * (-q + n - q2 * (lx + 65520)) := by grind

theorem fold_low (L : List Int) : ∀ p : Int × Int, 0 ≤ p.1 ∧ p.1 ≤ 65520 → (L.foldl stp p).1 = (p.1 + tot L) % 65521 := by
  induction L with
  | nil => intro p h; simp only [List.foldl_nil, tot, List.foldr_nil]; omega
  | cons a L ih =>
    intro p h
    rw [List.foldl_cons, ih _ (stp_range p a).1, tot_cons]
    simp only [stp]
    omega
theorem fold_high (L : List Int) : ∀ p : Int × Int, 0 ≤ p.2 ∧ p.2 ≤ 65520 → (L.foldl stp p).2 = (p.2 + (L.length : Int) * p.1 + hh L) % 65521 := by
  induction L with
  | nil => intro p h; simp only [List.foldl_nil, hh, List.length_nil]; omega
  | cons a L ih =>
    intro p h
    rw [List.foldl_cons, ih _ (stp_range p a).2]
    simp only [stp, hh, List.length_cons]
    obtain ⟨q, hq⟩ : ∃ q, (p.1 + a) % 65521 = p.1 + a - 65521 * q := ⟨(p.1 + a) / 65521, by omega⟩
    obtain ⟨q2, hq2⟩ : ∃ q2, (p.2 + (p.1 + a) % 65521) % 65521 = p.2 + (p.1 + a) % 65521 - 65521 * q2 := ⟨(p.2 + (p.1 + a) % 65521) / 65521, by omega⟩
    rw [hq2, hq]
    exact modp (-(q + q2 + (L.length : Int) * q)) (alg1 _ _ _ _ _ _ _)
theorem st_low (L : List Int) : (st L).1 = (1 + tot L) % 65521 := fold_low L (1, 0) (by decide)
theorem st_high (L : List Int) : (st L).2 = ((L.length : Int) + hh L) % 65521 := by
  have := fold_high L (1, 0) (by decide)
  simp only at this
  rw [st, this]; congr 1; omega

/-- the sum that is joined of two -/
def jn (a b n : Int) : Int :=
  (a / 65536 + b / 65536 + (max n 0) % 65521 * (a % 65536 + 65520)) % 65521 * 65536 + (a % 65536 + b % 65536 + 65520) % 65521

theorem adl_parts (L : List Int) : adl L % 65536 = (st L).1 ∧ adl L / 65536 = (st L).2 := by
  have := st_range L; unfold adl; omega

theorem jn_adl (x y : List Int) : jn (adl x) (adl y) (y.length : Int) = adl (x ++ y) := by
  obtain ⟨x1, x2⟩ := adl_parts x
  obtain ⟨y1, y2⟩ := adl_parts y
  have rx := st_range x
  have e : st (x ++ y) = y.foldl stp (st x) := by simp [st]
  have l1 := fold_low y (st x) rx.1
  have h1 := fold_high y (st x) rx.2
  have l2 := st_low y
  have h2 := st_high y
  simp only [jn, x1, x2, y1, y2, show max (y.length : Int) 0 = y.length by omega]
  rw [show adl (x ++ y) = (st (x ++ y)).2 * 65536 + (st (x ++ y)).1 from rfl, e, l1, h1, l2, h2]
  generalize (y.length : Int) = n
  generalize (st x).1 = lx
  generalize (st x).2 = hx
  generalize tot y = t
  generalize hh y = H
  have hl : (lx + (1 + t) % 65521 + 65520) % 65521 = (lx + t) % 65521 := by omega
  have hhg : (hx + (n + H) % 65521 + n % 65521 * (lx + 65520)) % 65521 = (hx + n * lx + H) % 65521 := by
    obtain ⟨q, hq⟩ : ∃ q, (n + H) % 65521 = n + H - 65521 * q := ⟨(n + H) / 65521, by omega⟩
    obtain ⟨q2, hq2⟩ : ∃ q2, n % 65521 = n - 65521 * q2 := ⟨n / 65521, by omega⟩
    rw [hq, hq2]
    exact modp (-q + n - q2 * (lx + 65520)) (alg2 _ _ _ _ _ _)
  rw [hl, hhg]

theorem jn_range (a b n : Int) : 0 ≤ jn a b n ∧ jn a b n ≤ 4294967295 := by
  unfold jn
  have h1 := Int.emod_nonneg (a / 65536 + b / 65536 + (max n 0) % 65521 * (a % 65536 + 65520)) (show (65521 : Int) ≠ 0 by decide)
  have h2 := Int.emod_lt_of_pos (a / 65536 + b / 65536 + (max n 0) % 65521 * (a % 65536 + 65520)) (show (0 : Int) < 65521 by decide)
  omega

theorem tot_set (L : List Int) : ∀ (k : Nat), k < L.length → ∀ x, tot (L.set k x) = tot L + x - L.getD k 0 := by
  induction L with
  | nil => intro k h; simp at h
  | cons a L ih =>
    intro k h x
    cases k with
    | zero => simp only [List.set_cons_zero, tot_cons, List.getD_cons_zero]; omega
    | succ k =>
      have := ih k (by simpa using h) x
      simp only [List.set_cons_succ, tot_cons, List.getD_cons_succ, this]; omega

theorem turned_ne (L : List Int) (k : Nat) (h : k < L.length) (x : Int) (hx : 0 ≤ x ∧ x ≤ 255) (ho : 0 ≤ L.getD k 0 ∧ L.getD k 0 ≤ 255) (hne : x ≠ L.getD k 0) : adl L ≠ adl (L.set k x) := by
  intro he
  have h1 := (adl_parts L).1
  have h2 := (adl_parts (L.set k x)).1
  rw [← he, h1, st_low, st_low, tot_set L k h x] at h2
  omega
end Go.Proofs.YtnplimdcfbgpeaaDoor
namespace Go.Proofs.YtnplimdcfbgpeaaDoor
open Go.RowKit Go.WideShapes Go.Sort Go.Lib
set_option maxRecDepth 100000

def pk (x n : Int) : Int := if x.tmod n < 0 then x.tmod n + n else x.tmod n
theorem tmod_bound (x n : Int) (hn : 1 ≤ n) : -n < x.tmod n ∧ x.tmod n < n := by
  have h1 := Int.tmod_lt_of_pos x (show 0 < n by omega)
  have h2 := Int.lt_tmod_of_pos x (show 0 < n by omega)
  omega
theorem pk_range (x n : Int) (hn : 1 ≤ n) : 0 ≤ pk x n ∧ pk x n < n := by
  have := tmod_bound x n hn
  unfold pk; split <;> omega

theorem xor_byte (x y : Int) (x0 : 0 ≤ x) (x1 : x ≤ 255) (y0 : 0 ≤ y) (y1 : y ≤ 255) : (0 ≤ bits .xor .u8 x y ∧ bits .xor .u8 x y ≤ 255) ∧ (y ≠ 0 → bits .xor .u8 x y ≠ x) := by
  obtain ⟨n, rfl⟩ := Int.eq_ofNat_of_zero_le x0
  obtain ⟨m, rfl⟩ := Int.eq_ofNat_of_zero_le y0
  have e := u8_xor_nat n m (by omega) (by omega)
  have hl : n ^^^ m < 2 ^ 8 := Nat.xor_lt_two_pow (by omega) (by omega)
  have hh : m ≠ 0 → n ^^^ m ≠ n := by
    intro hm he
    have h2 : n ^^^ (n ^^^ m) = n ^^^ n := by rw [he]
    rw [← Nat.xor_assoc, Nat.xor_self, Nat.zero_xor] at h2
    exact hm h2
  rw [e]
  refine ⟨by omega, fun hm => ?_⟩
  have := hh (by omega)
  omega

theorem wth_get (zs : List Int) (h : 12 ≤ zs.length) (i : Nat) : (wth 4 zs 8 0)[i]? = if i < 8 then zs[i]? else if i < 12 then some 0 else zs[i]? := by
  have e : nb 4 0 = [0, 0, 0, 0] := by decide
  have hl : (zs.take 8).length = 8 := by rw [List.length_take]; omega
  unfold wth
  rw [e, List.getElem?_append, hl]
  by_cases h1 : i < 8
  · rw [if_pos h1, if_pos h1, List.getElem?_take, if_pos h1]
  · rw [if_neg h1, if_neg h1, List.getElem?_append]
    by_cases h2 : i < 12
    · rw [if_pos h2, if_pos (by simp; omega)]
      have : i - 8 = 0 ∨ i - 8 = 1 ∨ i - 8 = 2 ∨ i - 8 = 3 := by omega
      rcases this with h | h | h | h <;> rw [h] <;> rfl
    · rw [if_neg h2, if_neg (by simp; omega), List.getElem?_drop]
      congr 1; simp; omega
theorem at8 (zs : List Int) (h : 12 ≤ zs.length) : atv 4 zs 8 = num ((zs.drop 8).take 4) := by
  unfold atv; rw [if_pos ⟨by decide, by simp; omega⟩]; rfl
theorem getD_of {L : List Int} {k : Nat} (h : k < L.length) : L[k]? = some (L.getD k 0) := by
  simp [List.getD, List.getElem?_eq_getElem h]
/-- bytes that have their sum have it no more with one byte turned -/
theorem turn_bad (zs : List Int) (k : Nat) (hk : k < zs.length) (h64 : 64 ≤ zs.length) (hwf : ∀ z ∈ zs, 0 ≤ z ∧ z ≤ 255) (x : Int) (hx : 0 ≤ x ∧ x ≤ 255) (hne : x ≠ zs.getD k 0) (he : atv 4 zs 8 = sumV zs) : ¬ atv 4 (zs.set k x) 8 = sumV (zs.set k x) := by
  intro h2
  have hlen : (zs.set k x).length = zs.length := List.length_set ..
  have hwf2 : ∀ z ∈ zs.set k x, 0 ≤ z ∧ z ≤ 255 := fun z hz => by
    rcases List.mem_or_eq_of_mem_set hz with h | h
    · exact hwf z h
    · rw [h]; exact hx
  by_cases hin : 8 ≤ k ∧ k < 12
  · have hw : wth 4 (zs.set k x) 8 0 = wth 4 zs 8 0 := by
      apply List.ext_getElem?
      intro i
      rw [wth_get _ (by omega), wth_get _ (by omega)]
      by_cases h1 : i < 8
      · rw [if_pos h1, if_pos h1, List.getElem?_set_ne (by omega)]
      · rw [if_neg h1, if_neg h1]
        by_cases h3 : i < 12
        · rw [if_pos h3, if_pos h3]
        · rw [if_neg h3, if_neg h3, List.getElem?_set_ne (by omega)]
    rw [sumV, hw, ← sumV, ← he, at8 _ (by omega), at8 _ (by omega)] at h2
    have l1 : (((zs.set k x).drop 8).take 4).length = 4 := by simp; omega
    have l2 : ((zs.drop 8).take 4).length = 4 := by simp; omega
    have n1 := nb_num _ (fun z hz => hwf2 z (List.mem_of_mem_drop (List.mem_of_mem_take hz)) : ∀ z ∈ ((zs.set k x).drop 8).take 4, 0 ≤ z ∧ z ≤ 255)
    have n2 := nb_num _ (fun z hz => hwf z (List.mem_of_mem_drop (List.mem_of_mem_take hz)) : ∀ z ∈ (zs.drop 8).take 4, 0 ≤ z ∧ z ≤ 255)
    rw [l1, h2] at n1
    rw [l2] at n2
    have hq := congrArg (fun L : List Int => L[k - 8]?) (n1.symm.trans n2)
    simp only [List.getElem?_take, if_pos (show k - 8 < 4 by omega), List.getElem?_drop, show 8 + (k - 8) = k by omega] at hq
    rw [List.getElem?_set_self hk, getD_of hk] at hq
    exact hne (Option.some.inj hq)
  · have ha : atv 4 (zs.set k x) 8 = atv 4 zs 8 := by
      rw [at8 _ (by omega), at8 _ (by omega)]
      congr 1
      apply List.ext_getElem?
      intro i
      rw [List.getElem?_take, List.getElem?_take]
      by_cases h1 : i < 4
      · rw [if_pos h1, if_pos h1, List.getElem?_drop, List.getElem?_drop, List.getElem?_set_ne (by omega)]
      · rw [if_neg h1, if_neg h1]
    have hwl : (wth 4 zs 8 0).length = zs.length := wth_len 4 zs 8 0 (by omega)
    have hg : (wth 4 zs 8 0).getD k 0 = zs.getD k 0 := by
      rw [List.getD_eq_getElem?_getD, List.getD_eq_getElem?_getD, wth_get _ (by omega)]
      by_cases h1 : k < 8
      · rw [if_pos h1]
      · rw [if_neg h1, if_neg (by omega)]
    have hw : wth 4 (zs.set k x) 8 0 = (wth 4 zs 8 0).set k x := by
      apply List.ext_getElem?
      intro i
      rw [wth_get _ (by omega)]
      by_cases hik : i = k
      · subst hik
        rw [List.getElem?_set_self (by omega), List.getElem?_set_self (by omega)]
        by_cases h1 : i < 8
        · rw [if_pos h1]
        · rw [if_neg h1, if_neg (by omega)]
      · rw [List.getElem?_set_ne (by omega), List.getElem?_set_ne (by omega), wth_get _ (by omega)]
    have hz : 0 ≤ zs.getD k 0 ∧ zs.getD k 0 ≤ 255 := hwf _ (getD_mem hk)
    refine turned_ne (wth 4 zs 8 0) k (by omega) x hx (by rw [hg]; exact hz) (by rw [hg]; exact hne) ?_
    rw [← hw]
    show sumV zs = sumV (zs.set k x)
    rw [← he, ← h2, ha]

theorem sumV_range (zs : List Int) : 0 ≤ sumV zs ∧ sumV zs < 4294967296 := by
  have := st_range (wth 4 zs 8 0)
  unfold sumV adl; omega
set_option maxHeartbeats 1000000 in
theorem seal_any (ao : Option Addr) (cap : Nat) (zs : List Int) (w : World) (hn : zs.length ≤ 1048576) (h64 : 64 ≤ zs.length) (hwf : ∀ z ∈ zs, 0 ≤ z ∧ z ≤ 255) (hr : Reads w ao zs w.heap.size) :
    Calls Tryd.prog 16 #[.slice ao zs.length cap] w fun e w' => (∃ ao2 cap2, e = .returned (.tuple #[.slice ao2 zs.length cap2, .int .i64 0])) ∧ Below w.heap.size w w' := by
  have hL := lenF_ok ao zs.length cap w h64 hn
  have hS := sumOf_any ao cap zs w (by omega) h64 hwf hr
  have hl : (wth 4 zs (Int.toNat 8) (sumV zs)).length = zs.length := wth_len 4 zs 8 _ (by omega)
  have hW := hidS fun (W : World) (hb : Below w.heap.size w W) => with_u32 ao cap zs 8 (sumV zs) W (by omega) ((hr.below hb).mono hb.size) (by decide) (by decide) (sumV_range zs).1 (sumV_range zs).2 ⟨by decide, by omega⟩
  have HN := hidS hn
  have H6 := hidS h64
  have HL := hidS hl
  clear hr hwf hn h64 hl
  go_enter Tryd.func16, Tryd.ntmps16
  go_wp2_with fail
  with_reducible refine hL.mono ?_
  rintro e wq ⟨rfl, hq⟩
  subst wq
  go_wp2_with fail
  with_reducible refine hS.mono ?_
  rintro e w1 ⟨rfl, b1⟩
  have h2 := hW.out w1 b1
  clear hW hS hL
  generalize sumV zs = sv at *
  go_wp2_with fail
  with_reducible refine h2.mono ?_
  rintro e w2 ⟨v, rfl, own1, b2⟩
  obtain ⟨ao1, cap1, he, hr1⟩ := own_reads (own_lenM own1 HL.out.symm)
  subst he
  rw [HL.out]
  clear h2 hr1 own1
  have b3 := b1.trans (b2.mono b1.size)
  go_wp2_with fail
  refine bodyPost_ret (results_tmp2 rfl _ _ _) rfl ?_
  exact ⟨⟨_, _, rfl⟩, b3⟩
end Go.Proofs.YtnplimdcfbgpeaaDoor
