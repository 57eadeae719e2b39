import Derived.Test.YtgbpfejodpplbaaGreatDoorCLNum
import Derived.Laws.AppendOwn
import Derived.Laws.MakeOwn
import Derived.Lib.Tables
import Derived.Laws.CopyOwn
import Derived.Test.YtgbpfejodpplbaaGreatDoorCIOps
import Derived.Deep.AppendLies
namespace Go.Proofs.YtgbpfejodpplbaaGreatDoor
open Go.RowKit
set_option maxRecDepth 100000


set_option maxRecDepth 100000 in
theorem len64_u32 (W : World) : Calls Tryz.prog 108 #[.int .u64 4294967295] W fun e w' => e = .returned (.int .i64 32) ∧ w' = W := by
  have h := len_255
  go_enter Tryz.func108, Tryz.ntmps108
  go_wp2
  go_ret
  exact ⟨by first | rfl | simp [h], rfl⟩
theorem width_u32 (W : World) : Calls Tryz.prog 94 #[] W fun e w' => e = .returned (.int .i64 4) ∧ w' = W := by
  go_enter Tryz.func94, Tryz.ntmps94
  go_wp2_with (go_at_call 108; refine (len64_u32 _).mono ?_; rintro e wq ⟨rfl, hq⟩; subst wq)
  go_ret
  exact ⟨rfl, rfl⟩

set_option maxRecDepth 100000 in
theorem or_u32 (x c : Int) (s : Nat) (hs : s < 32) (x0 : 0 ≤ x) (x1 : x < 2 ^ s) (c0 : 0 ≤ c) (c1 : c ≤ 255) (hc : c * 2 ^ s < 4294967296) : bits .or .u32 x (c * 2 ^ s) = x + c * 2 ^ s := by
  obtain ⟨n, rfl⟩ := Int.eq_ofNat_of_zero_le x0
  obtain ⟨m, rfl⟩ := Int.eq_ofNat_of_zero_le c0
  have h1 : n < 2 ^ s := by exact_mod_cast x1
  have e1 : ((m * 2 ^ s : Nat) : Int) = (m : Int) * 2 ^ s := by push_cast; rfl
  have h2 : m * 2 ^ s < 4294967296 := by rw [← e1] at hc; omega
  have h3 : (2 : Nat) ^ s < 4294967296 := Nat.lt_of_lt_of_le (Nat.pow_lt_pow_right (by omega) hs) (by decide)
  have := u32_or_nat n (m * 2 ^ s) (by omega) h2
  rw [shl_or m n s h1] at this
  rw [← e1, this]
  push_cast
  rfl
set_option maxRecDepth 100000 in
set_option maxHeartbeats 1000000 in
theorem put_u32 (ao : Option Addr) (cap : Nat) (xs : List Int) (w : World) (hn : xs.length * 4 ≤ 140737488355328) (hwf : ∀ z ∈ xs, 0 ≤ z ∧ z < 4294967296) (hr : ReadsK w .u32 ao xs w.heap.size) :
    Calls Tryz.prog 65 #[.slice ao xs.length cap] w fun e w' => ∃ v, e = .returned v ∧ w'.ownsRow w.heap.size 5 1 v (xs.length * 4) (bv (puts 4 xs xs.length)) ∧ Below w.heap.size w w' := by
  obtain ⟨i0, hi, hz0, hz1, hz2⟩ := info_parts Tryz.info5
  obtain ⟨w1, hmk, hown0, hg0⟩ := run_make_own (P := Tryz.prog) w w.heap.size 24 5 i0 (.int .u8 0) 1 Tryz.underlying24 hi hz0 hz1 .i64 .i64 (xs.length * 4) (by rw [hz2]; omega) (by unfold maxLen; omega) (Nat.le_refl _)
  rw [show ((xs.length * 4 : Nat) : Int) = (xs.length : Int) * 4 by push_cast; rfl] at hmk
  have hb0 : Below w.heap.size w w1 := (Below.refl w.heap.size w).grown hg0 (Nat.le_refl _) (fun k e => by simp at e)
  clear hg0
  go_enter Tryz.func65, Tryz.ntmps65
  go_wp2_with (go_at_call 94; refine (width_u32 _).mono ?_; rintro e wq ⟨rfl, hq⟩; subst wq)
  go_loopw [3, 14] (fun v i wr => ∃ k : Nat, k ≤ xs.length ∧ i = .int .i64 k ∧ wr.ownsRow w.heap.size 5 1 v (k * 4) (bv (puts 4 xs k)) ∧ Below w.heap.size w wr)
    (fun _ i _ => xs.length - (intOf i).toNat)
  case atStart => exact ⟨0, Nat.zero_le _, rfl, by simpa [puts, bv] using hown0, hb0⟩
  case round =>
    clear hown0 hb0 hmk
    obtain ⟨k, hk, rfl, hown, hb⟩ := hrel
    by_cases hlt : k < xs.length
    · obtain ⟨b, off, rfl, hbl, hc⟩ := (hr.below hb) (by omega)
      have hck := hc k hlt
      clear hc
      have hts := take_snoc xs k hlt
      have hxw := hwf _ (getD_mem hlt)
      generalize xs.getD k 0 = x at hck hts hxw
      have HS : Hid (puts 4 xs (k + 1) = puts 4 xs k ++ nb 4 x) := by simp [puts, hts, Hid]
      clear hts hwf
      obtain ⟨hx0, hx1⟩ := hxw
      have hpl := puts_len 4 xs k hk
      generalize puts 4 xs k = PP at hown HS hpl
      go_wp2_with (go_at_call 94; refine (width_u32 _).mono ?_; rintro e wq ⟨rfl, hq⟩; subst wq)
      go_loopw [3, 19] (fun v i wr => ∃ j : Nat, j ≤ 4 ∧ i = .int .i64 j ∧ wr.ownsRow w.heap.size 5 1 v (k * 4 + j) (bv (PP ++ nb j x)) ∧ Below w.heap.size w wr)
        (fun _ i _ => 4 - (intOf i).toNat)
      case atStart => exact ⟨0, by omega, rfl, by simpa [nb] using hown, hb⟩
      case round =>
        clear hown hb hck hr
        obtain ⟨j, hj, rfl, hown, hb⟩ := hrel
        have hB := hb.size
        by_cases hlt2 : j < 4
        · have hjj : j = 0 ∨ j = 1 ∨ j = 2 ∨ j = 3 := by omega
          rcases hjj with rfl | hjj
          · go_wp2_with (at_builtin; refine wpList_append_own _ rfl _ _ 24 rfl w.heap.size 5 i0 (.int .u8 0) 1 1 Tryz.underlying24 hi hz0 hz1 hz2 rfl (by decide) _ _ _ rfl (hown.alloc _) ⟨_, 0, none⟩ 1 1 [.int .u8 (x / 1 % 256)] rfl rfl ?d1 ?d2 ?d3 ?d4 ?d5 ?_)
            case d1 =>
              intro j u hj
              match j, hj with
              | 0, hj => simp at hj; subst hj; simp [Addr.add] <;> omega
            case d2 => intro u hu; simp at hu; subst hu; rfl
            case d3 => unfold maxLen; omega
            case d4 => omega
            case d5 => simp; omega
            intro v' w2 hown' hgrow _
            have R1 := own_snoc (M := PP ++ nb (0 + 1) x) (by rw [nb_snoc, List.append_assoc]; rw [show x / 256 ^ 0 = x from by simp]) hown'
            have R2 := grown_below hb hB hown hgrow
            clear hown' hgrow hown
            go_wp2
            go_roundw
            case rel => exact ⟨0 + 1, by omega, by go_num, R1, R2⟩
            case measure => simp [intOf]
          rcases hjj with rfl | hjj
          · go_wp2_with (at_builtin; refine wpList_append_own _ rfl _ _ 24 rfl w.heap.size 5 i0 (.int .u8 0) 1 1 Tryz.underlying24 hi hz0 hz1 hz2 rfl (by decide) _ _ _ rfl (hown.alloc _) ⟨_, 0, none⟩ 1 1 [.int .u8 (x / 256 % 256)] rfl rfl ?d1 ?d2 ?d3 ?d4 ?d5 ?_)
            case d1 =>
              intro j u hj
              match j, hj with
              | 0, hj => simp at hj; subst hj; simp [Addr.add] <;> omega
            case d2 => intro u hu; simp at hu; subst hu; rfl
            case d3 => unfold maxLen; omega
            case d4 => omega
            case d5 => simp; omega
            intro v' w2 hown' hgrow _
            have R1 := own_snoc (M := PP ++ nb (1 + 1) x) (by rw [nb_snoc, List.append_assoc]; rfl) hown'
            have R2 := grown_below hb hB hown hgrow
            clear hown' hgrow hown
            go_wp2
            go_roundw
            case rel => exact ⟨1 + 1, by omega, by go_num, R1, R2⟩
            case measure => simp [intOf]
          rcases hjj with rfl | hjj
          · go_wp2_with (at_builtin; refine wpList_append_own _ rfl _ _ 24 rfl w.heap.size 5 i0 (.int .u8 0) 1 1 Tryz.underlying24 hi hz0 hz1 hz2 rfl (by decide) _ _ _ rfl (hown.alloc _) ⟨_, 0, none⟩ 1 1 [.int .u8 (x / 65536 % 256)] rfl rfl ?d1 ?d2 ?d3 ?d4 ?d5 ?_)
            case d1 =>
              intro j u hj
              match j, hj with
              | 0, hj => simp at hj; subst hj; simp [Addr.add] <;> omega
            case d2 => intro u hu; simp at hu; subst hu; rfl
            case d3 => unfold maxLen; omega
            case d4 => omega
            case d5 => simp; omega
            intro v' w2 hown' hgrow _
            have R1 := own_snoc (M := PP ++ nb (2 + 1) x) (by rw [nb_snoc, List.append_assoc]; rfl) hown'
            have R2 := grown_below hb hB hown hgrow
            clear hown' hgrow hown
            go_wp2
            go_roundw
            case rel => exact ⟨2 + 1, by omega, by go_num, R1, R2⟩
            case measure => simp [intOf]
          subst hjj
          · go_wp2_with (at_builtin; refine wpList_append_own _ rfl _ _ 24 rfl w.heap.size 5 i0 (.int .u8 0) 1 1 Tryz.underlying24 hi hz0 hz1 hz2 rfl (by decide) _ _ _ rfl (hown.alloc _) ⟨_, 0, none⟩ 1 1 [.int .u8 (x / 16777216 % 256)] rfl rfl ?d1 ?d2 ?d3 ?d4 ?d5 ?_)
            case d1 =>
              intro j u hj
              match j, hj with
              | 0, hj => simp at hj; subst hj; simp [Addr.add] <;> omega
            case d2 => intro u hu; simp at hu; subst hu; rfl
            case d3 => unfold maxLen; omega
            case d4 => omega
            case d5 => simp; omega
            intro v' w2 hown' hgrow _
            have R1 := own_snoc (M := PP ++ nb (3 + 1) x) (by rw [nb_snoc, List.append_assoc]; rfl) hown'
            have R2 := grown_below hb hB hown hgrow
            clear hown' hgrow hown
            go_wp2
            go_roundw
            case rel => exact ⟨3 + 1, by omega, by go_num, R1, R2⟩
            case measure => simp [intOf]
        · obtain rfl : j = 4 := by omega
          go_wp2
          go_roundw
          case rel => exact ⟨k + 1, by omega, by go_num, by rw [HS.out, show (k + 1) * 4 = k * 4 + 4 by omega]; exact hown, hb⟩
          case measure => simp [intOf]; omega
    · obtain rfl : k = xs.length := by omega
      go_wp2
      go_ret
      exact ⟨_, rfl, hown, hb⟩

end Go.Proofs.YtgbpfejodpplbaaGreatDoor
namespace Go.Proofs.YtgbpfejodpplbaaGreatDoor
open Go.RowKit
set_option maxRecDepth 100000

def szV (op arg : Nat) : Nat := if isOp op = false then 0 else if opMo op < arg then 0 else 1 + opWi op
def erV (op arg : Nat) : Nat := if isOp op = false then 70 else if opMo op < arg then 71 else 0
theorem opWi_le (k : Nat) : opWi k ≤ 4 := by
  by_cases h : 1 ≤ k ∧ k ≤ 59
  · have : ∀ j, j < 60 → opWi j ≤ 4 := by decide
    exact this k (by omega)
  · rw [(opT_zero k h).2.1]; omega
theorem opMo_lt (k : Nat) : opMo k < 4294967296 := by
  by_cases h : 1 ≤ k ∧ k ≤ 59
  · have : ∀ j, j < 60 → opMo j < 4294967296 := by decide
    exact this k (by omega)
  · rw [(opT_zero k h).2.2.1]; omega
theorem szV_le (op arg : Nat) : szV op arg ≤ 5 := by
  unfold szV; have := opWi_le op; split
  · omega
  · split <;> omega
/-- a block keeps its cells -/
theorem cellB {w W : World} {cs : Array Value} {t : Nat} (h : Below (w.alloc (.cells cs t)).heap.size (w.alloc (.cells cs t)) W) (i : Nat) : W.cell? ⟨w.heap.size, i, none⟩ = cs[i]? := by
  refine (h.cell (p := ⟨w.heap.size, i, none⟩) (by simp)).trans ?_
  exact World.cell?_alloc_new _ _ _ _
theorem neB {w W : World} {o : Obj} (h : Below (w.alloc o).heap.size (w.alloc o) W) : ¬ w.heap.size = W.heap.size := by
  have := h.size; simp at this; omega
theorem cellC {w W : World} {cs : Array Value} {t : Nat} (h : Below (w.alloc (.cells cs t)).heap.size (w.alloc (.cells cs t)) W) (i : Nat) (v : Value) (hv : cs[i]? = some v) (o : Obj) : (W.alloc o).cell? ⟨w.heap.size, i, none⟩ = some v := by
  rw [World.cell?_alloc_old _ _ _ (by simpa using neB h), cellB h i, hv]
set_option maxHeartbeats 1000000 in
theorem sized_any (op arg : Nat) (w : World) (h : op < 256) :
    Calls Tryz.prog 44 #[.agg #[.int .u8 op, .int .u32 arg]] w fun e w' => e = .returned (.tuple #[.int .i64 (szV op arg), .int .i64 (erV op arg)]) ∧ Below w.heap.size w w' := by
  have hI := fun w => info_any op w h
  have hWi := opWi_le op
  have hMo := opMo_lt op
  unfold szV erV
  cases hb : isOp op
  · rw [hb] at hI
    generalize opWd op = a0 at *
    generalize opWi op = a1 at *
    generalize opMo op = a2 at *
    generalize opTa op = a3 at *
    generalize opGi op = a4 at *
    generalize opKi op = a5 at *
    clear hb
    go_enter Tryz.func44, Tryz.ntmps44
    go_wp2_with (go_at_call 40; refine (hI _).mono ?_; rintro e wq ⟨rfl, hq⟩; have c1 := cellC hq 1 _ rfl)
    go_ret2
    exact ⟨rfl, bel (bt (bel (Below.refl _ _)) hq)⟩
  · rw [hb] at hI
    generalize opWd op = a0 at *
    generalize opWi op = a1 at *
    generalize opMo op = a2 at *
    generalize opTa op = a3 at *
    generalize opGi op = a4 at *
    generalize opKi op = a5 at *
    clear hb
    by_cases hm : a2 < arg
    · rw [if_neg (by simp), if_pos hm, if_neg (by simp), if_pos hm]
      have hm' : (a2 : Int) < arg := by omega
      go_enter Tryz.func44, Tryz.ntmps44
      go_wp2_with (go_at_call 40; refine (hI _).mono ?_; rintro e wq ⟨rfl, hq⟩; have c1 := cellC hq 1 _ rfl)
      go_ret2
      exact ⟨rfl, bel (bt (bel (Below.refl _ _)) hq)⟩
    · rw [if_neg (by simp), if_neg hm, if_neg (by simp), if_neg hm]
      have hm' : ¬ (a2 : Int) < arg := by omega
      have hwr : wrap64 (1 + (a1 : Int)) = 1 + a1 := by unfold wrap64; omega
      go_enter Tryz.func44, Tryz.ntmps44
      go_wp2_with (go_at_call 40; refine (hI _).mono ?_; rintro e wq ⟨rfl, hq⟩; have c1 := cellC hq 1 _ rfl)
      go_ret2
      exact ⟨by rfl, bel (bt (bel (Below.refl _ _)) hq)⟩
end Go.Proofs.YtgbpfejodpplbaaGreatDoor
namespace Go.Proofs.YtgbpfejodpplbaaGreatDoor
open Go.RowKit
set_option maxRecDepth 100000

set_option maxHeartbeats 1000000 in
theorem check_any (op arg : Nat) (w : World) (h : op < 256) :
    Calls Tryz.prog 36 #[.agg #[.int .u8 op, .int .u32 arg]] w fun e w' => e = .returned (.int .i64 (erV op arg)) ∧ Below w.heap.size w w' := by
  have hI := fun w => sized_any op arg w h
  go_enter Tryz.func36, Tryz.ntmps36
  go_wp2_with (go_at_call 44; refine (hI _).mono ?_; rintro e wq ⟨rfl, hq⟩)
  go_ret
  exact ⟨rfl, bt (bel (Below.refl _ _)) hq⟩
theorem sz_of_er (op arg : Nat) (h : ¬ erV op arg = 0) : szV op arg = 0 := by
  unfold erV at h; unfold szV
  split at h
  · rw [if_pos (by assumption)]
  · rw [if_neg (by assumption)]
    split at h
    · rw [if_pos (by assumption)]
    · exact absurd rfl h
theorem sz_ok (op arg : Nat) (h : erV op arg = 0) : szV op arg = 1 + opWi op := by
  unfold erV at h; unfold szV
  split at h
  · cases h
  · rw [if_neg (by assumption)]
    split at h
    · cases h
    · rw [if_neg (by assumption)]
end Go.Proofs.YtgbpfejodpplbaaGreatDoor
namespace Go.Proofs.YtgbpfejodpplbaaGreatDoor
open Go.RowKit
set_option maxRecDepth 100000

/-- code as values -/
def cv (L : List (Nat × Nat)) : List Value := L.flatMap fun p => [.int .u8 p.1, .int .u32 p.2]
theorem cv_append (L M : List (Nat × Nat)) : cv (L ++ M) = cv L ++ cv M := by simp [cv]
theorem cv_one (p : Nat × Nat) : cv [p] = [.int .u8 p.1, .int .u32 p.2] := rfl
theorem cv_len (L : List (Nat × Nat)) : (cv L).length = L.length * 2 := by
  induction L with
  | nil => rfl
  | cons p L ih =>
    rw [show cv (p :: L) = [.int .u8 p.1, .int .u32 p.2] ++ cv L from rfl, List.length_append, ih, List.length_cons]
    simp; omega
/-- what a slice of instructions that is read holds -/
def CRd (w : World) (ao : Option Addr) (L : List (Nat × Nat)) (B : Nat) : Prop :=
  0 < L.length → ∃ b off, ao = some ⟨b, off, none⟩ ∧ b < B ∧ ∀ j, j < L.length → w.cell? ⟨b, off + j * 2, none⟩ = some (.int .u8 (L.getD j (0, 0)).1) ∧ w.cell? ⟨b, off + j * 2 + 1, none⟩ = some (.int .u32 (L.getD j (0, 0)).2)
theorem CRd.below {w w' : World} {ao : Option Addr} {L : List (Nat × Nat)} {B : Nat} (h : CRd w ao L B) (hb : Below B w w') : CRd w' ao L B := by
  intro hl
  obtain ⟨b, off, e, hlt, hc⟩ := h hl
  exact ⟨b, off, e, hlt, fun j hj => ⟨(hb.cell (p := ⟨b, off + j * 2, none⟩) hlt).trans (hc j hj).1, (hb.cell (p := ⟨b, off + j * 2 + 1, none⟩) hlt).trans (hc j hj).2⟩⟩
theorem CRd.mono {w : World} {ao : Option Addr} {L : List (Nat × Nat)} {B C : Nat} (h : CRd w ao L B) (hb : B ≤ C) : CRd w ao L C := by
  intro hl
  obtain ⟨b, off, e, hlt, hc⟩ := h hl
  exact ⟨b, off, e, Nat.lt_of_lt_of_le hlt hb, hc⟩
/-- each number is one of its kind -/
def Wfc (L : List (Nat × Nat)) : Prop := ∀ p ∈ L, p.1 < 256 ∧ p.2 < 4294967296
theorem Wfc.at {L : List (Nat × Nat)} (h : Wfc L) {k : Nat} (hk : k < L.length) : (L.getD k (0, 0)).1 < 256 ∧ (L.getD k (0, 0)).2 < 4294967296 := by
  apply h
  rw [List.getD_eq_getElem?_getD, List.getElem?_eq_getElem hk]
  exact List.getElem_mem hk
theorem ptake {α : Type} (d : α) (zs : List α) (k : Nat) (h : k < zs.length) : zs.take (k + 1) = zs.take k ++ [zs.getD k d] := by
  rw [List.take_add_one, List.getD_eq_getElem?_getD, List.getElem?_eq_getElem h]; rfl

def okI (p : Nat × Nat) : Bool := erV p.1 p.2 == 0
def enc1 (p : Nat × Nat) : List Int := (p.1 : Int) :: nb (opWi p.1) p.2
def encF (L : List (Nat × Nat)) : List Int := L.flatMap enc1
theorem encF_append (L M : List (Nat × Nat)) : encF (L ++ M) = encF L ++ encF M := by simp [encF]
theorem encF_one (p : Nat × Nat) : encF [p] = (p.1 : Int) :: nb (opWi p.1) p.2 := by simp [encF, enc1]
theorem enc1_len (p : Nat × Nat) : (enc1 p).length = 1 + opWi p.1 := by simp [enc1, nb_len]; omega
theorem encF_le (L : List (Nat × Nat)) : (encF L).length ≤ 5 * L.length := by
  induction L with
  | nil => simp [encF]
  | cons p L ih =>
    have := opWi_le p.1
    rw [show encF (p :: L) = enc1 p ++ encF L from rfl, List.length_append, enc1_len, List.length_cons]; omega
/-- the number of instructions ahead of the first that may not be -/
def badAt : List (Nat × Nat) → Nat
  | [] => 0
  | p :: L => if okI p then badAt L + 1 else 0
def allOk (L : List (Nat × Nat)) : Bool := L.all okI
theorem badAt_of (L : List (Nat × Nat)) (k : Nat) (hk : k < L.length) (h : ∀ j, j < k → okI (L.getD j (0, 0)) = true) (hb : okI (L.getD k (0, 0)) = false) : badAt L = k ∧ allOk L = false := by
  induction L generalizing k with
  | nil => simp at hk
  | cons p L ih =>
    cases k with
    | zero => 
      have hb' : okI p = false := hb
      simp [badAt, allOk, hb']
    | succ k =>
      have h0 : okI p = true := h 0 (by omega)
      obtain ⟨e1, e2⟩ := ih k (by simpa using hk) (fun j hj => h (j + 1) (by omega)) hb
      refine ⟨by rw [badAt, if_pos h0, e1], ?_⟩
      simp only [allOk, List.all_cons, h0, Bool.true_and] at e2 ⊢
      exact e2
theorem allOk_of (L : List (Nat × Nat)) (h : ∀ j, j < L.length → okI (L.getD j (0, 0)) = true) : allOk L = true := by
  rw [allOk, List.all_eq_true]
  intro p hp
  obtain ⟨j, hj, rfl⟩ := List.getElem_of_mem hp
  have := h j hj
  rwa [List.getD_eq_getElem?_getD, List.getElem?_eq_getElem hj] at this
def encB (L : List (Nat × Nat)) : List Int := if 16384 < L.length then [] else if allOk L then encF L else []
def encI (L : List (Nat × Nat)) : Nat := if 16384 < L.length then 16384 else if allOk L then 0 else badAt L
def encX (L : List (Nat × Nat)) : Nat := if 16384 < L.length then 73 else if allOk L then 0 else erV (L.getD (badAt L) (0, 0)).1 (L.getD (badAt L) (0, 0)).2
theorem opWi_cases (k : Nat) : opWi k = 0 ∨ opWi k = 1 ∨ opWi k = 2 ∨ opWi k = 4 := by
  by_cases h : 1 ≤ k ∧ k ≤ 59
  · have : ∀ j, j < 60 → (opWi j = 0 ∨ opWi j = 1 ∨ opWi j = 2 ∨ opWi j = 4) := by decide
    exact this k (by omega)
  · exact Or.inl (opT_zero k h).2.1

theorem nb_mod (w : Nat) : ∀ (x : Int) (k : Nat), w ≤ k → nb w (x % 256 ^ k) = nb w x := by
  induction w with
  | zero => intro x k _; rfl
  | succ w ih =>
    intro x k hk
    obtain ⟨m, rfl⟩ : ∃ m, k = m + 1 := ⟨k - 1, by omega⟩
    have hP := pow256_pos m
    have e1 : x % 256 ^ (m + 1) % 256 = x % 256 := by
      rw [pow256, Int.mul_comm, emod_256 _ _ hP]; omega
    have e2 : x % 256 ^ (m + 1) / 256 = x / 256 % 256 ^ m := by
      rw [pow256, Int.mul_comm, emod_256 _ _ hP]; omega
    show x % 256 ^ (m + 1) % 256 :: nb w (x % 256 ^ (m + 1) / 256) = x % 256 :: nb w (x / 256)
    rw [e1, e2, ih _ _ (by omega)]
end Go.Proofs.YtgbpfejodpplbaaGreatDoor
