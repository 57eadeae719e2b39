import Derived.Test.YtihnkeflcnndpaaDoorCIFit
import Derived.Deep.RegionHeld3
import Derived.Test.YtihnkeflcnndpaaDoorLMark
namespace Go.Proofs.YtihnkeflcnndpaaDoor
open Go.RowKit
set_option maxRecDepth 100000

def mk0 (i : Nat) : Nat × Nat := (200, 1000003 + i)
def mksC (m : Nat) : List (Nat × Nat) := (List.range m).map mk0
theorem mksC_succ (m : Nat) : mksC (m + 1) = mksC m ++ [mk0 m] := by unfold mksC; rw [List.range_succ, List.map_append]; rfl
theorem mksC_len (m : Nat) : (mksC m).length = m := by simp [mksC]
theorem infoI2 : (Tryd.prog.info? 48).map (·.size) = some 2 := by kernel_rfl
set_option maxRecDepth 100000 in
theorem undI2 : ∃ fs, Tryd.prog.underlying 48 = some (.struct fs) := by
  have h : (match Tryd.prog.underlying 48 with | some (.struct _) => true | _ => false) = true := by kernel_rfl
  split at h
  · exact ⟨_, by assumption⟩
  · cases h
set_option maxRecDepth 100000 in
set_option maxHeartbeats 1000000 in
theorem markc_any (i : Nat) (w : World) (hi : i ≤ 64) :
    Calls Tryd.prog 46 #[.int .i64 0, .int .i64 i] w fun e w' => e = .returned (.agg #[.int .u8 200, .int .u32 (1000003 + (i : Int))]) ∧ w' = w.alloc (.cells #[.int .u8 200, .int .u32 (1000003 + (i : Int))] 48) := by
  have hiI : (i : Int) ≤ 64 := by omega
  clear hi
  go_enter Tryd.func46, Tryd.ntmps46
  go_wp2
  obtain ⟨fs, hu⟩ := undI2
  exact bodyPost_ret (results_cell_row (p := 4) (ty := 48) (by kernel_rfl) _ _ w.heap.size 48 #[.int .u8 200, .int .u32 (1000003 + (i : Int))] (0, 0) _ rfl (heap_alloc_last w _) hu rfl (by rw [infoI2]; rfl)) rfl ⟨rfl, rfl⟩
set_option maxRecDepth 100000 in
set_option maxHeartbeats 2000000 in
theorem lentc_any (ao : Option Addr) (cap : Nat) (L : List (Nat × Nat)) (w : World) (hn : L.length ≤ 17592186044352) (hr : CRd w ao L w.heap.size) :
    Calls Tryd.prog 19 #[.slice ao L.length cap] w fun e w' => ∃ v, e = .returned v ∧ w'.ownsRow w.heap.size 48 2 v (L.length + 64) (cv (L ++ mksC 64)) ∧ Below w.heap.size w w' := by
  obtain ⟨i0, hi, hz0, hz1, hz2⟩ := info_parts Tryd.infoC
  go_enter Tryd.func19, Tryd.ntmps19
  go_wp2
  go_loopw [3, 4] (fun v i wr => ∃ k : Nat, k ≤ L.length ∧ i = .int .i64 k ∧ wr.ownsRow w.heap.size 48 2 v k (cv (L.take k)) ∧ Below w.heap.size w wr)
    (fun _ i _ => L.length - (intOf i).toNat)
  case atStart => exact ⟨0, Nat.zero_le _, rfl, World.ownsRow_nil _ _ _ _, Below.refl _ _⟩
  case round =>
    obtain ⟨k, hk, rfl, hown, hb⟩ := hrel
    by_cases hlt : k < L.length
    · obtain ⟨b, off, rfl, hbl, hc⟩ := (hr.below hb) (by omega)
      obtain ⟨x0, x1⟩ := hc k hlt
      have hB := hb.size
      clear hc
      have HS := hid_of (ptake (0, 0) L k hlt)
      generalize L.getD k (0, 0) = c at x0 x1 HS
      have hltI : (k : Int) < (L.length : Int) := by omega
      go_wp2_with (at_builtin; refine wpList_append_own _ rfl _ _ 22 rfl w.heap.size 48 i0 (.agg #[.int .u8 0, .int .u32 0]) 2 8 Tryd.underlying22 hi hz0 hz1 hz2 rfl (by decide) _ _ _ rfl (hown.alloc _) ⟨wr.heap.size, 0, none⟩ 1 1 [.int .u8 c.1, .int .u32 c.2] rfl rfl ?c1 ?c2 ?c3 ?c4 ?c5 ?_)
      case c1 =>
        intro j u hj
        match j, hj with
        | 0, hj => simp at hj; subst hj; simp [Addr.add]
        | 1, hj => simp at hj; subst hj; simp [Addr.add]
      case c2 => intro u hu; simp at hu; rcases hu with rfl | rfl <;> rfl
      case c3 => unfold maxLen; omega
      case c4 => omega
      case c5 => simp; omega
      intro v' w1 hown' hgrow _
      have R1 : w1.ownsRow w.heap.size 48 2 v' (k + 1) (cv (L.take (k + 1))) := by rw [HS.out, cv_append]; exact hown'
      have R2 := grown_below hb hB hown hgrow
      clear hown' hgrow hown x0 x1
      go_wp2
      go_roundw
      case rel => exact ⟨k + 1, by omega, by go_num, R1, R2⟩
      case measure => simp [intOf]; omega
    · go_wp2
      go_loopw [3, 5] (fun v i wr => ∃ k : Nat, k ≤ 64 ∧ i = .int .i64 k ∧ wr.ownsRow w.heap.size 48 2 v (L.length + k) (cv (L ++ mksC k)) ∧ Below w.heap.size w wr)
        (fun _ i _ => 64 - (intOf i).toNat)
      case atStart => exact ⟨0, by omega, rfl, by simpa [mksC, show k = L.length by omega] using hown, hb⟩
      case round =>
        clear hown hb
        obtain ⟨j, hj, rfl, hown, hb⟩ := hrel
        have hB := hb.size
        by_cases hlt2 : j < 64
        · have hltI : (j : Int) < 64 := by omega
          have hM := markc_any j wr (by omega)
          go_wp2_with (first
            | (go_at_call 46; with_reducible refine hM.mono ?_; rintro e wq ⟨rfl, hq⟩; subst wq)
            | (at_builtin; refine wpList_append_own _ rfl _ _ 22 rfl w.heap.size 48 i0 (.agg #[.int .u8 0, .int .u32 0]) 2 8 Tryd.underlying22 hi hz0 hz1 hz2 rfl (by decide) _ _ _ rfl ((hown.alloc _).alloc _) ⟨_, 0, none⟩ 1 1 [.int .u8 200, .int .u32 (1000003 + (j : Int))] rfl rfl ?d1 ?d2 ?d3 ?d4 ?d5 ?_))
          case d1 =>
            intro j u hj
            match j, hj with
            | 0, hj => simp at hj; subst hj; simp [Addr.add]
            | 1, hj => simp at hj; subst hj; simp [Addr.add]
          case d2 => intro u hu; simp at hu; rcases hu with rfl | rfl <;> rfl
          case d3 => unfold maxLen; omega
          case d4 => omega
          case d5 => simp; omega
          intro v' w1 hown' hgrow _
          have R1 : w1.ownsRow w.heap.size 48 2 v' (L.length + (j + 1)) (cv (L ++ mksC (j + 1))) := by
            rw [mksC_succ, ← List.append_assoc, cv_append]; exact hown'
          have R2 : Below w.heap.size w w1 := grown_below (bel hb) (bel hb).size (hown.alloc _) hgrow
          clear hown' hgrow hown hM
          go_wp2
          go_roundw
          case rel => exact ⟨j + 1, by omega, by go_num, R1, R2⟩
          case measure => simp [intOf]; omega
        · go_wp2
          go_ret
          obtain rfl : j = 64 := by omega
          exact ⟨_, rfl, hown, hb⟩
end Go.Proofs.YtihnkeflcnndpaaDoor
namespace Go.Proofs.YtihnkeflcnndpaaDoor
open Go.RowKit
set_option maxRecDepth 100000

theorem Tryd.infoInt0W : (Tryd.prog.info? 32).map (fun i => (i.zero, i.size, i.bytes)) = some (some (.int .u32 0), 1, 4) := by kernel_rfl
/-- numbers as values -/
def biW (L : List Int) : List Value := L.map (Value.int .u32)
theorem bi_appendW (L M : List Int) : biW (L ++ M) = biW L ++ biW M := by simp [biW]
theorem bi_lenW (L : List Int) : (biW L).length = L.length := by simp [biW]
theorem bi_oneW (x : Int) : biW [x] = [.int .u32 x] := rfl
def imkW (k i : Int) : Int := (1000003 * (k + 1) + i) % 4294967296
set_option maxHeartbeats 400000 in
theorem imark_anyW (k i : Int) (w : World) (hk : -1 ≤ k ∧ k ≤ 1000000000) (hi : 0 ≤ i ∧ i ≤ 1000000000000) :
    Calls Tryd.prog 47 #[.int .i64 k, .int .i64 i] w fun e w' => e = .returned (.int .u32 (imkW k i)) ∧ w' = w := by
  obtain ⟨hk0, hk1⟩ := hk
  obtain ⟨hi0, hi1⟩ := hi
  go_enter Tryd.func47, Tryd.ntmps47
  go_wp2
  go_ret
  exact ⟨ret_int (by rw [imkW]), rfl⟩
def imarksW (k : Int) (m : Nat) : List Int := (List.range m).map fun (i : Nat) => imkW k (i : Int)
theorem imarks_succW (k : Int) (m : Nat) : imarksW k (m + 1) = imarksW k m ++ [imkW k (m : Int)] := by
  unfold imarksW; rw [List.range_succ, List.map_append]; rfl
theorem imarks_lenW (k : Int) (m : Nat) : (imarksW k m).length = m := by simp [imarksW]
theorem imarks_takeW (k : Int) (n m : Nat) : imarksW k n = (imarksW k (n + m)).take n := by
  unfold imarksW; rw [← List.map_take, List.take_range, Nat.min_eq_left (by omega)]
theorem iown_getW {w1 : World} {B g n cap : Nat} {L : List Int} (h : w1.ownsRow B 32 1 (.slice (some ⟨g, 0, none⟩) n cap) n (biW L)) {i : Nat} (hi : i < L.length) : w1.cell? ⟨g, i, none⟩ = some (.int .u32 (L.getD i 0)) := by
  have := h.cells (g := g) rfl i (.int .u32 (L.getD i 0)) (by simp [biW, List.getD, List.getElem?_eq_getElem hi])
  rw [Go.WideShapes.add_plain, Nat.zero_add] at this
  exact this
end Go.Proofs.YtihnkeflcnndpaaDoor
