import Derived.Test.YtfjnpmbkmoodnaaLSame
import Derived.Test.YtfjnpmbkmoodnaaLWp16
import Derived.Test.YtfjnpmbkmoodnaaLWa32
namespace Go.Proofs.Ytfjnpmbkmoodnaa
open Go.RowKit
set_option maxRecDepth 100000

theorem same_n (n m : Nat) (ao bo : Option Addr) (ca cb : Nat) (xs ys : List Int) (w : World) (h1 : xs.length = n) (h2 : ys.length = m) (hn : n ≤ 140737488355328) (ha : Reads w ao xs w.heap.size) (hr : Reads w bo ys w.heap.size) :
    Calls Try.prog 19 #[.slice ao n ca, .slice bo m cb] w fun e w' => e = .returned (.bool (decide (xs = ys))) ∧ ∃ m, w' = w.drewN m := by
  subst h1; subst h2; exact same_any ao bo ca cb xs ys w hn ha hr
theorem own_readsK {w : World} {B e : Nat} {k : IntKind} {v : Value} {zs : List Int} (h : w.ownsRow B e 1 v zs.length (bk k zs)) : ∃ ao cap, v = .slice ao zs.length cap ∧ zs.length ≤ cap ∧ ReadsK w k ao zs w.heap.size := by
  have h' := h
  have hlt := h.lt
  rcases h.2 with ⟨rfl, hz⟩ | ⟨g, cap, cur, rfl, _, _, hc, _⟩
  · have hl : zs.length = 0 := by simpa using hz
    exact ⟨none, 0, by rw [hl], by omega, fun hp => by omega⟩
  · refine ⟨_, cap, rfl, hc, fun _ => ⟨g, 0, rfl, (hlt g rfl).2, fun j hj => ?_⟩⟩
    have := h'.cells (g := g) rfl j (.int k (zs.getD j 0)) (by simp [bk, List.getD, List.getElem?_eq_getElem hj])
    have hadd : (⟨g, 0, none⟩ : Addr).add j = ⟨g, 0 + j, none⟩ := by unfold Addr.add; split <;> simp_all
    rw [← hadd]; exact this
set_option maxRecDepth 100000 in
set_option maxHeartbeats 1000000 in
theorem lives_any (w : World) : Calls Try.prog 4 #[] w fun e w' => e = .returned (.bool true) ∧ Below w.heap.size w w' := by
  have own1 := World.ownsRow_lit (size := 1) (base := w.heap.size) (e := 53) w #[.int .u16 258, .int .u16 3] 2 (Nat.le_refl _) (by decide) rfl
  have hb1 : Below w.heap.size w (w.alloc (.cells #[.int .u16 258, .int .u16 3] 53)) := (Below.refl w.heap.size w).alloc (Nat.le_refl _) _
  have hr1 : ReadsK (w.alloc (.cells #[.int .u16 258, .int .u16 3] 53)) .u16 (some ⟨w.heap.size, 0, none⟩) [258, 3] (w.alloc (.cells #[.int .u16 258, .int .u16 3] 53)).heap.size := by
    obtain ⟨ao, cap, h1, h2, h3⟩ := own_readsK (zs := [258, 3]) own1
    simp only [Value.slice.injEq] at h1
    obtain ⟨rfl, _⟩ := h1
    exact h3
  have hp := put_u16 (some ⟨w.heap.size, 0, none⟩) 2 [258, 3] _ (by decide) (by decide) hr1
  rw [show puts 2 [258, 3] ([258, 3] : List Int).length = [2, 1, 3, 0] from by decide] at hp
  have hz1 := hb1.size
  clear own1 hr1
  go_enter Try.func4, Try.ntmps4
  go_wp2_with fail
  refine hp.mono ?_
  rintro e w1 ⟨v, rfl, own2, hb2⟩
  obtain ⟨g, cp, rfl, hcp⟩ := own_form own2 (by decide)
  have hr2 := reads_own (zs := [2, 1, 3, 0]) own2 (by decide)
  have hb3 := hb1.trans (hb2.mono hz1)
  have hz3 := hb3.size
  clear own2 hb2 hb1 hp
  have own4 := World.ownsRow_lit (size := 1) (base := w1.heap.size) (e := 5) w1 #[.int .u8 1, .int .u8 0, .int .u8 0, .int .u8 2] 4 (Nat.le_refl _) (by decide) rfl
  have hb4 := hb3.alloc hz3 (.cells #[.int .u8 1, .int .u8 0, .int .u8 0, .int .u8 2] 5)
  have ha := at_u32 (some ⟨w1.heap.size, 0, none⟩) 4 [1, 0, 0, 2] 0 _ (by decide) (by decide) (by decide) (reads_own (zs := [1, 0, 0, 2]) (L := [1, 0, 0, 2]) own4 (by decide)) (by decide) (by decide)
  rw [show atv 4 [1, 0, 0, 2] 0 = 33554433 from by decide, show ate 4 ([1, 0, 0, 2] : List Int).length 0 = 0 from by decide] at ha
  have hr5 := (hr2.below ((Below.refl w1.heap.size w1).alloc (Nat.le_refl _) (.cells #[.int .u8 1, .int .u8 0, .int .u8 0, .int .u8 2] 5))).mono (show w1.heap.size ≤ (w1.alloc (.cells #[.int .u8 1, .int .u8 0, .int .u8 0, .int .u8 2] 5)).heap.size by simp)
  have hz4 := hb4.size
  clear own4 hr2 hb3
  go_wp2_with fail
  refine ha.mono ?_
  rintro e w2 ⟨rfl, hq⟩
  rw [← hq] at hr5 hb4 hz4
  clear ha hq
  have own6 := World.ownsRow_lit (size := 1) (base := w2.heap.size) (e := 5) w2 #[.int .u8 2, .int .u8 1, .int .u8 3, .int .u8 0] 4 (Nat.le_refl _) (by decide) rfl
  have hb6 := hb4.alloc hz4 (.cells #[.int .u8 2, .int .u8 1, .int .u8 3, .int .u8 0] 5)
  have hr6 := (hr5.below ((Below.refl w2.heap.size w2).alloc (Nat.le_refl _) (.cells #[.int .u8 2, .int .u8 1, .int .u8 3, .int .u8 0] 5))).mono (show w2.heap.size ≤ (w2.alloc (.cells #[.int .u8 2, .int .u8 1, .int .u8 3, .int .u8 0] 5)).heap.size by simp)
  have hs := same_n 4 4 (some ⟨g, 0, none⟩) (some ⟨w2.heap.size, 0, none⟩) cp 4 [2, 1, 3, 0] [2, 1, 3, 0] _ rfl rfl (by decide) hr6 (reads_own (zs := [2, 1, 3, 0]) (L := [2, 1, 3, 0]) own6 (by decide))
  rw [show decide ([2, 1, 3, 0] = ([2, 1, 3, 0] : List Int)) = true from by decide] at hs
  clear own6 hr6 hr5
  go_wp2_with fail
  refine hs.mono ?_
  rintro e w3 ⟨rfl, m, hq⟩
  have hb7 := below_drewN hb6 m
  rw [← hq] at hb7
  clear hs hb6 hq
  go_wp2_with fail
  go_ret
  exact ⟨rfl, hb7⟩
end Go.Proofs.Ytfjnpmbkmoodnaa
