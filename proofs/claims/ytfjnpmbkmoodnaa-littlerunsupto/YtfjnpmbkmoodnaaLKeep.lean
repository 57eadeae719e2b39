import Derived.Test.YtfjnpmbkmoodnaaLApart
import Derived.Test.YtfjnpmbkmoodnaaLSame
namespace Go.Proofs.Ytfjnpmbkmoodnaa
open Go.RowKit
set_option maxRecDepth 100000

/-- the answers that are kept, and what they are to be -/
structure KW (w : World) (B : Nat) (lo : Option Addr) (lc : Nat) (wo : Option Addr) (wc n : Nat) (vals wv : Nat → Value) (Z : Nat → List Int) : Prop where
  own : OwnL w B lo lc n vals Z
  wrow : w.ownsRow B 26 1 (.slice wo n wc) n ((List.range n).map wv)
  weach : ∀ i, i < n → w.ownsRow B 5 1 (wv i) (Z i).length (bv (Z i))
  sep : (Value.slice lo n lc).ownBlock = none ∨ (Value.slice lo n lc).ownBlock ≠ (Value.slice wo n wc).ownBlock
theorem OwnL.below {w w' : World} {B : Nat} {lo : Option Addr} {lc n : Nat} {vals : Nat → Value} {Z : Nat → List Int} (h : OwnL w B lo lc n vals Z) (hb : Below w.heap.size w w') : OwnL w' B lo lc n vals Z :=
  ⟨own_below h.row hb, fun i hi => own_below (h.each i hi) hb, h.apart⟩
theorem KW.below {w w' : World} {B : Nat} {lo : Option Addr} {lc : Nat} {wo : Option Addr} {wc n : Nat} {vals wv : Nat → Value} {Z : Nat → List Int} (h : KW w B lo lc wo wc n vals wv Z) (hb : Below w.heap.size w w') : KW w' B lo lc wo wc n vals wv Z :=
  ⟨h.own.below hb, own_below h.wrow hb, fun i hi => own_below (h.weach i hi) hb, h.sep⟩
theorem KW.over {w w' : World} {B B' : Nat} {lo : Option Addr} {lc : Nat} {wo : Option Addr} {wc n g m c : Nat} {vals wv : Nat → Value} {Z : Nat → List Int} {xs : List Value} (h : KW w B lo lc wo wc n vals wv Z) (hf : w.ownsRow B' 5 1 (.slice (some ⟨g, 0, none⟩) m c) m xs) (hg : w.grownBy w' (some g))
    (hne : ∀ i, i < n → (vals i).ownBlock ≠ some g ∧ (wv i).ownBlock ≠ some g) : KW w' B lo lc wo wc n vals wv Z := by
  refine ⟨⟨h.own.row.kept hg ?_, fun i hi => (h.own.each i hi).kept hg (.inr (hne i hi).1), h.own.apart⟩, h.wrow.kept hg ?_, fun i hi => (h.weach i hi).kept hg (.inr (hne i hi).2), h.sep⟩
  · have := rows_type (e := 26) (e' := 5) (by decide) h.own.row hf
    simpa [Value.ownBlock] using this
  · have := rows_type (e := 26) (e' := 5) (by decide) h.wrow hf
    simpa [Value.ownBlock] using this

set_option maxRecDepth 100000 in
set_option maxHeartbeats 2000000 in
theorem keep_any (lo wo : Option Addr) (lc wc n B : Nat) (vals wv : Nat → Value) (Z : Nat → List Int) (w : World) (hn : n ≤ 5800000000000) (hl : ∀ i, i < n → (Z i).length ≤ 67108864) (hB : B ≤ w.heap.size) (hK : KW w B lo lc wo wc n vals wv Z) :
    Calls Try.prog 15 #[.slice lo n lc, .slice wo n wc] w fun e w' => e = .returned (.bool true) ∧ Touch n vals w w' := by
  have HK : Hid (KW w B lo lc wo wc n vals wv Z) := hK
  have HL : Hid (∀ i, i < n → (Z i).length ≤ 67108864) := hl
  clear hK hl
  go_enter Try.func15, Try.ntmps15
  go_wp2_with fail
  go_loopw [5] (fun i wr => ∃ k m : Nat, k ≤ n ∧ i = .int .i64 k ∧ wr = w.drewN m)
    (fun i _ => n - (intOf i).toNat)
  case atStart => exact ⟨0, 0, Nat.zero_le _, rfl, rfl⟩
  case round =>
    obtain ⟨k, m, hk, rfl, hw2⟩ := hrel
    have HW2 : Hid (wr = w.drewN m) := hw2
    by_cases hlt : k < n
    · obtain ⟨g0, rfl⟩ := own_pos' HK.out.own.row (by omega)
      obtain ⟨g1, rfl⟩ := own_pos' HK.out.wrow (by omega)
      have hc0 := own_at HK.out.own.row hlt
      have hc1 := own_at HK.out.wrow hlt
      obtain ⟨a0, ca0, hv0, hr0⟩ := own_reads (HK.out.own.each k hlt)
      obtain ⟨a1, ca1, hv1, hr1⟩ := own_reads (HK.out.weach k hlt)
      rw [hv0] at hc0
      rw [hv1] at hc1
      have hlk := HL.out k hlt
      have hkI : (k : Int) < (n : Int) := by omega
      have HS : Hid (∀ q, Calls Try.prog 19 #[.slice a0 (Z k).length ca0, .slice a1 (Z k).length ca1] (wr.drewN q) fun e w' => e = .returned (.bool true) ∧ ∃ m, w' = (wr.drewN q).drewN m) := fun q => by
        have := same_any a0 a1 ca0 ca1 (Z k) (Z k) (wr.drewN q) (by omega) (by rw [hw2]; exact hr0) (by rw [hw2]; exact hr1)
        rwa [decide_eq_true rfl] at this
      have hd0 : wr.cell? ⟨g0, k, none⟩ = some (.slice a0 (Z k).length ca0) := by rw [hw2]; exact hc0
      have hd1 : wr.cell? ⟨g1, k, none⟩ = some (.slice a1 (Z k).length ca1) := by rw [hw2]; exact hc1
      clear hc0 hc1 hv0 hv1 hr0 hr1 hw2
      go_wp2_with fail
      go_quiet ((go_at_call 19; exact Calls.quiet_of (HS.out _)))
      go_wp2_with fail
      go_roundw
      case rel => exact ⟨k + 1, _, by omega, by go_num, by rw [HW2.out, World.drewN_drewN]⟩
      case measure => simp [intOf]; omega
    · have hkI : ¬ (k : Int) < (n : Int) := by omega
      have hap := apart_any lo lc n B vals Z wr hn HL.out (by rw [hw2]; exact hB) (by rw [hw2]; exact HK.out.own.below (below_drewN (Below.refl _ _) m))
      have HT : Hid (Touch n vals w wr) := by rw [hw2]; exact Touch.of_below (below_drewN (Below.refl _ _) m)
      clear hw2 HW2
      go_wp2_with fail
      with_reducible refine hap.mono ?_
      rintro e w5 ⟨rfl, hT5⟩
      have hT := HT.out.trans hT5
      clear hap hT5
      go_wp2_with fail
      go_ret
      exact ⟨rfl, hT⟩
end Go.Proofs.Ytfjnpmbkmoodnaa
