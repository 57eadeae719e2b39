import Derived.Test.YtelddclhoojjmaaLJoin
import Derived.Laws.AppendOwn
namespace Go.Proofs.Ytelddclhoojjmaa
open Go.RowKit

set_option maxRecDepth 100000 in
set_option maxHeartbeats 2000000 in
theorem joins_any (ao bo : Option Addr) (ca cb : Nat) (xs ys : List Int) (w : World) (hx : xs.length ≤ 1048576) (hy : ys.length ≤ 1048576) (hxw : ∀ z ∈ xs, 0 ≤ z ∧ z ≤ 255) (hyw : ∀ z ∈ ys, 0 ≤ z ∧ z ≤ 255)
    (hrx : Reads w ao xs w.heap.size) (hry : Reads w bo ys w.heap.size) :
    Calls Try.prog 4 #[.slice ao xs.length ca, .slice bo ys.length cb] w fun e w' => e = .returned (.bool true) ∧ Below w.heap.size w w' := by
  obtain ⟨i0, hi, hz0, hz1, hz2⟩ := info_parts Try.info5
  go_enter Try.func4, Try.ntmps4
  go_wp2
  go_loopw [5, 6] (fun v i wr => ∃ k : Nat, k ≤ xs.length ∧ i = .int .i64 k ∧ wr.ownsRow w.heap.size 5 1 v k (bv (xs.take k)) ∧ Below w.heap.size w wr)
    (fun _ i _ => xs.length - (intOf i).toNat)
  case atStart => exact ⟨0, Nat.zero_le _, rfl, World.ownsRow_nil _ _ _ _, Below.refl _ _⟩
  case round =>
    obtain ⟨k, hk, rfl, hown, hb⟩ := hrel
    by_cases hlt : k < xs.length
    · obtain ⟨b, off, rfl, hbl, hc⟩ := (hrx.below hb) (by omega)
      have hck := hc k hlt
      have hB := hb.size
      clear hc
      have hts := take_snoc xs k hlt
      generalize xs.getD k 0 = c at hck hts
      have HS : Hid (xs.take (k + 1) = xs.take k ++ [c]) := hts
      clear hts
      go_wp2_with (at_builtin; refine wpList_append_own _ rfl _ _ 25 rfl w.heap.size 5 i0 (.int .u8 0) 1 1 Try.underlying25 hi hz0 hz1 hz2 rfl (by decide) _ _ _ rfl (hown.alloc _) ⟨wr.heap.size, 0, none⟩ 1 1 [.int .u8 c] rfl rfl ?c1 ?c2 ?c3 ?c4 ?c5 ?_)
      case c1 =>
        intro j u hj
        match j, hj with
        | 0, hj => simp at hj; subst hj; simp [Addr.add]
      case c2 => intro u hu; simp at hu; subst hu; rfl
      case c3 => unfold maxLen; omega
      case c4 => omega
      case c5 => simp; omega
      intro v' w1 hown' hgrow _
      have R1 := own_snoc HS.out hown'
      have R2 := grown_below hb hB hown hgrow
      clear hown' hgrow hown hck
      go_wp2
      go_roundw
      case rel => exact ⟨k + 1, by omega, by go_num, R1, R2⟩
      case measure => simp [intOf]; omega
    · go_wp2
      go_loopw [5, 7] (fun v i wr => ∃ k : Nat, k ≤ ys.length ∧ i = .int .i64 k ∧ wr.ownsRow w.heap.size 5 1 v (xs.length + k) (bv (xs ++ ys.take k)) ∧ Below w.heap.size w wr)
        (fun _ i _ => ys.length - (intOf i).toNat)
      case atStart => exact ⟨0, by omega, rfl, by simpa [show k = xs.length by omega] using hown, hb⟩
      case round =>
        clear hown hb
        obtain ⟨j, hj, rfl, hown, hb⟩ := hrel
        have hB := hb.size
        by_cases hlt2 : j < ys.length
        · obtain ⟨b, off, rfl, hbl, hc⟩ := (hry.below hb) (by omega)
          have hck := hc j hlt2
          clear hc
          have hts := take_snoc ys j hlt2
          generalize ys.getD j 0 = c at hck hts
          have HS : Hid (xs ++ ys.take (j + 1) = (xs ++ ys.take j) ++ [c]) := by rw [hts, List.append_assoc]; exact rfl
          clear hts
          go_wp2_with (at_builtin; refine wpList_append_own _ rfl _ _ 25 rfl w.heap.size 5 i0 (.int .u8 0) 1 1 Try.underlying25 hi hz0 hz1 hz2 rfl (by decide) _ _ _ rfl (hown.alloc _) ⟨_, 0, none⟩ 1 1 [.int .u8 c] rfl rfl ?d1 ?d2 ?d3 ?d4 ?d5 ?_)
          case d1 =>
            intro j u hj
            match j, hj with
            | 0, hj => simp at hj; subst hj; simp [Addr.add]
          case d2 => intro u hu; simp at hu; subst hu; rfl
          case d3 => unfold maxLen; omega
          case d4 => omega
          case d5 => simp; omega
          intro v' w1 hown' hgrow _
          have R1 := own_snoc HS.out hown'
          have R2 := grown_below hb hB hown hgrow
          clear hown' hgrow hown
          go_wp2
          go_roundw
          case rel => exact ⟨j + 1, by omega, by go_num, R1, R2⟩
          case measure => simp [intOf]; omega
        · obtain rfl : j = ys.length := by omega
          rw [List.take_length] at hown
          have HZ : Hid (∀ z ∈ xs ++ ys, 0 ≤ z ∧ z ≤ 255) := fun z hz => (List.mem_append.1 hz).elim (hxw z) (hyw z)
          have hl : xs.length + ys.length = (xs ++ ys).length := by simp
          have hl2 : (xs ++ ys).length ≤ 2097152 := by simp; omega
          rw [hl] at hown
          clear hl
          have HJ : Hid (jn (adl xs) (adl ys) (ys.length : Int) = adl (xs ++ ys)) := jn_adl xs ys
          generalize xs ++ ys = zs at hown HZ HJ hl2
          obtain ⟨ao2, cap2, hv, hr2⟩ := own_reads hown
          subst hv
          have hrx2 := (hrx.below hb).mono hB
          have hry2 := (hry.below hb).mono hB
          have hax := adl_range xs
          have hay := adl_range ys
          have HS0 : Hid (∀ W : World, Calls Try.prog 6 #[.slice none 0 0] W fun e w' => e = .returned (.int .u32 1) ∧ w' = W) := fun W => by
            have := sum_any none 0 [] W (by simp) (by simp) (Reads.nil _ _ _)
            rwa [show adl [] = 1 from by decide] at this
          have HS1 := sum_any ao ca xs wr (by omega) hxw hrx2
          have HS2 := sum_any bo cb ys wr (by omega) hyw hry2
          have HS3 := sum_any ao2 cap2 zs wr (by omega) HZ.out hr2
          have HJn := join_any (adl xs) (adl ys) (ys.length : Int) wr hax.1 hax.2 hay.1 hay.2 (by omega) (by omega)
          rw [HJ.out] at HJn
          go_wp2_with (first | (go_at_call 6; (first | with_reducible refine (HS0.out _).mono ?_ | with_reducible refine HS3.mono ?_ | with_reducible refine HS1.mono ?_ | with_reducible refine HS2.mono ?_); rintro e w' ⟨rfl, rfl⟩) | (go_at_call 7; refine HJn.mono ?_; rintro e w' ⟨rfl, rfl⟩))
          go_ret
          exact ⟨rfl, hb⟩
end Go.Proofs.Ytelddclhoojjmaa
