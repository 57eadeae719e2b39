import Derived.Test.YtelddclhoojjmaaLMath
import Derived.Laws.AppendOwn
namespace Go.Proofs.Ytelddclhoojjmaa
open Go.RowKit

def pk (x n : Int) : Int := if x.tmod n < 0 then x.tmod n + n else x.tmod n
theorem tmod_bound (x n : Int) (hn : 1 ≤ n) : -n < x.tmod n ∧ x.tmod n < n := by
  have h1 := Int.tmod_lt_of_pos x (show 0 < n by omega)
  have h2 := Int.lt_tmod_of_pos x (show 0 < n by omega)
  omega
theorem pk_range (x n : Int) (hn : 1 ≤ n) : 0 ≤ pk x n ∧ pk x n < n := by
  have := tmod_bound x n hn
  unfold pk; split <;> omega

set_option maxHeartbeats 400000 in
theorem pick_any (x n : Int) (w : World) (_ : -9223372036854775808 ≤ x) (_ : x ≤ 9223372036854775807) (n0 : 1 ≤ n) (n1 : n ≤ 9223372036854775807) :
    Calls Try.prog 13 #[.int .i64 x, .int .i64 n] w fun e w' => e = .returned (.int .i64 (pk x n)) ∧ w' = w := by
  have hb := tmod_bound x n n0
  have hd : ¬ n = 0 := by omega
  have hd1 : ¬ n = -1 := by omega
  by_cases hneg : x.tmod n < 0
  · have HP : Hid (pk x n = x.tmod n + n) := by unfold pk; rw [if_pos hneg]; exact rfl
    go_enter Try.func13, Try.ntmps13
    go_wp2
    go_ret
    exact ⟨by rw [HP.out]; rfl, rfl⟩
  · have HP : Hid (pk x n = x.tmod n) := by unfold pk; rw [if_neg hneg]; exact rfl
    go_enter Try.func13, Try.ntmps13
    go_wp2
    go_ret
    exact ⟨by rw [HP.out]; rfl, rfl⟩

theorem own_get {w1 : World} {B g n cap : Nat} {L : List Int} (h : w1.ownsRow B 5 1 (.slice (some ⟨g, 0, none⟩) n cap) n (bv L)) {i : Nat} (hi : i < L.length) : w1.cell? ⟨g, i, none⟩ = some (.int .u8 (L.getD i 0)) := by
  have := h.cells (g := g) rfl i (.int .u8 (L.getD i 0)) (by simp [bv, List.getD, List.getElem?_eq_getElem hi])
  have hadd : (⟨g, 0, none⟩ : Addr).add i = ⟨g, 0 + i, none⟩ := by unfold Addr.add; split <;> simp_all
  rw [hadd, Nat.zero_add] at this; exact this

theorem xor_byte (x y : Int) (x0 : 0 ≤ x) (x1 : x ≤ 255) (y0 : 0 ≤ y) (y1 : y ≤ 255) : (0 ≤ bits .xor .u8 x y ∧ bits .xor .u8 x y ≤ 255) ∧ (y ≠ 0 → bits .xor .u8 x y ≠ x) := by
  obtain ⟨n, rfl⟩ := Int.eq_ofNat_of_zero_le x0
  obtain ⟨m, rfl⟩ := Int.eq_ofNat_of_zero_le y0
  have e := u8_xor_nat n m (by omega) (by omega)
  have hl : n ^^^ m < 2 ^ 8 := Nat.xor_lt_two_pow (by omega) (by omega)
  have hh : m ≠ 0 → n ^^^ m ≠ n := by
    intro hm he
    have h2 : n ^^^ (n ^^^ m) = n ^^^ n := by rw [he]
    rw [← Nat.xor_assoc, Nat.xor_self, Nat.zero_xor] at h2
    exact hm h2
  rw [e]
  refine ⟨by omega, fun hm => ?_⟩
  have := hh (by omega)
  omega

set_option maxRecDepth 100000 in
set_option maxHeartbeats 2000000 in
theorem turned_any (ao : Option Addr) (ca : Nat) (xs : List Int) (at_ by_ : Int) (w : World) (hx : xs.length ≤ 140737488355328) (hxw : ∀ z ∈ xs, 0 ≤ z ∧ z ≤ 255) (t0 : -9223372036854775808 ≤ at_) (t1 : at_ ≤ 9223372036854775807) (y0 : 0 ≤ by_) (y1 : by_ ≤ 255)
    (hrx : Reads w ao xs w.heap.size) :
    Calls Try.prog 5 #[.slice ao xs.length ca, .int .i64 at_, .int .u8 by_] w fun e w' => e = .returned (.bool true) ∧ Below w.heap.size w w' := by
  obtain ⟨i0, hi, hz0, hz1, hz2⟩ := info_parts Try.info5
  have HS0 : Hid (∀ W : World, Calls Try.prog 6 #[.slice none 0 0] W fun e w' => e = .returned (.int .u32 1) ∧ w' = W) := fun W => by
    have := sum_any none 0 [] W (by simp) (by simp) (Reads.nil _ _ _)
    rwa [show adl [] = 1 from by decide] at this
  by_cases hl0 : xs.length = 0
  · go_enter Try.func5, Try.ntmps5
    go_wp2_with (go_at_call 6; refine (HS0.out _).mono ?_; rintro e w' ⟨rfl, rfl⟩)
    go_ret
    exact ⟨rfl, Below.refl _ _⟩
  by_cases hby : by_ = 0
  · subst hby
    have hl1 : ¬ (xs.length : Int) = 0 := by omega
    have hl2 : ¬ xs = [] := fun h => hl0 (by rw [h]; rfl)
    go_enter Try.func5, Try.ntmps5
    go_wp2_with (go_at_call 6; refine (HS0.out _).mono ?_; rintro e w' ⟨rfl, rfl⟩)
    go_ret
    exact ⟨rfl, Below.refl _ _⟩
  have hl1 : ¬ (xs.length : Int) = 0 := by omega
  have hl2 : ¬ xs = [] := fun h => hl0 (by rw [h]; rfl)
  have d1 : ((xs.length : Int) == 0) = false := by simp [hl2]
  have d2 : (by_ == 0) = false := by simp [hby]
  go_enter Try.func5, Try.ntmps5
  go_wp2
  go_loopw [7, 8] (fun v i wr => ∃ k : Nat, k ≤ xs.length ∧ i = .int .i64 k ∧ wr.ownsRow w.heap.size 5 1 v k (bv (xs.take k)) ∧ Below w.heap.size w wr)
    (fun _ i _ => xs.length - (intOf i).toNat)
  case atStart => exact ⟨0, Nat.zero_le _, rfl, World.ownsRow_nil _ _ _ _, Below.refl _ _⟩
  case round =>
    obtain ⟨k, hk, rfl, hown, hb⟩ := hrel
    by_cases hlt : k < xs.length
    · obtain ⟨b, off, rfl, hbl, hc⟩ := (hrx.below hb) (by omega)
      have hck := hc k hlt
      have hB := hb.size
      clear hc
      have hts := take_snoc xs k hlt
      generalize xs.getD k 0 = c at hck hts
      have HS : Hid (xs.take (k + 1) = xs.take k ++ [c]) := hts
      clear hts
      go_wp2_with (at_builtin; refine wpList_append_own _ rfl _ _ 25 rfl w.heap.size 5 i0 (.int .u8 0) 1 1 Try.underlying25 hi hz0 hz1 hz2 rfl (by decide) _ _ _ rfl (hown.alloc _) ⟨wr.heap.size, 0, none⟩ 1 1 [.int .u8 c] rfl rfl ?c1 ?c2 ?c3 ?c4 ?c5 ?_)
      case c1 =>
        intro j u hj
        match j, hj with
        | 0, hj => simp at hj; subst hj; simp [Addr.add]
      case c2 => intro u hu; simp at hu; subst hu; rfl
      case c3 => unfold maxLen; omega
      case c4 => omega
      case c5 => simp; omega
      intro v' w1 hown' hgrow _
      have R1 := own_snoc HS.out hown'
      have R2 := grown_below hb hB hown hgrow
      clear hown' hgrow hown hck
      go_wp2
      go_roundw
      case rel => exact ⟨k + 1, by omega, by go_num, R1, R2⟩
      case measure => simp [intOf]; omega
    · obtain rfl : k = xs.length := by omega
      rw [List.take_length] at hown
      have hB := hb.size
      rcases hown.2 with ⟨rfl, hz⟩ | ⟨g, cap, cur, rfl, _⟩
      · exact absurd (by simpa using hz) hl0
      have hrx2 := (hrx.below hb).mono hB
      have HS1 : Hid (∀ W' : World, Below w.heap.size wr W' → Calls Try.prog 6 #[.slice ao xs.length ca] W' fun e w' => e = .returned (.int .u32 (adl xs)) ∧ w' = W') :=
        fun W' hW => sum_any ao ca xs W' (by omega) hxw (((hrx.below hb).below hW).mono (Nat.le_trans hB hW.size))
      obtain ⟨p, hp⟩ : ∃ p : Nat, pk at_ xs.length = p := ⟨(pk at_ xs.length).toNat, by have := pk_range at_ xs.length (by omega); omega⟩
      have hpr := pk_range at_ xs.length (by omega)
      rw [hp] at hpr
      have hpl : p < xs.length := by omega
      have HP : Hid (∀ W : World, Calls Try.prog 13 #[.int .i64 at_, .int .i64 (xs.length : Int)] W fun e w' => e = .returned (.int .i64 (p : Int)) ∧ w' = W) := fun W => by
        have := pick_any at_ xs.length W t0 t1 (by omega) (by omega)
        rwa [hp] at this
      have hck := own_get hown (i := p) hpl
      have hfk := hown.frozenAt p
      have hcw := hxw _ (getD_mem hpl)
      have hxor := xor_byte (xs.getD p 0) by_ hcw.1 hcw.2 y0 y1
      have HN : Hid (adl xs ≠ adl (xs.set p (bits .xor .u8 (xs.getD p 0) by_))) := turned_ne xs p hpl _ hxor.1 hcw (hxor.2 hby)
      have R := (hown.stored p (.int .u8 (bits .xor .u8 (xs.getD p 0) by_))).1
      have hbv : (bv xs).set p (.int .u8 (bits .xor .u8 (xs.getD p 0) by_)) = bv (xs.set p (bits .xor .u8 (xs.getD p 0) by_)) := by simp [bv, List.map_set]
      rw [hbv] at R
      have hwf2 : ∀ z ∈ xs.set p (bits .xor .u8 (xs.getD p 0) by_), 0 ≤ z ∧ z ≤ 255 := fun z hz => by
        rcases List.mem_or_eq_of_mem_set hz with h | h
        · exact hxw z h
        · rw [h]; exact hxor.1
      have hlo := (hown.lt g rfl).1
      have hb2 : Below w.heap.size wr _ := (Below.refl w.heap.size wr).setCell (p := ⟨g, p, none⟩) hlo (.int .u8 (bits .xor .u8 (xs.getD p 0) by_))
      generalize xs.getD p 0 = x at *
      generalize hyy : bits .xor .u8 x by_ = y at *
      have R' := own_reads (zs := xs.set p y) (by simpa using R)
      obtain ⟨ao2, cap2, hv2, hr2⟩ := R'
      have HS1 := sum_any ao ca xs (wr.setCell ⟨g, p, none⟩ (.int .u8 y)) (by omega) hxw (((hrx.below hb).below hb2).mono (Nat.le_trans hB hb2.size))
      have HS2 := sum_any ao2 cap2 (xs.set p y) (wr.setCell ⟨g, p, none⟩ (.int .u8 y)) (by simp; omega) hwf2 hr2
      rw [← hv2] at HS2
      have hfin : (adl xs != adl (xs.set p y)) = true := by simpa using HN.out
      have hb3 := hb.trans hb2
      clear HN hwf2 hr2 hv2 R hb2 hrx2 hown hxor hcw
      generalize adl (xs.set p y) = A2 at *
      generalize adl xs = A1 at *
      go_wp2_with (first | (go_at_call 13; refine (HP.out _).mono ?_; rintro e _ ⟨rfl, rfl⟩) | (go_at_call 6; (first | with_reducible refine HS1.mono ?_ | with_reducible refine HS2.mono ?_); rintro e _ ⟨rfl, rfl⟩))
      go_ret
      exact ⟨rfl, hb3⟩
end Go.Proofs.Ytelddclhoojjmaa
