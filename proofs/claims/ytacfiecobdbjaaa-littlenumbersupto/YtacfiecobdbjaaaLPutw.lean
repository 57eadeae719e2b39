import Derived.Test.YtacfiecobdbjaaaLAllw
namespace Go.Proofs.Ytacfiecobdbjaaa
open Go.RowKit

def ofv (xs : List Int) (i : Nat) : Int := if i < xs.length then xs.getD i 0 else 7919 * ((i : Int) + 1) * 1000003
theorem of_any (ao : Option Addr) (cap : Nat) (xs : List Int) (i : Nat) (W : World) (hn : xs.length ≤ 1048576) (hi : i ≤ 2097152) (hr : ReadsK W .u64 ao xs W.heap.size) :
    Calls Try.prog 26 #[.slice ao xs.length cap, .int .i64 i] W fun e w' => e = .returned (.int .u64 (ofv xs i)) ∧ w' = W := by
  by_cases hlt : i < xs.length
  · obtain ⟨b, off, rfl, hbl, hc⟩ := hr (by omega)
    have hck := hc i hlt
    have HV : Hid (ofv xs i = xs.getD i 0) := by unfold ofv; rw [if_pos hlt]; exact rfl
    generalize xs.getD i 0 = c at hck HV
    clear hc
    have hI : (i : Int) < (xs.length : Int) := by omega
    go_enter Try.func26, Try.ntmps26
    go_wp2
    go_ret
    exact ⟨by rw [HV.out]; rfl, rfl⟩
  · have HV : Hid (ofv xs i = 7919 * ((i : Int) + 1) * 1000003) := by unfold ofv; rw [if_neg hlt]; exact rfl
    have hI : ¬ (i : Int) < (xs.length : Int) := by omega
    go_enter Try.func26, Try.ntmps26
    go_wp2
    go_ret
    exact ⟨by rw [HV.out]; rfl, rfl⟩
theorem ofv_range (xs : List Int) (i : Nat) (hi : i ≤ 2097152) (h : ∀ x ∈ xs, 0 ≤ x ∧ x < 18446744073709551616) : 0 ≤ ofv xs i ∧ ofv xs i < 18446744073709551616 := by
  unfold ofv
  split
  · rename_i hlt
    exact h _ (getD_mem hlt)
  · omega
theorem wrap16 (x : Int) : IntKind.u16.wrap x = x % 65536 := by simp [IntKind.wrap, IntKind.bits, IntKind.signed]
def lws (m : Int) (xs : List Int) (k : Nat) : List Int := (List.range k).map fun i => ofv xs i % m
theorem lws_succ (m : Int) (xs : List Int) (k : Nat) : lws m xs (k + 1) = lws m xs k ++ [ofv xs k % m] := by simp [lws, List.range_succ]
theorem lws_len (m : Int) (xs : List Int) (k : Nat) : (lws m xs k).length = k := by simp [lws]
theorem lws_get (m : Int) (xs : List Int) (k i : Nat) (h : i < k) : (lws m xs k).getD i 0 = ofv xs i % m := by simp [lws, h]
theorem lws_self (m : Int) (xs : List Int) (k i : Nat) (h : i < k) (hi : i < xs.length) (hx : ∀ x ∈ xs, 0 ≤ x ∧ x < m) : (lws m xs k).getD i 0 = xs.getD i 0 := by
  rw [lws_get m xs k i h, ofv, if_pos hi]
  have := hx _ (getD_mem hi)
  exact Int.emod_eq_of_lt this.1 this.2

set_option maxRecDepth 100000 in
set_option maxHeartbeats 4000000 in
theorem putw_u8 (ao : Option Addr) (cap : Nat) (xs : List Int) (W : World) (hn : xs.length ≤ 1048576) (hwf : ∀ z ∈ xs, 0 ≤ z ∧ z < 256) (hr : ReadsK W .u64 ao xs W.heap.size) :
    Calls Try.prog 11 #[.int .i64 1, .slice ao xs.length cap] W fun e w' => ∃ v, e = .returned (.tuple #[v, .bool true]) ∧ w'.ownsRow W.heap.size 5 1 v (xs.length * 1) (bv (puts 1 xs xs.length)) ∧ Below W.heap.size W w' := by
  obtain ⟨i0, hi, hz0, hz1, hz2⟩ := info_parts Try.info_u8
  have hwq : ∀ z ∈ xs, 0 ≤ z ∧ z < 18446744073709551616 := fun z hz => by have := hwf z hz; omega
  go_enter Try.func11, Try.ntmps11
  go_wp2_with fail
  go_loopw [7, 8] (fun v i wr => ∃ k : Nat, k ≤ xs.length + 64 ∧ i = .int .i64 k ∧ wr.ownsRow W.heap.size 5 1 v k (bk .u8 (lws 256 xs k)) ∧ Below W.heap.size W wr)
    (fun _ i _ => xs.length + 64 - (intOf i).toNat)
  case atStart => exact ⟨0, Nat.zero_le _, rfl, World.ownsRow_nil _ _ _ _, Below.refl _ _⟩
  case round =>
    obtain ⟨k, hk, rfl, hown, hb⟩ := hrel
    have hB := hb.size
    by_cases hlt : k < xs.length + 64
    · have hof := of_any ao cap xs k wr hn (by omega) ((hr.below hb).mono hB)
      have hrg := ofv_range xs k (by omega) hwq
      have HS : Hid (lws 256 xs (k + 1) = lws 256 xs k ++ [ofv xs k % 256]) := lws_succ _ _ _
      have hltI : (k : Int) < (xs.length : Int) + 64 := by omega
      generalize ofv xs k = x at hof hrg HS
      generalize lws 256 xs k = PP at hown HS
      obtain ⟨x0, x1⟩ := hrg

      go_wp2_with (first | (go_at_call 26; with_reducible refine hof.mono ?_; rintro e wq ⟨rfl, hq⟩; subst wq) | (at_builtin; refine wpList_append_own _ rfl _ _ 26 rfl W.heap.size 5 i0 (.int .u8 0) 1 1 Try.underlying26 hi hz0 hz1 hz2 rfl (by decide) _ _ _ rfl (hown.alloc _) ⟨_, 0, none⟩ 1 1 [.int .u8 (x % 256)] rfl rfl ?c1 ?c2 ?c3 ?c4 ?c5 ?_))
      case c1 =>
        intro j u hj
        match j, hj with
        | 0, hj => simp at hj; subst hj; simp [Addr.add]
      case c2 => intro u hu; simp at hu; subst hu; rfl
      case c3 => unfold maxLen; omega
      case c4 => omega
      case c5 => simp; omega
      intro v' w2 hown' hgrow _
      have R1 := own_snocK HS.out hown'
      have R2 := grown_below hb hB hown hgrow
      clear hown' hgrow hown hof
      go_wp2_with fail
      go_roundw
      case rel => exact ⟨k + 1, by omega, by go_num, R1, R2⟩
      case measure => simp [intOf]; omega
    · obtain rfl : k = xs.length + 64 := by omega
      obtain ⟨g, cf, rfl, hcf⟩ := own_form hown (by omega)
      have hltI : ¬ ((xs.length + 64 : Nat) : Int) < (xs.length : Int) + 64 := by omega
      have hcfI : (xs.length : Int) ≤ (cf : Int) := by omega
      have hrl : ReadsK wr .u8 (some ⟨g, 0, none⟩) xs wr.heap.size := fun _ => ⟨g, 0, rfl, (hown.lt g rfl).2, fun j hj => by
        rw [Nat.zero_add, own_getK hown (by rw [lws_len]; omega), lws_self _ _ _ _ (by omega) hj hwf]⟩
      have hpu := put_u8 (some ⟨g, 0, none⟩) cf xs wr (by omega) hwf hrl
      clear hrl
      go_wp2_with fail
      with_reducible refine hpu.mono ?_
      rintro e w3 ⟨v, rfl, own3, hb3⟩
      have hownl := own_below hown hb3
      have hb13 := hb.trans (hb3.mono hB)
      have hz13 := hb13.size
      have own3' : w3.ownsRow W.heap.size 5 1 v _ _ := ⟨own3.1, own3.2.imp id (fun ⟨g, cap, cur, a, b, c⟩ => ⟨g, cap, cur, a, Nat.le_trans hB b, c⟩)⟩
      clear own3 hpu hown
      have HOL : Hid (∀ i, i < xs.length + 64 → w3.cell? ⟨g, i, none⟩ = some (.int .u8 (ofv xs i % 256))) := fun i hi => by
        rw [own_getK hownl (by rw [lws_len]; exact hi), lws_get _ _ _ _ hi]
      have HO3 : Hid (w3.ownsRow W.heap.size 5 1 v (xs.length * 1) (bv (puts 1 xs xs.length))) := own3'
      clear own3' hownl
      go_wp2_with fail
      go_loopw [10] (fun i wr => ∃ k m : Nat, k ≤ xs.length + 64 ∧ i = .int .i64 k ∧ wr = w3.drewN m)
        (fun i _ => xs.length + 64 - (intOf i).toNat)
      case atStart => exact ⟨0, 0, Nat.zero_le _, rfl, rfl⟩
      case round =>
        obtain ⟨k, m3, hk3, rfl, hw3⟩ := hrel
        by_cases hlt3 : k < xs.length + 64
        · have hck : wr.cell? ⟨g, k, none⟩ = some (.int .u8 (ofv xs k % 256)) := by rw [hw3]; exact HOL.out k hlt3
          have hof : ∀ q, Calls Try.prog 26 #[.slice ao xs.length cap, .int .i64 k] (wr.drewN q) fun e w' => e = .returned (.int .u64 (ofv xs k)) ∧ w' = wr.drewN q := fun q =>
            of_any ao cap xs k (wr.drewN q) hn (by omega) (by rw [hw3]; exact ((hr.below hb13).mono hz13))
          have HOF : Hid (∀ q, Calls Try.prog 26 #[.slice ao xs.length cap, .int .i64 k] (wr.drewN q) fun e w' => e = .returned (.int .u64 (ofv xs k)) ∧ w' = wr.drewN q) := hof
          have hrg := ofv_range xs k (by omega) hwq
          have hltI3 : (k : Int) < (xs.length : Int) + 64 := by omega
          have HW3 : Hid (wr = w3.drewN m3) := hw3
          clear hof hw3
          generalize ofv xs k = x at HOF hrg hck
          obtain ⟨x0, x1⟩ := hrg

          go_wp2_with fail
          go_quiet ((go_at_call 26; exact Calls.quiet_of_same (HOF.out _)))
          go_wp2_with fail
          go_roundw
          case rel => exact ⟨k + 1, _, by omega, by go_num, by rw [HW3.out, World.drewN_drewN]⟩
          case measure => simp [intOf]; omega
        · have hltI3 : ¬ (k : Int) < (xs.length : Int) + 64 := by omega
          have HW3 : Hid (wr = w3.drewN m3) := hw3
          clear hw3
          go_wp2_with fail
          go_ret2
          exact ⟨_, rfl, by rw [HW3.out]; have h := HO3.out; rw [Nat.mul_one] at h; exact h, by rw [HW3.out]; exact below_drewN hb13 _⟩

set_option maxRecDepth 100000 in
set_option maxHeartbeats 4000000 in
theorem putw_u16 (ao : Option Addr) (cap : Nat) (xs : List Int) (W : World) (hn : xs.length ≤ 1048576) (hwf : ∀ z ∈ xs, 0 ≤ z ∧ z < 65536) (hr : ReadsK W .u64 ao xs W.heap.size) :
    Calls Try.prog 11 #[.int .i64 2, .slice ao xs.length cap] W fun e w' => ∃ v, e = .returned (.tuple #[v, .bool true]) ∧ w'.ownsRow W.heap.size 5 1 v (xs.length * 2) (bv (puts 2 xs xs.length)) ∧ Below W.heap.size W w' := by
  obtain ⟨i0, hi, hz0, hz1, hz2⟩ := info_parts Try.info_u16
  have hwq : ∀ z ∈ xs, 0 ≤ z ∧ z < 18446744073709551616 := fun z hz => by have := hwf z hz; omega
  go_enter Try.func11, Try.ntmps11
  go_wp2_with fail
  go_loopw [11, 12] (fun v i wr => ∃ k : Nat, k ≤ xs.length + 64 ∧ i = .int .i64 k ∧ wr.ownsRow W.heap.size 55 1 v k (bk .u16 (lws 65536 xs k)) ∧ Below W.heap.size W wr)
    (fun _ i _ => xs.length + 64 - (intOf i).toNat)
  case atStart => exact ⟨0, Nat.zero_le _, rfl, World.ownsRow_nil _ _ _ _, Below.refl _ _⟩
  case round =>
    obtain ⟨k, hk, rfl, hown, hb⟩ := hrel
    have hB := hb.size
    by_cases hlt : k < xs.length + 64
    · have hof := of_any ao cap xs k wr hn (by omega) ((hr.below hb).mono hB)
      have hrg := ofv_range xs k (by omega) hwq
      have HS : Hid (lws 65536 xs (k + 1) = lws 65536 xs k ++ [ofv xs k % 65536]) := lws_succ _ _ _
      have hltI : (k : Int) < (xs.length : Int) + 64 := by omega
      generalize ofv xs k = x at hof hrg HS
      generalize lws 65536 xs k = PP at hown HS
      obtain ⟨x0, x1⟩ := hrg
      have hw16 := wrap16 x
      go_wp2_with (first | (go_at_call 26; with_reducible refine hof.mono ?_; rintro e wq ⟨rfl, hq⟩; subst wq) | (at_builtin; refine wpList_append_own _ rfl _ _ 62 rfl W.heap.size 55 i0 (.int .u16 0) 1 2 Try.underlying62 hi hz0 hz1 hz2 rfl (by decide) _ _ _ rfl (hown.alloc _) ⟨_, 0, none⟩ 1 1 [.int .u16 (x % 65536)] rfl rfl ?c1 ?c2 ?c3 ?c4 ?c5 ?_))
      case c1 =>
        intro j u hj
        match j, hj with
        | 0, hj => simp at hj; subst hj; simp [Addr.add]
      case c2 => intro u hu; simp at hu; subst hu; rfl
      case c3 => unfold maxLen; omega
      case c4 => omega
      case c5 => simp; omega
      intro v' w2 hown' hgrow _
      have R1 := own_snocK HS.out hown'
      have R2 := grown_below hb hB hown hgrow
      clear hown' hgrow hown hof
      go_wp2_with fail
      go_roundw
      case rel => exact ⟨k + 1, by omega, by go_num, R1, R2⟩
      case measure => simp [intOf]; omega
    · obtain rfl : k = xs.length + 64 := by omega
      obtain ⟨g, cf, rfl, hcf⟩ := own_form hown (by omega)
      have hltI : ¬ ((xs.length + 64 : Nat) : Int) < (xs.length : Int) + 64 := by omega
      have hcfI : (xs.length : Int) ≤ (cf : Int) := by omega
      have hrl : ReadsK wr .u16 (some ⟨g, 0, none⟩) xs wr.heap.size := fun _ => ⟨g, 0, rfl, (hown.lt g rfl).2, fun j hj => by
        rw [Nat.zero_add, own_getK hown (by rw [lws_len]; omega), lws_self _ _ _ _ (by omega) hj hwf]⟩
      have hpu := put_u16 (some ⟨g, 0, none⟩) cf xs wr (by omega) hwf hrl
      clear hrl
      go_wp2_with fail
      with_reducible refine hpu.mono ?_
      rintro e w3 ⟨v, rfl, own3, hb3⟩
      have hownl := own_below hown hb3
      have hb13 := hb.trans (hb3.mono hB)
      have hz13 := hb13.size
      have own3' : w3.ownsRow W.heap.size 5 1 v _ _ := ⟨own3.1, own3.2.imp id (fun ⟨g, cap, cur, a, b, c⟩ => ⟨g, cap, cur, a, Nat.le_trans hB b, c⟩)⟩
      clear own3 hpu hown
      have HOL : Hid (∀ i, i < xs.length + 64 → w3.cell? ⟨g, i, none⟩ = some (.int .u16 (ofv xs i % 65536))) := fun i hi => by
        rw [own_getK hownl (by rw [lws_len]; exact hi), lws_get _ _ _ _ hi]
      have HO3 : Hid (w3.ownsRow W.heap.size 5 1 v (xs.length * 2) (bv (puts 2 xs xs.length))) := own3'
      clear own3' hownl
      go_wp2_with fail
      go_loopw [14] (fun i wr => ∃ k m : Nat, k ≤ xs.length + 64 ∧ i = .int .i64 k ∧ wr = w3.drewN m)
        (fun i _ => xs.length + 64 - (intOf i).toNat)
      case atStart => exact ⟨0, 0, Nat.zero_le _, rfl, rfl⟩
      case round =>
        obtain ⟨k, m3, hk3, rfl, hw3⟩ := hrel
        by_cases hlt3 : k < xs.length + 64
        · have hck : wr.cell? ⟨g, k, none⟩ = some (.int .u16 (ofv xs k % 65536)) := by rw [hw3]; exact HOL.out k hlt3
          have hof : ∀ q, Calls Try.prog 26 #[.slice ao xs.length cap, .int .i64 k] (wr.drewN q) fun e w' => e = .returned (.int .u64 (ofv xs k)) ∧ w' = wr.drewN q := fun q =>
            of_any ao cap xs k (wr.drewN q) hn (by omega) (by rw [hw3]; exact ((hr.below hb13).mono hz13))
          have HOF : Hid (∀ q, Calls Try.prog 26 #[.slice ao xs.length cap, .int .i64 k] (wr.drewN q) fun e w' => e = .returned (.int .u64 (ofv xs k)) ∧ w' = wr.drewN q) := hof
          have hrg := ofv_range xs k (by omega) hwq
          have hltI3 : (k : Int) < (xs.length : Int) + 64 := by omega
          have HW3 : Hid (wr = w3.drewN m3) := hw3
          clear hof hw3
          generalize ofv xs k = x at HOF hrg hck
          obtain ⟨x0, x1⟩ := hrg
          have hw16 := wrap16 x
          go_wp2_with fail
          go_quiet ((go_at_call 26; exact Calls.quiet_of_same (HOF.out _)))
          go_wp2_with fail
          go_roundw
          case rel => exact ⟨k + 1, _, by omega, by go_num, by rw [HW3.out, World.drewN_drewN]⟩
          case measure => simp [intOf]; omega
        · have hltI3 : ¬ (k : Int) < (xs.length : Int) + 64 := by omega
          have HW3 : Hid (wr = w3.drewN m3) := hw3
          clear hw3
          go_wp2_with fail
          go_ret2
          exact ⟨_, rfl, by rw [HW3.out]; exact HO3.out, by rw [HW3.out]; exact below_drewN hb13 _⟩

set_option maxRecDepth 100000 in
set_option maxHeartbeats 4000000 in
theorem putw_u32 (ao : Option Addr) (cap : Nat) (xs : List Int) (W : World) (hn : xs.length ≤ 1048576) (hwf : ∀ z ∈ xs, 0 ≤ z ∧ z < 4294967296) (hr : ReadsK W .u64 ao xs W.heap.size) :
    Calls Try.prog 11 #[.int .i64 4, .slice ao xs.length cap] W fun e w' => ∃ v, e = .returned (.tuple #[v, .bool true]) ∧ w'.ownsRow W.heap.size 5 1 v (xs.length * 4) (bv (puts 4 xs xs.length)) ∧ Below W.heap.size W w' := by
  obtain ⟨i0, hi, hz0, hz1, hz2⟩ := info_parts Try.info_u32
  have hwq : ∀ z ∈ xs, 0 ≤ z ∧ z < 18446744073709551616 := fun z hz => by have := hwf z hz; omega
  go_enter Try.func11, Try.ntmps11
  go_wp2_with fail
  go_loopw [15, 16] (fun v i wr => ∃ k : Nat, k ≤ xs.length + 64 ∧ i = .int .i64 k ∧ wr.ownsRow W.heap.size 56 1 v k (bk .u32 (lws 4294967296 xs k)) ∧ Below W.heap.size W wr)
    (fun _ i _ => xs.length + 64 - (intOf i).toNat)
  case atStart => exact ⟨0, Nat.zero_le _, rfl, World.ownsRow_nil _ _ _ _, Below.refl _ _⟩
  case round =>
    obtain ⟨k, hk, rfl, hown, hb⟩ := hrel
    have hB := hb.size
    by_cases hlt : k < xs.length + 64
    · have hof := of_any ao cap xs k wr hn (by omega) ((hr.below hb).mono hB)
      have hrg := ofv_range xs k (by omega) hwq
      have HS : Hid (lws 4294967296 xs (k + 1) = lws 4294967296 xs k ++ [ofv xs k % 4294967296]) := lws_succ _ _ _
      have hltI : (k : Int) < (xs.length : Int) + 64 := by omega
      generalize ofv xs k = x at hof hrg HS
      generalize lws 4294967296 xs k = PP at hown HS
      obtain ⟨x0, x1⟩ := hrg

      go_wp2_with (first | (go_at_call 26; with_reducible refine hof.mono ?_; rintro e wq ⟨rfl, hq⟩; subst wq) | (at_builtin; refine wpList_append_own _ rfl _ _ 63 rfl W.heap.size 56 i0 (.int .u32 0) 1 4 Try.underlying63 hi hz0 hz1 hz2 rfl (by decide) _ _ _ rfl (hown.alloc _) ⟨_, 0, none⟩ 1 1 [.int .u32 (x % 4294967296)] rfl rfl ?c1 ?c2 ?c3 ?c4 ?c5 ?_))
      case c1 =>
        intro j u hj
        match j, hj with
        | 0, hj => simp at hj; subst hj; simp [Addr.add]
      case c2 => intro u hu; simp at hu; subst hu; rfl
      case c3 => unfold maxLen; omega
      case c4 => omega
      case c5 => simp; omega
      intro v' w2 hown' hgrow _
      have R1 := own_snocK HS.out hown'
      have R2 := grown_below hb hB hown hgrow
      clear hown' hgrow hown hof
      go_wp2_with fail
      go_roundw
      case rel => exact ⟨k + 1, by omega, by go_num, R1, R2⟩
      case measure => simp [intOf]; omega
    · obtain rfl : k = xs.length + 64 := by omega
      obtain ⟨g, cf, rfl, hcf⟩ := own_form hown (by omega)
      have hltI : ¬ ((xs.length + 64 : Nat) : Int) < (xs.length : Int) + 64 := by omega
      have hcfI : (xs.length : Int) ≤ (cf : Int) := by omega
      have hrl : ReadsK wr .u32 (some ⟨g, 0, none⟩) xs wr.heap.size := fun _ => ⟨g, 0, rfl, (hown.lt g rfl).2, fun j hj => by
        rw [Nat.zero_add, own_getK hown (by rw [lws_len]; omega), lws_self _ _ _ _ (by omega) hj hwf]⟩
      have hpu := put_u32 (some ⟨g, 0, none⟩) cf xs wr (by omega) hwf hrl
      clear hrl
      go_wp2_with fail
      with_reducible refine hpu.mono ?_
      rintro e w3 ⟨v, rfl, own3, hb3⟩
      have hownl := own_below hown hb3
      have hb13 := hb.trans (hb3.mono hB)
      have hz13 := hb13.size
      have own3' : w3.ownsRow W.heap.size 5 1 v _ _ := ⟨own3.1, own3.2.imp id (fun ⟨g, cap, cur, a, b, c⟩ => ⟨g, cap, cur, a, Nat.le_trans hB b, c⟩)⟩
      clear own3 hpu hown
      have HOL : Hid (∀ i, i < xs.length + 64 → w3.cell? ⟨g, i, none⟩ = some (.int .u32 (ofv xs i % 4294967296))) := fun i hi => by
        rw [own_getK hownl (by rw [lws_len]; exact hi), lws_get _ _ _ _ hi]
      have HO3 : Hid (w3.ownsRow W.heap.size 5 1 v (xs.length * 4) (bv (puts 4 xs xs.length))) := own3'
      clear own3' hownl
      go_wp2_with fail
      go_loopw [18] (fun i wr => ∃ k m : Nat, k ≤ xs.length + 64 ∧ i = .int .i64 k ∧ wr = w3.drewN m)
        (fun i _ => xs.length + 64 - (intOf i).toNat)
      case atStart => exact ⟨0, 0, Nat.zero_le _, rfl, rfl⟩
      case round =>
        obtain ⟨k, m3, hk3, rfl, hw3⟩ := hrel
        by_cases hlt3 : k < xs.length + 64
        · have hck : wr.cell? ⟨g, k, none⟩ = some (.int .u32 (ofv xs k % 4294967296)) := by rw [hw3]; exact HOL.out k hlt3
          have hof : ∀ q, Calls Try.prog 26 #[.slice ao xs.length cap, .int .i64 k] (wr.drewN q) fun e w' => e = .returned (.int .u64 (ofv xs k)) ∧ w' = wr.drewN q := fun q =>
            of_any ao cap xs k (wr.drewN q) hn (by omega) (by rw [hw3]; exact ((hr.below hb13).mono hz13))
          have HOF : Hid (∀ q, Calls Try.prog 26 #[.slice ao xs.length cap, .int .i64 k] (wr.drewN q) fun e w' => e = .returned (.int .u64 (ofv xs k)) ∧ w' = wr.drewN q) := hof
          have hrg := ofv_range xs k (by omega) hwq
          have hltI3 : (k : Int) < (xs.length : Int) + 64 := by omega
          have HW3 : Hid (wr = w3.drewN m3) := hw3
          clear hof hw3
          generalize ofv xs k = x at HOF hrg hck
          obtain ⟨x0, x1⟩ := hrg

          go_wp2_with fail
          go_quiet ((go_at_call 26; exact Calls.quiet_of_same (HOF.out _)))
          go_wp2_with fail
          go_roundw
          case rel => exact ⟨k + 1, _, by omega, by go_num, by rw [HW3.out, World.drewN_drewN]⟩
          case measure => simp [intOf]; omega
        · have hltI3 : ¬ (k : Int) < (xs.length : Int) + 64 := by omega
          have HW3 : Hid (wr = w3.drewN m3) := hw3
          clear hw3
          go_wp2_with fail
          go_ret2
          exact ⟨_, rfl, by rw [HW3.out]; exact HO3.out, by rw [HW3.out]; exact below_drewN hb13 _⟩

set_option maxRecDepth 100000 in
set_option maxHeartbeats 4000000 in
theorem putw_u64 (ao : Option Addr) (cap : Nat) (xs : List Int) (W : World) (hn : xs.length ≤ 1048576) (hwf : ∀ z ∈ xs, 0 ≤ z ∧ z < 18446744073709551616) (hr : ReadsK W .u64 ao xs W.heap.size) :
    Calls Try.prog 11 #[.int .i64 8, .slice ao xs.length cap] W fun e w' => ∃ v, e = .returned (.tuple #[v, .bool true]) ∧ w'.ownsRow W.heap.size 5 1 v (xs.length * 8) (bv (puts 8 xs xs.length)) ∧ Below W.heap.size W w' := by
  obtain ⟨i0, hi, hz0, hz1, hz2⟩ := info_parts Try.info_u64
  have hwq : ∀ z ∈ xs, 0 ≤ z ∧ z < 18446744073709551616 := fun z hz => by have := hwf z hz; omega
  go_enter Try.func11, Try.ntmps11
  go_wp2_with fail
  go_loopw [19, 20] (fun v i wr => ∃ k : Nat, k ≤ xs.length + 64 ∧ i = .int .i64 k ∧ wr.ownsRow W.heap.size 27 1 v k (bk .u64 (lws 18446744073709551616 xs k)) ∧ Below W.heap.size W wr)
    (fun _ i _ => xs.length + 64 - (intOf i).toNat)
  case atStart => exact ⟨0, Nat.zero_le _, rfl, World.ownsRow_nil _ _ _ _, Below.refl _ _⟩
  case round =>
    obtain ⟨k, hk, rfl, hown, hb⟩ := hrel
    have hB := hb.size
    by_cases hlt : k < xs.length + 64
    · have hof := of_any ao cap xs k wr hn (by omega) ((hr.below hb).mono hB)
      have hrg := ofv_range xs k (by omega) hwq
      have HS : Hid (lws 18446744073709551616 xs (k + 1) = lws 18446744073709551616 xs k ++ [ofv xs k % 18446744073709551616]) := lws_succ _ _ _
      rw [show ofv xs k % 18446744073709551616 = ofv xs k by omega] at HS
      have hltI : (k : Int) < (xs.length : Int) + 64 := by omega
      generalize ofv xs k = x at hof hrg HS
      generalize lws 18446744073709551616 xs k = PP at hown HS
      obtain ⟨x0, x1⟩ := hrg

      go_wp2_with (first | (go_at_call 26; with_reducible refine hof.mono ?_; rintro e wq ⟨rfl, hq⟩; subst wq) | (at_builtin; refine wpList_append_own _ rfl _ _ 25 rfl W.heap.size 27 i0 (.int .u64 0) 1 8 Try.underlying25 hi hz0 hz1 hz2 rfl (by decide) _ _ _ rfl (hown.alloc _) ⟨_, 0, none⟩ 1 1 [.int .u64 (x)] rfl rfl ?c1 ?c2 ?c3 ?c4 ?c5 ?_))
      case c1 =>
        intro j u hj
        match j, hj with
        | 0, hj => simp at hj; subst hj; simp [Addr.add]
      case c2 => intro u hu; simp at hu; subst hu; rfl
      case c3 => unfold maxLen; omega
      case c4 => omega
      case c5 => simp; omega
      intro v' w2 hown' hgrow _
      have R1 := own_snocK HS.out hown'
      have R2 := grown_below hb hB hown hgrow
      clear hown' hgrow hown hof
      go_wp2_with fail
      go_roundw
      case rel => exact ⟨k + 1, by omega, by go_num, R1, R2⟩
      case measure => simp [intOf]; omega
    · obtain rfl : k = xs.length + 64 := by omega
      obtain ⟨g, cf, rfl, hcf⟩ := own_form hown (by omega)
      have hltI : ¬ ((xs.length + 64 : Nat) : Int) < (xs.length : Int) + 64 := by omega
      have hcfI : (xs.length : Int) ≤ (cf : Int) := by omega
      have hrl : ReadsK wr .u64 (some ⟨g, 0, none⟩) xs wr.heap.size := fun _ => ⟨g, 0, rfl, (hown.lt g rfl).2, fun j hj => by
        rw [Nat.zero_add, own_getK hown (by rw [lws_len]; omega), lws_self _ _ _ _ (by omega) hj hwf]⟩
      have hpu := put_u64 (some ⟨g, 0, none⟩) cf xs wr (by omega) hwf hrl
      clear hrl
      go_wp2_with fail
      with_reducible refine hpu.mono ?_
      rintro e w3 ⟨v, rfl, own3, hb3⟩
      have hownl := own_below hown hb3
      have hb13 := hb.trans (hb3.mono hB)
      have hz13 := hb13.size
      have own3' : w3.ownsRow W.heap.size 5 1 v _ _ := ⟨own3.1, own3.2.imp id (fun ⟨g, cap, cur, a, b, c⟩ => ⟨g, cap, cur, a, Nat.le_trans hB b, c⟩)⟩
      clear own3 hpu hown
      have HOL : Hid (∀ i, i < xs.length + 64 → w3.cell? ⟨g, i, none⟩ = some (.int .u64 (ofv xs i % 18446744073709551616))) := fun i hi => by
        rw [own_getK hownl (by rw [lws_len]; exact hi), lws_get _ _ _ _ hi]
      have HO3 : Hid (w3.ownsRow W.heap.size 5 1 v (xs.length * 8) (bv (puts 8 xs xs.length))) := own3'
      clear own3' hownl
      go_wp2_with fail
      go_loopw [22] (fun i wr => ∃ k m : Nat, k ≤ xs.length + 64 ∧ i = .int .i64 k ∧ wr = w3.drewN m)
        (fun i _ => xs.length + 64 - (intOf i).toNat)
      case atStart => exact ⟨0, 0, Nat.zero_le _, rfl, rfl⟩
      case round =>
        obtain ⟨k, m3, hk3, rfl, hw3⟩ := hrel
        by_cases hlt3 : k < xs.length + 64
        · have hck : wr.cell? ⟨g, k, none⟩ = some (.int .u64 (ofv xs k % 18446744073709551616)) := by rw [hw3]; exact HOL.out k hlt3
          have hof : ∀ q, Calls Try.prog 26 #[.slice ao xs.length cap, .int .i64 k] (wr.drewN q) fun e w' => e = .returned (.int .u64 (ofv xs k)) ∧ w' = wr.drewN q := fun q =>
            of_any ao cap xs k (wr.drewN q) hn (by omega) (by rw [hw3]; exact ((hr.below hb13).mono hz13))
          have HOF : Hid (∀ q, Calls Try.prog 26 #[.slice ao xs.length cap, .int .i64 k] (wr.drewN q) fun e w' => e = .returned (.int .u64 (ofv xs k)) ∧ w' = wr.drewN q) := hof
          have hrg := ofv_range xs k (by omega) hwq
          rw [show ofv xs k % 18446744073709551616 = ofv xs k by omega] at hck
          have hltI3 : (k : Int) < (xs.length : Int) + 64 := by omega
          have HW3 : Hid (wr = w3.drewN m3) := hw3
          clear hof hw3
          generalize ofv xs k = x at HOF hrg hck
          obtain ⟨x0, x1⟩ := hrg

          go_wp2_with fail
          go_quiet ((go_at_call 26; exact Calls.quiet_of_same (HOF.out _)))
          go_wp2_with fail
          go_roundw
          case rel => exact ⟨k + 1, _, by omega, by go_num, by rw [HW3.out, World.drewN_drewN]⟩
          case measure => simp [intOf]; omega
        · have hltI3 : ¬ (k : Int) < (xs.length : Int) + 64 := by omega
          have HW3 : Hid (wr = w3.drewN m3) := hw3
          clear hw3
          go_wp2_with fail
          go_ret2
          exact ⟨_, rfl, by rw [HW3.out]; exact HO3.out, by rw [HW3.out]; exact below_drewN hb13 _⟩
end Go.Proofs.Ytacfiecobdbjaaa
