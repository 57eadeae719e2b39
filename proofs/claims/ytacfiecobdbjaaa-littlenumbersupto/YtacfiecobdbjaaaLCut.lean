import Derived.Test.YtacfiecobdbjaaaLWrap
namespace Go.Proofs.Ytacfiecobdbjaaa
open Go.RowKit

theorem Try.infoQ : (Try.prog.info? 27).map (fun i => (i.zero, i.size, i.bytes)) = some (some (.int .u64 0), 1, 8) := by kernel_rfl
def cuts (w : Nat) (xs : List Int) : List Int := xs.map fun x => x % 256 ^ w
theorem own_snocK {w1 : World} {B e : Nat} {k : IntKind} {v' : Value} {L M : List Int} {n : Nat} {x : Int} (hM : M = L ++ [x])
    (h : w1.ownsRow B e 1 v' (n + 1) (bk k L ++ [.int k x])) : w1.ownsRow B e 1 v' (n + 1) (bk k M) := by
  rw [hM, bk_append]; exact h

set_option maxRecDepth 100000 in
set_option maxHeartbeats 1000000 in
theorem cut_u8 (ao : Option Addr) (cap : Nat) (xs : List Int) (W : World) (hn : xs.length * 8 ≤ 140737488355328) (hwf : ∀ z ∈ xs, 0 ≤ z ∧ z < 18446744073709551616) (hr : ReadsK W .u64 ao xs W.heap.size) :
    Calls Try.prog 9 #[.int .i64 1, .slice ao xs.length cap] W fun e w' => ∃ v, e = .returned v ∧ w'.ownsRow W.heap.size 27 1 v xs.length (bk .u64 (cuts 1 xs)) ∧ Below W.heap.size W w' := by
  obtain ⟨i0, hi, hz0, hz1, hz2⟩ := info_parts Try.infoQ
  go_enter Try.func9, Try.ntmps9
  go_wp2
  go_loopw [5, 6] (fun v i wr => ∃ k : Nat, k ≤ xs.length ∧ i = .int .i64 k ∧ wr.ownsRow W.heap.size 27 1 v k (bk .u64 (cuts 1 (xs.take k))) ∧ Below W.heap.size W wr)
    (fun _ i _ => xs.length - (intOf i).toNat)
  case atStart => exact ⟨0, Nat.zero_le _, rfl, World.ownsRow_nil _ _ _ _, Below.refl _ _⟩
  case round =>
    obtain ⟨k, hk, rfl, hown, hb⟩ := hrel
    by_cases hlt : k < xs.length
    · obtain ⟨b, off, rfl, hbl, hc⟩ := (hr.below hb) (by omega)
      have hck := hc k hlt
      have hB := hb.size
      clear hc
      have hts := take_snoc xs k hlt
      have hxw := hwf _ (getD_mem hlt)
      generalize xs.getD k 0 = x at hck hts hxw
      obtain ⟨x0, x1⟩ := hxw
      have HS : Hid (cuts 1 (xs.take (k + 1)) = cuts 1 (xs.take k) ++ [x % 256]) := by simp [cuts, hts, Hid]
      clear hts hwf
      generalize cuts 1 (xs.take k) = PP at hown HS
      go_wp2_with (at_builtin; refine wpList_append_own _ rfl _ _ 25 rfl W.heap.size 27 i0 (.int .u64 0) 1 8 Try.underlying25 hi hz0 hz1 hz2 rfl (by decide) _ _ _ rfl (hown.alloc _) ⟨_, 0, none⟩ 1 1 [.int .u64 (x % 256)] rfl rfl ?c1 ?c2 ?c3 ?c4 ?c5 ?_)
      case c1 =>
        intro j u hj
        match j, hj with
        | 0, hj => simp at hj; subst hj; simp [Addr.add]
      case c2 => intro u hu; simp at hu; subst hu; rfl
      case c3 => unfold maxLen; omega
      case c4 => omega
      case c5 => simp; omega
      intro v' w1 hown' hgrow _
      have R1 := own_snocK HS.out hown'
      have R2 := grown_below hb hB hown hgrow
      clear hown' hgrow hown hck
      go_wp2
      go_roundw
      case rel => exact ⟨k + 1, by omega, by go_num, R1, R2⟩
      case measure => simp [intOf]; omega
    · obtain rfl : k = xs.length := by omega
      rw [List.take_length] at hown
      go_wp2
      go_ret
      exact ⟨_, rfl, hown, hb⟩

set_option maxRecDepth 100000 in
set_option maxHeartbeats 1000000 in
theorem cut_u16 (ao : Option Addr) (cap : Nat) (xs : List Int) (W : World) (hn : xs.length * 8 ≤ 140737488355328) (hwf : ∀ z ∈ xs, 0 ≤ z ∧ z < 18446744073709551616) (hr : ReadsK W .u64 ao xs W.heap.size) :
    Calls Try.prog 9 #[.int .i64 2, .slice ao xs.length cap] W fun e w' => ∃ v, e = .returned v ∧ w'.ownsRow W.heap.size 27 1 v xs.length (bk .u64 (cuts 2 xs)) ∧ Below W.heap.size W w' := by
  obtain ⟨i0, hi, hz0, hz1, hz2⟩ := info_parts Try.infoQ
  go_enter Try.func9, Try.ntmps9
  go_wp2
  go_loopw [5, 6] (fun v i wr => ∃ k : Nat, k ≤ xs.length ∧ i = .int .i64 k ∧ wr.ownsRow W.heap.size 27 1 v k (bk .u64 (cuts 2 (xs.take k))) ∧ Below W.heap.size W wr)
    (fun _ i _ => xs.length - (intOf i).toNat)
  case atStart => exact ⟨0, Nat.zero_le _, rfl, World.ownsRow_nil _ _ _ _, Below.refl _ _⟩
  case round =>
    obtain ⟨k, hk, rfl, hown, hb⟩ := hrel
    by_cases hlt : k < xs.length
    · obtain ⟨b, off, rfl, hbl, hc⟩ := (hr.below hb) (by omega)
      have hck := hc k hlt
      have hB := hb.size
      clear hc
      have hts := take_snoc xs k hlt
      have hxw := hwf _ (getD_mem hlt)
      generalize xs.getD k 0 = x at hck hts hxw
      obtain ⟨x0, x1⟩ := hxw
      have HS : Hid (cuts 2 (xs.take (k + 1)) = cuts 2 (xs.take k) ++ [x % 65536]) := by simp [cuts, hts, Hid]
      clear hts hwf
      generalize cuts 2 (xs.take k) = PP at hown HS
      go_wp2_with (at_builtin; refine wpList_append_own _ rfl _ _ 25 rfl W.heap.size 27 i0 (.int .u64 0) 1 8 Try.underlying25 hi hz0 hz1 hz2 rfl (by decide) _ _ _ rfl (hown.alloc _) ⟨_, 0, none⟩ 1 1 [.int .u64 (x % 65536)] rfl rfl ?c1 ?c2 ?c3 ?c4 ?c5 ?_)
      case c1 =>
        intro j u hj
        match j, hj with
        | 0, hj => simp at hj; subst hj; simp [Addr.add]
      case c2 => intro u hu; simp at hu; subst hu; rfl
      case c3 => unfold maxLen; omega
      case c4 => omega
      case c5 => simp; omega
      intro v' w1 hown' hgrow _
      have R1 := own_snocK HS.out hown'
      have R2 := grown_below hb hB hown hgrow
      clear hown' hgrow hown hck
      go_wp2
      go_roundw
      case rel => exact ⟨k + 1, by omega, by go_num, R1, R2⟩
      case measure => simp [intOf]; omega
    · obtain rfl : k = xs.length := by omega
      rw [List.take_length] at hown
      go_wp2
      go_ret
      exact ⟨_, rfl, hown, hb⟩

set_option maxRecDepth 100000 in
set_option maxHeartbeats 1000000 in
theorem cut_u32 (ao : Option Addr) (cap : Nat) (xs : List Int) (W : World) (hn : xs.length * 8 ≤ 140737488355328) (hwf : ∀ z ∈ xs, 0 ≤ z ∧ z < 18446744073709551616) (hr : ReadsK W .u64 ao xs W.heap.size) :
    Calls Try.prog 9 #[.int .i64 4, .slice ao xs.length cap] W fun e w' => ∃ v, e = .returned v ∧ w'.ownsRow W.heap.size 27 1 v xs.length (bk .u64 (cuts 4 xs)) ∧ Below W.heap.size W w' := by
  obtain ⟨i0, hi, hz0, hz1, hz2⟩ := info_parts Try.infoQ
  go_enter Try.func9, Try.ntmps9
  go_wp2
  go_loopw [5, 6] (fun v i wr => ∃ k : Nat, k ≤ xs.length ∧ i = .int .i64 k ∧ wr.ownsRow W.heap.size 27 1 v k (bk .u64 (cuts 4 (xs.take k))) ∧ Below W.heap.size W wr)
    (fun _ i _ => xs.length - (intOf i).toNat)
  case atStart => exact ⟨0, Nat.zero_le _, rfl, World.ownsRow_nil _ _ _ _, Below.refl _ _⟩
  case round =>
    obtain ⟨k, hk, rfl, hown, hb⟩ := hrel
    by_cases hlt : k < xs.length
    · obtain ⟨b, off, rfl, hbl, hc⟩ := (hr.below hb) (by omega)
      have hck := hc k hlt
      have hB := hb.size
      clear hc
      have hts := take_snoc xs k hlt
      have hxw := hwf _ (getD_mem hlt)
      generalize xs.getD k 0 = x at hck hts hxw
      obtain ⟨x0, x1⟩ := hxw
      have HS : Hid (cuts 4 (xs.take (k + 1)) = cuts 4 (xs.take k) ++ [x % 4294967296]) := by simp [cuts, hts, Hid]
      clear hts hwf
      generalize cuts 4 (xs.take k) = PP at hown HS
      go_wp2_with (at_builtin; refine wpList_append_own _ rfl _ _ 25 rfl W.heap.size 27 i0 (.int .u64 0) 1 8 Try.underlying25 hi hz0 hz1 hz2 rfl (by decide) _ _ _ rfl (hown.alloc _) ⟨_, 0, none⟩ 1 1 [.int .u64 (x % 4294967296)] rfl rfl ?c1 ?c2 ?c3 ?c4 ?c5 ?_)
      case c1 =>
        intro j u hj
        match j, hj with
        | 0, hj => simp at hj; subst hj; simp [Addr.add]
      case c2 => intro u hu; simp at hu; subst hu; rfl
      case c3 => unfold maxLen; omega
      case c4 => omega
      case c5 => simp; omega
      intro v' w1 hown' hgrow _
      have R1 := own_snocK HS.out hown'
      have R2 := grown_below hb hB hown hgrow
      clear hown' hgrow hown hck
      go_wp2
      go_roundw
      case rel => exact ⟨k + 1, by omega, by go_num, R1, R2⟩
      case measure => simp [intOf]; omega
    · obtain rfl : k = xs.length := by omega
      rw [List.take_length] at hown
      go_wp2
      go_ret
      exact ⟨_, rfl, hown, hb⟩

set_option maxRecDepth 100000 in
set_option maxHeartbeats 1000000 in
theorem cut_u64 (ao : Option Addr) (cap : Nat) (xs : List Int) (W : World) (hn : xs.length * 8 ≤ 140737488355328) (hwf : ∀ z ∈ xs, 0 ≤ z ∧ z < 18446744073709551616) (hr : ReadsK W .u64 ao xs W.heap.size) :
    Calls Try.prog 9 #[.int .i64 8, .slice ao xs.length cap] W fun e w' => ∃ v, e = .returned v ∧ w'.ownsRow W.heap.size 27 1 v xs.length (bk .u64 (cuts 8 xs)) ∧ Below W.heap.size W w' := by
  obtain ⟨i0, hi, hz0, hz1, hz2⟩ := info_parts Try.infoQ
  go_enter Try.func9, Try.ntmps9
  go_wp2
  go_loopw [5, 6] (fun v i wr => ∃ k : Nat, k ≤ xs.length ∧ i = .int .i64 k ∧ wr.ownsRow W.heap.size 27 1 v k (bk .u64 (cuts 8 (xs.take k))) ∧ Below W.heap.size W wr)
    (fun _ i _ => xs.length - (intOf i).toNat)
  case atStart => exact ⟨0, Nat.zero_le _, rfl, World.ownsRow_nil _ _ _ _, Below.refl _ _⟩
  case round =>
    obtain ⟨k, hk, rfl, hown, hb⟩ := hrel
    by_cases hlt : k < xs.length
    · obtain ⟨b, off, rfl, hbl, hc⟩ := (hr.below hb) (by omega)
      have hck := hc k hlt
      have hB := hb.size
      clear hc
      have hts := take_snoc xs k hlt
      have hxw := hwf _ (getD_mem hlt)
      generalize xs.getD k 0 = x at hck hts hxw
      obtain ⟨x0, x1⟩ := hxw
      have HS : Hid (cuts 8 (xs.take (k + 1)) = cuts 8 (xs.take k) ++ [x % 18446744073709551616]) := by simp [cuts, hts, Hid]
      clear hts hwf
      generalize cuts 8 (xs.take k) = PP at hown HS
      rw [show x % 18446744073709551616 = x by omega] at HS
      go_wp2_with (at_builtin; refine wpList_append_own _ rfl _ _ 25 rfl W.heap.size 27 i0 (.int .u64 0) 1 8 Try.underlying25 hi hz0 hz1 hz2 rfl (by decide) _ _ _ rfl (hown.alloc _) ⟨_, 0, none⟩ 1 1 [.int .u64 (x)] rfl rfl ?c1 ?c2 ?c3 ?c4 ?c5 ?_)
      case c1 =>
        intro j u hj
        match j, hj with
        | 0, hj => simp at hj; subst hj; simp [Addr.add]
      case c2 => intro u hu; simp at hu; subst hu; rfl
      case c3 => unfold maxLen; omega
      case c4 => omega
      case c5 => simp; omega
      intro v' w1 hown' hgrow _
      have R1 := own_snocK HS.out hown'
      have R2 := grown_below hb hB hown hgrow
      clear hown' hgrow hown hck
      go_wp2
      go_roundw
      case rel => exact ⟨k + 1, by omega, by go_num, R1, R2⟩
      case measure => simp [intOf]; omega
    · obtain rfl : k = xs.length := by omega
      rw [List.take_length] at hown
      go_wp2
      go_ret
      exact ⟨_, rfl, hown, hb⟩

theorem cut_any (w : Nat) (hw : w = 1 ∨ w = 2 ∨ w = 4 ∨ w = 8) (ao : Option Addr) (cap : Nat) (xs : List Int) (W : World) (hn : xs.length * 8 ≤ 140737488355328) (hwf : ∀ z ∈ xs, 0 ≤ z ∧ z < 18446744073709551616) (hr : ReadsK W .u64 ao xs W.heap.size) :
    Calls Try.prog 9 #[.int .i64 w, .slice ao xs.length cap] W fun e w' => ∃ v, e = .returned v ∧ w'.ownsRow W.heap.size 27 1 v xs.length (bk .u64 (cuts w xs)) ∧ Below W.heap.size W w' := by
  rcases hw with rfl | rfl | rfl | rfl
  · exact cut_u8 ao cap xs W hn hwf hr
  · exact cut_u16 ao cap xs W hn hwf hr
  · exact cut_u32 ao cap xs W hn hwf hr
  · exact cut_u64 ao cap xs W hn hwf hr
end Go.Proofs.Ytacfiecobdbjaaa
