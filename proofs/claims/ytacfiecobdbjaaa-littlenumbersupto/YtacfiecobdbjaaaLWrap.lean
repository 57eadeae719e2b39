import Derived.Test.YtacfiecobdbjaaaLLives
import Derived.Test.YtacfiecobdbjaaaLWd8
import Derived.Test.YtacfiecobdbjaaaLWd64
namespace Go.Proofs.Ytacfiecobdbjaaa
open Go.RowKit

def wd (w : Int) : Nat := if w = 1 then 1 else if w = 2 then 2 else if w = 4 then 4 else 8
theorem wd_cases (w : Int) : wd w = 1 ∨ wd w = 2 ∨ wd w = 4 ∨ wd w = 8 := by
  unfold wd
  by_cases h1 : w = 1
  · simp [h1]
  by_cases h2 : w = 2
  · simp [h2]
  by_cases h4 : w = 4
  · simp [h4]
  · simp [h1, h2, h4]
set_option maxHeartbeats 400000 in
theorem width_any (w : Int) (W : World) : Calls Try.prog 7 #[.int .i64 w] W fun e w' => e = .returned (.int .i64 (wd w)) ∧ w' = W := by
  by_cases h1 : w = 1
  · subst h1
    go_enter Try.func7, Try.ntmps7
    go_wp2
    go_ret
    exact ⟨rfl, rfl⟩
  have d1 : (w == 1) = false := by simpa using h1
  by_cases h2 : w = 2
  · subst h2
    go_enter Try.func7, Try.ntmps7
    go_wp2
    go_ret
    exact ⟨rfl, rfl⟩
  have d2 : (w == 2) = false := by simpa using h2
  by_cases h4 : w = 4
  · subst h4
    go_enter Try.func7, Try.ntmps7
    go_wp2
    go_ret
    exact ⟨rfl, rfl⟩
  have d4 : (w == 4) = false := by simpa using h4
  have HE : Hid (wd w = 8) := by unfold wd; rw [if_neg h1, if_neg h2, if_neg h4]; exact rfl
  go_enter Try.func7, Try.ntmps7
  go_wp2
  go_ret
  exact ⟨by rw [HE.out]; rfl, rfl⟩

set_option maxRecDepth 100000 in
set_option maxHeartbeats 400000 in
theorem at1_u8 (ao : Option Addr) (cap : Nat) (zs : List Int) (at_ : Int) (W : World) (hn : zs.length ≤ 140737488355328) (hcp : zs.length ≤ cap) (hwf : ∀ z ∈ zs, 0 ≤ z ∧ z ≤ 255) (hr : Reads W ao zs W.heap.size) (t0 : -9223372036854775808 ≤ at_) (t1 : at_ ≤ 9223372036854775807) :
    Calls Try.prog 22 #[.int .i64 1, .slice ao zs.length cap, .int .i64 at_] W fun e w' => e = .returned (.tuple #[.int .u64 (atv 1 zs at_), .int .i64 (ate 1 zs.length at_)]) ∧ w' = W := by
  have ha := at_u8 ao cap zs at_ W hn hcp hwf hr t0 t1
  have hrg := atv_range 1 zs at_ hwf
  rw [show (256 : Int) ^ 1 = 256 from rfl] at hrg
  generalize atv 1 zs at_ = v at ha hrg ⊢
  generalize ate 1 zs.length at_ = v2 at ha ⊢
  obtain ⟨h0, h1⟩ := hrg
  go_enter Try.func22, Try.ntmps22
  go_wp2_with (go_at_call 41; refine ha.mono ?_; rintro e wq ⟨rfl, hq⟩; subst wq)
  go_ret2
  exact ⟨rfl, rfl⟩
set_option maxRecDepth 100000 in
set_option maxHeartbeats 400000 in
theorem wi_u8 (ao : Option Addr) (cap : Nat) (zs : List Int) (at_ x : Int) (W : World) (hn : zs.length ≤ 140737488355328) (hr : Reads W ao zs W.heap.size) (t0 : -9223372036854775808 ≤ at_) (t1 : at_ ≤ 9223372036854775807) (_ : 0 ≤ x) (_ : x < 18446744073709551616) (hin : 0 ≤ at_ ∧ at_ + 1 ≤ (zs.length : Int)) :
    Calls Try.prog 15 #[.int .i64 1, .slice ao zs.length cap, .int .i64 at_, .int .u64 x] W fun e w' => ∃ v, e = .returned (.tuple #[v, .int .i64 0]) ∧ w'.ownsRow W.heap.size 5 1 v zs.length (bv (wth 1 zs at_.toNat (x % 256))) ∧ Below W.heap.size W w' := by
  have ha := with_u8 ao cap zs at_ (x % 256) W hn hr t0 t1 (by omega) (by omega) hin
  clear hin
  go_enter Try.func15, Try.ntmps15
  go_wp2_with (go_at_call 32; refine ha.mono ?_; rintro e w2 ⟨v, rfl, own2, hb2⟩)
  go_ret2
  exact ⟨_, rfl, own2, hb2⟩
theorem wiE_u8 (ao : Option Addr) (n cap : Nat) (at_ x : Int) (W : World) (hn : n ≤ 140737488355328) (t0 : -9223372036854775808 ≤ at_) (t1 : at_ ≤ 9223372036854775807) (_ : 0 ≤ x) (_ : x < 18446744073709551616) (hin : ¬ (0 ≤ at_ ∧ at_ + 1 ≤ (n : Int))) :
    Calls Try.prog 15 #[.int .i64 1, .slice ao n cap, .int .i64 at_, .int .u64 x] W fun e w' => e = .returned (.tuple #[.slice none 0 0, .int .i64 20]) ∧ w' = W := by
  have ha := withE_u8 ao n cap at_ (x % 256) W hn t0 t1 hin
  clear hin
  go_enter Try.func15, Try.ntmps15
  go_wp2_with (go_at_call 32; refine ha.mono ?_; rintro e w2 ⟨rfl, hq⟩; subst w2)
  go_ret2
  exact ⟨rfl, rfl⟩

set_option maxRecDepth 100000 in
set_option maxHeartbeats 400000 in
theorem at1_u16 (ao : Option Addr) (cap : Nat) (zs : List Int) (at_ : Int) (W : World) (hn : zs.length ≤ 140737488355328) (hcp : zs.length ≤ cap) (hwf : ∀ z ∈ zs, 0 ≤ z ∧ z ≤ 255) (hr : Reads W ao zs W.heap.size) (t0 : -9223372036854775808 ≤ at_) (t1 : at_ ≤ 9223372036854775807) :
    Calls Try.prog 22 #[.int .i64 2, .slice ao zs.length cap, .int .i64 at_] W fun e w' => e = .returned (.tuple #[.int .u64 (atv 2 zs at_), .int .i64 (ate 2 zs.length at_)]) ∧ w' = W := by
  have ha := at_u16 ao cap zs at_ W hn hcp hwf hr t0 t1
  have hrg := atv_range 2 zs at_ hwf
  rw [show (256 : Int) ^ 2 = 65536 from rfl] at hrg
  generalize atv 2 zs at_ = v at ha hrg ⊢
  generalize ate 2 zs.length at_ = v2 at ha ⊢
  obtain ⟨h0, h1⟩ := hrg
  go_enter Try.func22, Try.ntmps22
  go_wp2_with (go_at_call 42; refine ha.mono ?_; rintro e wq ⟨rfl, hq⟩; subst wq)
  go_ret2
  exact ⟨rfl, rfl⟩
set_option maxRecDepth 100000 in
set_option maxHeartbeats 400000 in
theorem wi_u16 (ao : Option Addr) (cap : Nat) (zs : List Int) (at_ x : Int) (W : World) (hn : zs.length ≤ 140737488355328) (hr : Reads W ao zs W.heap.size) (t0 : -9223372036854775808 ≤ at_) (t1 : at_ ≤ 9223372036854775807) (_ : 0 ≤ x) (_ : x < 18446744073709551616) (hin : 0 ≤ at_ ∧ at_ + 2 ≤ (zs.length : Int)) :
    Calls Try.prog 15 #[.int .i64 2, .slice ao zs.length cap, .int .i64 at_, .int .u64 x] W fun e w' => ∃ v, e = .returned (.tuple #[v, .int .i64 0]) ∧ w'.ownsRow W.heap.size 5 1 v zs.length (bv (wth 2 zs at_.toNat (x % 65536))) ∧ Below W.heap.size W w' := by
  have ha := with_u16 ao cap zs at_ (x % 65536) W hn hr t0 t1 (by omega) (by omega) hin
  clear hin
  go_enter Try.func15, Try.ntmps15
  go_wp2_with (go_at_call 33; refine ha.mono ?_; rintro e w2 ⟨v, rfl, own2, hb2⟩)
  go_ret2
  exact ⟨_, rfl, own2, hb2⟩
theorem wiE_u16 (ao : Option Addr) (n cap : Nat) (at_ x : Int) (W : World) (hn : n ≤ 140737488355328) (t0 : -9223372036854775808 ≤ at_) (t1 : at_ ≤ 9223372036854775807) (_ : 0 ≤ x) (_ : x < 18446744073709551616) (hin : ¬ (0 ≤ at_ ∧ at_ + 2 ≤ (n : Int))) :
    Calls Try.prog 15 #[.int .i64 2, .slice ao n cap, .int .i64 at_, .int .u64 x] W fun e w' => e = .returned (.tuple #[.slice none 0 0, .int .i64 20]) ∧ w' = W := by
  have ha := withE_u16 ao n cap at_ (x % 65536) W hn t0 t1 hin
  clear hin
  go_enter Try.func15, Try.ntmps15
  go_wp2_with (go_at_call 33; refine ha.mono ?_; rintro e w2 ⟨rfl, hq⟩; subst w2)
  go_ret2
  exact ⟨rfl, rfl⟩

set_option maxRecDepth 100000 in
set_option maxHeartbeats 400000 in
theorem at1_u32 (ao : Option Addr) (cap : Nat) (zs : List Int) (at_ : Int) (W : World) (hn : zs.length ≤ 140737488355328) (hcp : zs.length ≤ cap) (hwf : ∀ z ∈ zs, 0 ≤ z ∧ z ≤ 255) (hr : Reads W ao zs W.heap.size) (t0 : -9223372036854775808 ≤ at_) (t1 : at_ ≤ 9223372036854775807) :
    Calls Try.prog 22 #[.int .i64 4, .slice ao zs.length cap, .int .i64 at_] W fun e w' => e = .returned (.tuple #[.int .u64 (atv 4 zs at_), .int .i64 (ate 4 zs.length at_)]) ∧ w' = W := by
  have ha := at_u32 ao cap zs at_ W hn hcp hwf hr t0 t1
  have hrg := atv_range 4 zs at_ hwf
  rw [show (256 : Int) ^ 4 = 4294967296 from rfl] at hrg
  generalize atv 4 zs at_ = v at ha hrg ⊢
  generalize ate 4 zs.length at_ = v2 at ha ⊢
  obtain ⟨h0, h1⟩ := hrg
  go_enter Try.func22, Try.ntmps22
  go_wp2_with (go_at_call 24; refine ha.mono ?_; rintro e wq ⟨rfl, hq⟩; subst wq)
  go_ret2
  exact ⟨rfl, rfl⟩
set_option maxRecDepth 100000 in
set_option maxHeartbeats 400000 in
theorem wi_u32 (ao : Option Addr) (cap : Nat) (zs : List Int) (at_ x : Int) (W : World) (hn : zs.length ≤ 140737488355328) (hr : Reads W ao zs W.heap.size) (t0 : -9223372036854775808 ≤ at_) (t1 : at_ ≤ 9223372036854775807) (_ : 0 ≤ x) (_ : x < 18446744073709551616) (hin : 0 ≤ at_ ∧ at_ + 4 ≤ (zs.length : Int)) :
    Calls Try.prog 15 #[.int .i64 4, .slice ao zs.length cap, .int .i64 at_, .int .u64 x] W fun e w' => ∃ v, e = .returned (.tuple #[v, .int .i64 0]) ∧ w'.ownsRow W.heap.size 5 1 v zs.length (bv (wth 4 zs at_.toNat (x % 4294967296))) ∧ Below W.heap.size W w' := by
  have ha := with_u32 ao cap zs at_ (x % 4294967296) W hn hr t0 t1 (by omega) (by omega) hin
  clear hin
  go_enter Try.func15, Try.ntmps15
  go_wp2_with (go_at_call 34; refine ha.mono ?_; rintro e w2 ⟨v, rfl, own2, hb2⟩)
  go_ret2
  exact ⟨_, rfl, own2, hb2⟩
theorem wiE_u32 (ao : Option Addr) (n cap : Nat) (at_ x : Int) (W : World) (hn : n ≤ 140737488355328) (t0 : -9223372036854775808 ≤ at_) (t1 : at_ ≤ 9223372036854775807) (_ : 0 ≤ x) (_ : x < 18446744073709551616) (hin : ¬ (0 ≤ at_ ∧ at_ + 4 ≤ (n : Int))) :
    Calls Try.prog 15 #[.int .i64 4, .slice ao n cap, .int .i64 at_, .int .u64 x] W fun e w' => e = .returned (.tuple #[.slice none 0 0, .int .i64 20]) ∧ w' = W := by
  have ha := withE_u32 ao n cap at_ (x % 4294967296) W hn t0 t1 hin
  clear hin
  go_enter Try.func15, Try.ntmps15
  go_wp2_with (go_at_call 34; refine ha.mono ?_; rintro e w2 ⟨rfl, hq⟩; subst w2)
  go_ret2
  exact ⟨rfl, rfl⟩

set_option maxRecDepth 100000 in
set_option maxHeartbeats 400000 in
theorem at1_u64 (ao : Option Addr) (cap : Nat) (zs : List Int) (at_ : Int) (W : World) (hn : zs.length ≤ 140737488355328) (hcp : zs.length ≤ cap) (hwf : ∀ z ∈ zs, 0 ≤ z ∧ z ≤ 255) (hr : Reads W ao zs W.heap.size) (t0 : -9223372036854775808 ≤ at_) (t1 : at_ ≤ 9223372036854775807) :
    Calls Try.prog 22 #[.int .i64 8, .slice ao zs.length cap, .int .i64 at_] W fun e w' => e = .returned (.tuple #[.int .u64 (atv 8 zs at_), .int .i64 (ate 8 zs.length at_)]) ∧ w' = W := by
  have ha := at_u64 ao cap zs at_ W hn hcp hwf hr t0 t1
  have hrg := atv_range 8 zs at_ hwf
  rw [show (256 : Int) ^ 8 = 18446744073709551616 from rfl] at hrg
  generalize atv 8 zs at_ = v at ha hrg ⊢
  generalize ate 8 zs.length at_ = v2 at ha ⊢
  obtain ⟨h0, h1⟩ := hrg
  go_enter Try.func22, Try.ntmps22
  go_wp2_with (go_at_call 43; refine ha.mono ?_; rintro e wq ⟨rfl, hq⟩; subst wq)
  go_ret2
  exact ⟨rfl, rfl⟩
set_option maxRecDepth 100000 in
set_option maxHeartbeats 400000 in
theorem wi_u64 (ao : Option Addr) (cap : Nat) (zs : List Int) (at_ x : Int) (W : World) (hn : zs.length ≤ 140737488355328) (hr : Reads W ao zs W.heap.size) (t0 : -9223372036854775808 ≤ at_) (t1 : at_ ≤ 9223372036854775807) (_ : 0 ≤ x) (_ : x < 18446744073709551616) (hin : 0 ≤ at_ ∧ at_ + 8 ≤ (zs.length : Int)) :
    Calls Try.prog 15 #[.int .i64 8, .slice ao zs.length cap, .int .i64 at_, .int .u64 x] W fun e w' => ∃ v, e = .returned (.tuple #[v, .int .i64 0]) ∧ w'.ownsRow W.heap.size 5 1 v zs.length (bv (wth 8 zs at_.toNat (x % 18446744073709551616))) ∧ Below W.heap.size W w' := by
  have ha := with_u64 ao cap zs at_ (x % 18446744073709551616) W hn hr t0 t1 (by omega) (by omega) hin
  clear hin
  rw [show x % 18446744073709551616 = x by omega] at ha ⊢
  go_enter Try.func15, Try.ntmps15
  go_wp2_with (go_at_call 35; refine ha.mono ?_; rintro e w2 ⟨v, rfl, own2, hb2⟩)
  go_ret2
  exact ⟨_, rfl, own2, hb2⟩
theorem wiE_u64 (ao : Option Addr) (n cap : Nat) (at_ x : Int) (W : World) (hn : n ≤ 140737488355328) (t0 : -9223372036854775808 ≤ at_) (t1 : at_ ≤ 9223372036854775807) (_ : 0 ≤ x) (_ : x < 18446744073709551616) (hin : ¬ (0 ≤ at_ ∧ at_ + 8 ≤ (n : Int))) :
    Calls Try.prog 15 #[.int .i64 8, .slice ao n cap, .int .i64 at_, .int .u64 x] W fun e w' => e = .returned (.tuple #[.slice none 0 0, .int .i64 20]) ∧ w' = W := by
  have ha := withE_u64 ao n cap at_ (x % 18446744073709551616) W hn t0 t1 hin
  clear hin
  rw [show x % 18446744073709551616 = x by omega] at ha
  go_enter Try.func15, Try.ntmps15
  go_wp2_with (go_at_call 35; refine ha.mono ?_; rintro e w2 ⟨rfl, hq⟩; subst w2)
  go_ret2
  exact ⟨rfl, rfl⟩

theorem at1_any (w : Nat) (hw : w = 1 ∨ w = 2 ∨ w = 4 ∨ w = 8) (ao : Option Addr) (cap : Nat) (zs : List Int) (at_ : Int) (W : World) (hn : zs.length ≤ 140737488355328) (hcp : zs.length ≤ cap) (hwf : ∀ z ∈ zs, 0 ≤ z ∧ z ≤ 255) (hr : Reads W ao zs W.heap.size) (t0 : -9223372036854775808 ≤ at_) (t1 : at_ ≤ 9223372036854775807) :
    Calls Try.prog 22 #[.int .i64 w, .slice ao zs.length cap, .int .i64 at_] W fun e w' => e = .returned (.tuple #[.int .u64 (atv w zs at_), .int .i64 (ate w zs.length at_)]) ∧ w' = W := by
  rcases hw with rfl | rfl | rfl | rfl
  · exact at1_u8 ao cap zs at_ W hn hcp hwf hr t0 t1
  · exact at1_u16 ao cap zs at_ W hn hcp hwf hr t0 t1
  · exact at1_u32 ao cap zs at_ W hn hcp hwf hr t0 t1
  · exact at1_u64 ao cap zs at_ W hn hcp hwf hr t0 t1
theorem wi_any (w : Nat) (hw : w = 1 ∨ w = 2 ∨ w = 4 ∨ w = 8) (ao : Option Addr) (cap : Nat) (zs : List Int) (at_ x : Int) (W : World) (hn : zs.length ≤ 140737488355328) (hr : Reads W ao zs W.heap.size) (t0 : -9223372036854775808 ≤ at_) (t1 : at_ ≤ 9223372036854775807) (x0 : 0 ≤ x) (x1 : x < 18446744073709551616) (hin : 0 ≤ at_ ∧ at_ + w ≤ (zs.length : Int)) :
    Calls Try.prog 15 #[.int .i64 w, .slice ao zs.length cap, .int .i64 at_, .int .u64 x] W fun e w' => ∃ v, e = .returned (.tuple #[v, .int .i64 0]) ∧ w'.ownsRow W.heap.size 5 1 v zs.length (bv (wth w zs at_.toNat (x % 256 ^ w))) ∧ Below W.heap.size W w' := by
  rcases hw with rfl | rfl | rfl | rfl
  · exact wi_u8 ao cap zs at_ x W hn hr t0 t1 x0 x1 hin
  · exact wi_u16 ao cap zs at_ x W hn hr t0 t1 x0 x1 hin
  · exact wi_u32 ao cap zs at_ x W hn hr t0 t1 x0 x1 hin
  · exact wi_u64 ao cap zs at_ x W hn hr t0 t1 x0 x1 hin
theorem wiE_any (w : Nat) (hw : w = 1 ∨ w = 2 ∨ w = 4 ∨ w = 8) (ao : Option Addr) (n cap : Nat) (at_ x : Int) (W : World) (hn : n ≤ 140737488355328) (t0 : -9223372036854775808 ≤ at_) (t1 : at_ ≤ 9223372036854775807) (x0 : 0 ≤ x) (x1 : x < 18446744073709551616) (hin : ¬ (0 ≤ at_ ∧ at_ + w ≤ (n : Int))) :
    Calls Try.prog 15 #[.int .i64 w, .slice ao n cap, .int .i64 at_, .int .u64 x] W fun e w' => e = .returned (.tuple #[.slice none 0 0, .int .i64 20]) ∧ w' = W := by
  rcases hw with rfl | rfl | rfl | rfl
  · exact wiE_u8 ao n cap at_ x W hn t0 t1 x0 x1 hin
  · exact wiE_u16 ao n cap at_ x W hn t0 t1 x0 x1 hin
  · exact wiE_u32 ao n cap at_ x W hn t0 t1 x0 x1 hin
  · exact wiE_u64 ao n cap at_ x W hn t0 t1 x0 x1 hin
end Go.Proofs.Ytacfiecobdbjaaa
