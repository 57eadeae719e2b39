import Derived.Test.YtpndbbepfjocgaaRefEsc
import Derived.Test.YtpndbbepfjocgaaBCode
namespace Go.Proofs.Ytpndbbepfjocgaa
open Go.RowKit

def escB (s : ByteArray) (i : Nat) : List Int :=
  if (escV (sub s (i + 1))).2.2.2 = true then (if (escV (sub s (i + 1))).2.1 = true then [(escV (sub s (i + 1))).1] else codeL (escV (sub s (i + 1))).1) else []
theorem escB_of {s : ByteArray} {i : Nat} {x1 x3 : Int} {x2 : Bool} (h : escV (sub s (i + 1)) = (x1, x2, x3, true)) (h2 : x2 = true := by rfl) : escRef s i = (x1, i + x3, 0) ∧ escB s i = [x1] := by
  subst h2; exact ⟨escRef_of h, by rw [escB, h]; simp⟩
theorem escB_ofF {s : ByteArray} {i : Nat} {x1 x3 : Int} {x2 : Bool} (h : escV (sub s (i + 1)) = (x1, x2, x3, true)) (h2 : x2 = false := by rfl) : escRef s i = (x1, i + x3, 0) ∧ escB s i = codeL x1 := by
  subst h2; exact ⟨escRef_of h, by rw [escB, h]; simp⟩
theorem escB_no {s : ByteArray} {i : Nat} {x1 x3 : Int} {x2 : Bool} (h : escV (sub s (i + 1)) = (x1, x2, x3, false)) : escRef s i = (0, (i : Int), 12) ∧ escB s i = [] :=
  ⟨escRef_no h, by rw [escB, h]; simp⟩

set_option maxRecDepth 100000 in
set_option maxHeartbeats 2000000 in
theorem besc_e (s : ByteArray) (i : Nat) (w : World) (hs : s.size ≤ 140737488355328) (hi : i < s.size) (hz : s.size ≤ i + 1) :
    Calls Try.prog 60 #[.string s, .int .i64 i] w fun e w' => e = refR (escRef s i) (strOfNums (escB s i)) ∧ Below w.heap.size w w' := by
  have HE : Hid (escRef s i = (0, (i : Int), 12) ∧ escB s i = []) := escB_no (x1 := 0) (x2 := false) (x3 := 0) (by rw [escV, if_pos (by rw [sub_size]; omega)])
  have hzI : (s.size : Int) ≤ (i : Int) + 1 := by omega
  go_enter Try.func60, Try.ntmps60
  go_wp2
  refine bodyPost_ret (v := .tuple #[.string ⟨#[]⟩, .int .i32 0, .int .i64 i, .bool false, .int .i64 12]) (by simp [results, Try.f60, go_sem]) rfl ?_
  exact ⟨by rw [HE.out.1, HE.out.2]; rfl, Below.refl _ _⟩
set_option maxRecDepth 100000 in
set_option maxHeartbeats 2000000 in
theorem besc_39 (s : ByteArray) (i : Nat) (w : World) (hs : s.size ≤ 140737488355328) (hz : i + 1 < s.size) (hy : bt s (i + 1) = 39) :
    Calls Try.prog 60 #[.string s, .int .i64 i] w fun e w' => e = refR (escRef s i) (strOfNums (escB s i)) ∧ Below w.heap.size w w' := by
  have hyb : bt (sub s (i + 1)) 0 = bt s (i + 1) := by rw [bt_sub, Nat.add_zero]
  have hssz : (sub s (i + 1)).size ≠ 0 := by rw [sub_size]; omega
  have hzI : (i : Int) + 1 < (s.size : Int) := by omega
  have HE : Hid (escRef s i = (39, (i : Int) + 2, 0) ∧ escB s i = [39]) := escB_of (x2 := true) (by rw [escV, if_neg hssz, if_pos (by rw [hyb, hy])])
  clear hyb hssz
  rw [bt_eq s (i + 1) hz] at hy
  have hcv := conv1
  go_enter Try.func60, Try.ntmps60
  go_wp2
  refine bodyPost_ret (v := .tuple #[.string (strOfNums [39]), .int .i32 39, .int .i64 (i + 2), .bool false, .int .i64 0]) (by simp [results, Try.f60, go_sem]) rfl ?_
  exact ⟨by rw [HE.out.1, HE.out.2]; rfl, (Below.refl _ _).alloc (Nat.le_refl _) _⟩
set_option maxRecDepth 100000 in
set_option maxHeartbeats 2000000 in
theorem besc_110 (s : ByteArray) (i : Nat) (w : World) (hs : s.size ≤ 140737488355328) (hz : i + 1 < s.size) (hy : bt s (i + 1) = 110) :
    Calls Try.prog 60 #[.string s, .int .i64 i] w fun e w' => e = refR (escRef s i) (strOfNums (escB s i)) ∧ Below w.heap.size w w' := by
  have hyb : bt (sub s (i + 1)) 0 = bt s (i + 1) := by rw [bt_sub, Nat.add_zero]
  have hssz : (sub s (i + 1)).size ≠ 0 := by rw [sub_size]; omega
  have hzI : (i : Int) + 1 < (s.size : Int) := by omega
  have HE : Hid (escRef s i = (10, (i : Int) + 2, 0) ∧ escB s i = [10]) := escB_of (x2 := true) (by rw [escV, if_neg hssz, if_neg (by rw [hyb, hy]; simp), if_neg (by rw [hyb, hy]; simp), if_neg (by rw [hyb, hy]; simp), if_pos (by rw [hyb, hy])])
  clear hyb hssz
  rw [bt_eq s (i + 1) hz] at hy
  have hcv := conv1
  go_enter Try.func60, Try.ntmps60
  go_wp2
  refine bodyPost_ret (v := .tuple #[.string (strOfNums [10]), .int .i32 10, .int .i64 (i + 2), .bool false, .int .i64 0]) (by simp [results, Try.f60, go_sem]) rfl ?_
  exact ⟨by rw [HE.out.1, HE.out.2]; rfl, (Below.refl _ _).alloc (Nat.le_refl _) _⟩
set_option maxRecDepth 100000 in
set_option maxHeartbeats 2000000 in
theorem besc_116 (s : ByteArray) (i : Nat) (w : World) (hs : s.size ≤ 140737488355328) (hz : i + 1 < s.size) (hy : bt s (i + 1) = 116) :
    Calls Try.prog 60 #[.string s, .int .i64 i] w fun e w' => e = refR (escRef s i) (strOfNums (escB s i)) ∧ Below w.heap.size w w' := by
  have hyb : bt (sub s (i + 1)) 0 = bt s (i + 1) := by rw [bt_sub, Nat.add_zero]
  have hssz : (sub s (i + 1)).size ≠ 0 := by rw [sub_size]; omega
  have hzI : (i : Int) + 1 < (s.size : Int) := by omega
  have HE : Hid (escRef s i = (9, (i : Int) + 2, 0) ∧ escB s i = [9]) := escB_of (x2 := true) (by rw [escV, if_neg hssz, if_neg (by rw [hyb, hy]; simp), if_neg (by rw [hyb, hy]; simp), if_neg (by rw [hyb, hy]; simp), if_neg (by rw [hyb, hy]; simp), if_pos (by rw [hyb, hy])])
  clear hyb hssz
  rw [bt_eq s (i + 1) hz] at hy
  have hcv := conv1
  go_enter Try.func60, Try.ntmps60
  go_wp2
  refine bodyPost_ret (v := .tuple #[.string (strOfNums [9]), .int .i32 9, .int .i64 (i + 2), .bool false, .int .i64 0]) (by simp [results, Try.f60, go_sem]) rfl ?_
  exact ⟨by rw [HE.out.1, HE.out.2]; rfl, (Below.refl _ _).alloc (Nat.le_refl _) _⟩
set_option maxRecDepth 100000 in
set_option maxHeartbeats 2000000 in
theorem besc_114 (s : ByteArray) (i : Nat) (w : World) (hs : s.size ≤ 140737488355328) (hz : i + 1 < s.size) (hy : bt s (i + 1) = 114) :
    Calls Try.prog 60 #[.string s, .int .i64 i] w fun e w' => e = refR (escRef s i) (strOfNums (escB s i)) ∧ Below w.heap.size w w' := by
  have hyb : bt (sub s (i + 1)) 0 = bt s (i + 1) := by rw [bt_sub, Nat.add_zero]
  have hssz : (sub s (i + 1)).size ≠ 0 := by rw [sub_size]; omega
  have hzI : (i : Int) + 1 < (s.size : Int) := by omega
  have HE : Hid (escRef s i = (13, (i : Int) + 2, 0) ∧ escB s i = [13]) := escB_of (x2 := true) (by rw [escV, if_neg hssz, if_neg (by rw [hyb, hy]; simp), if_neg (by rw [hyb, hy]; simp), if_neg (by rw [hyb, hy]; simp), if_neg (by rw [hyb, hy]; simp), if_neg (by rw [hyb, hy]; simp), if_pos (by rw [hyb, hy])])
  clear hyb hssz
  rw [bt_eq s (i + 1) hz] at hy
  have hcv := conv1
  go_enter Try.func60, Try.ntmps60
  go_wp2
  refine bodyPost_ret (v := .tuple #[.string (strOfNums [13]), .int .i32 13, .int .i64 (i + 2), .bool false, .int .i64 0]) (by simp [results, Try.f60, go_sem]) rfl ?_
  exact ⟨by rw [HE.out.1, HE.out.2]; rfl, (Below.refl _ _).alloc (Nat.le_refl _) _⟩
set_option maxRecDepth 100000 in
set_option maxHeartbeats 2000000 in
theorem besc_48 (s : ByteArray) (i : Nat) (w : World) (hs : s.size ≤ 140737488355328) (hz : i + 1 < s.size) (hy : bt s (i + 1) = 48) :
    Calls Try.prog 60 #[.string s, .int .i64 i] w fun e w' => e = refR (escRef s i) (strOfNums (escB s i)) ∧ Below w.heap.size w w' := by
  have hyb : bt (sub s (i + 1)) 0 = bt s (i + 1) := by rw [bt_sub, Nat.add_zero]
  have hssz : (sub s (i + 1)).size ≠ 0 := by rw [sub_size]; omega
  have hzI : (i : Int) + 1 < (s.size : Int) := by omega
  have HE : Hid (escRef s i = (0, (i : Int) + 2, 0) ∧ escB s i = [0]) := escB_of (x2 := true) (by rw [escV, if_neg hssz, if_neg (by rw [hyb, hy]; simp), if_neg (by rw [hyb, hy]; simp), if_neg (by rw [hyb, hy]; simp), if_neg (by rw [hyb, hy]; simp), if_neg (by rw [hyb, hy]; simp), if_neg (by rw [hyb, hy]; simp), if_pos (by rw [hyb, hy])])
  clear hyb hssz
  rw [bt_eq s (i + 1) hz] at hy
  have hcv := conv1
  go_enter Try.func60, Try.ntmps60
  go_wp2
  refine bodyPost_ret (v := .tuple #[.string (strOfNums [0]), .int .i32 0, .int .i64 (i + 2), .bool false, .int .i64 0]) (by simp [results, Try.f60, go_sem]) rfl ?_
  exact ⟨by rw [HE.out.1, HE.out.2]; rfl, (Below.refl _ _).alloc (Nat.le_refl _) _⟩
set_option maxRecDepth 100000 in
set_option maxHeartbeats 2000000 in
theorem besc_34 (s : ByteArray) (i : Nat) (w : World) (hs : s.size ≤ 140737488355328) (hz : i + 1 < s.size) (hy : bt s (i + 1) = 34) :
    Calls Try.prog 60 #[.string s, .int .i64 i] w fun e w' => e = refR (escRef s i) (strOfNums (escB s i)) ∧ Below w.heap.size w w' := by
  have hyb : bt (sub s (i + 1)) 0 = bt s (i + 1) := by rw [bt_sub, Nat.add_zero]
  have hssz : (sub s (i + 1)).size ≠ 0 := by rw [sub_size]; omega
  have hzI : (i : Int) + 1 < (s.size : Int) := by omega
  have HE : Hid (escRef s i = (34, (i : Int) + 2, 0) ∧ escB s i = [34]) := escB_of (x2 := true) (by rw [escV, if_neg hssz, if_neg (by rw [hyb, hy]; simp), if_neg (by rw [hyb, hy]; simp), if_neg (by rw [hyb, hy]; simp), if_neg (by rw [hyb, hy]; simp), if_neg (by rw [hyb, hy]; simp), if_neg (by rw [hyb, hy]; simp), if_neg (by rw [hyb, hy]; simp), if_pos (by rw [hyb, hy])])
  clear hyb hssz
  rw [bt_eq s (i + 1) hz] at hy
  have hcv := conv1
  go_enter Try.func60, Try.ntmps60
  go_wp2
  refine bodyPost_ret (v := .tuple #[.string (strOfNums [34]), .int .i32 34, .int .i64 (i + 2), .bool false, .int .i64 0]) (by simp [results, Try.f60, go_sem]) rfl ?_
  exact ⟨by rw [HE.out.1, HE.out.2]; rfl, (Below.refl _ _).alloc (Nat.le_refl _) _⟩
set_option maxRecDepth 100000 in
set_option maxHeartbeats 2000000 in
theorem besc_92 (s : ByteArray) (i : Nat) (w : World) (hs : s.size ≤ 140737488355328) (hz : i + 1 < s.size) (hy : bt s (i + 1) = 92) :
    Calls Try.prog 60 #[.string s, .int .i64 i] w fun e w' => e = refR (escRef s i) (strOfNums (escB s i)) ∧ Below w.heap.size w w' := by
  have hyb : bt (sub s (i + 1)) 0 = bt s (i + 1) := by rw [bt_sub, Nat.add_zero]
  have hssz : (sub s (i + 1)).size ≠ 0 := by rw [sub_size]; omega
  have hzI : (i : Int) + 1 < (s.size : Int) := by omega
  have HE : Hid (escRef s i = (92, (i : Int) + 2, 0) ∧ escB s i = [92]) := escB_of (x2 := true) (by rw [escV, if_neg hssz, if_neg (by rw [hyb, hy]; simp), if_neg (by rw [hyb, hy]; simp), if_neg (by rw [hyb, hy]; simp), if_neg (by rw [hyb, hy]; simp), if_neg (by rw [hyb, hy]; simp), if_neg (by rw [hyb, hy]; simp), if_neg (by rw [hyb, hy]; simp), if_neg (by rw [hyb, hy]; simp), if_pos (by rw [hyb, hy])])
  clear hyb hssz
  rw [bt_eq s (i + 1) hz] at hy
  have hcv := conv1
  go_enter Try.func60, Try.ntmps60
  go_wp2
  refine bodyPost_ret (v := .tuple #[.string (strOfNums [92]), .int .i32 92, .int .i64 (i + 2), .bool false, .int .i64 0]) (by simp [results, Try.f60, go_sem]) rfl ?_
  exact ⟨by rw [HE.out.1, HE.out.2]; rfl, (Below.refl _ _).alloc (Nat.le_refl _) _⟩
set_option maxRecDepth 100000 in
set_option maxHeartbeats 2000000 in
theorem besc_no (s : ByteArray) (i : Nat) (w : World) (hs : s.size ≤ 140737488355328) (hz : i + 1 < s.size) (n0 : bt s (i + 1) ≠ 39) (n1 : bt s (i + 1) ≠ 120) (n2 : bt s (i + 1) ≠ 117) (n3 : bt s (i + 1) ≠ 110) (n4 : bt s (i + 1) ≠ 116) (n5 : bt s (i + 1) ≠ 114) (n6 : bt s (i + 1) ≠ 48) (n7 : bt s (i + 1) ≠ 34) (n8 : bt s (i + 1) ≠ 92) :
    Calls Try.prog 60 #[.string s, .int .i64 i] w fun e w' => e = refR (escRef s i) (strOfNums (escB s i)) ∧ Below w.heap.size w w' := by
  have hyb : bt (sub s (i + 1)) 0 = bt s (i + 1) := by rw [bt_sub, Nat.add_zero]
  have hssz : (sub s (i + 1)).size ≠ 0 := by rw [sub_size]; omega
  have hzI : (i : Int) + 1 < (s.size : Int) := by omega
  have HE : Hid (escRef s i = (0, (i : Int), 12) ∧ escB s i = []) := escB_no (x1 := 0) (x2 := false) (x3 := 0) (by rw [escV, if_neg hssz, hyb, if_neg n0, if_neg n1, if_neg n2, if_neg n3, if_neg n4, if_neg n5, if_neg n6, if_neg n7, if_neg n8])
  clear hyb hssz
  have hyl := bt_lt s (i + 1)
  obtain ⟨y, hy⟩ : ∃ y, y = bt s (i + 1) := ⟨_, rfl⟩
  rw [← hy] at n0 n1 n2 n3 n4 n5 n6 n7 n8 hyl
  rw [bt_eq s (i + 1) hz] at hy
  have hsy : (s[i + 1]'hz).toNat = y := hy.symm
  clear hy
  have i0 : ((y : Int) == 39) = false := by simp; omega
  have i1 : ((y : Int) == 120) = false := by simp; omega
  have i2 : ((y : Int) == 117) = false := by simp; omega
  have i3 : ((y : Int) == 110) = false := by simp; omega
  have i4 : ((y : Int) == 116) = false := by simp; omega
  have i5 : ((y : Int) == 114) = false := by simp; omega
  have i6 : ((y : Int) == 48) = false := by simp; omega
  have i7 : ((y : Int) == 34) = false := by simp; omega
  have i8 : ((y : Int) == 92) = false := by simp; omega
  clear n0 n1 n2 n3 n4 n5 n6 n7 n8
  go_enter Try.func60, Try.ntmps60
  go_wp2
  refine bodyPost_ret (v := .tuple #[.string ⟨#[]⟩, .int .i32 0, .int .i64 i, .bool false, .int .i64 12]) (by simp [results, Try.f60, go_sem]) rfl ?_
  exact ⟨by rw [HE.out.1, HE.out.2]; rfl, Below.refl _ _⟩
set_option maxRecDepth 100000 in
set_option maxHeartbeats 2000000 in
theorem besc_120 (s : ByteArray) (i : Nat) (w : World) (hs : s.size ≤ 140737488355328) (hz : i + 1 < s.size) (hy : bt s (i + 1) = 120) :
    Calls Try.prog 60 #[.string s, .int .i64 i] w fun e w' => e = refR (escRef s i) (strOfNums (escB s i)) ∧ Below w.heap.size w w' := by
  have hyb : bt (sub s (i + 1)) 0 = bt s (i + 1) := by rw [bt_sub, Nat.add_zero]
  have hssz : (sub s (i + 1)).size ≠ 0 := by rw [sub_size]; omega
  have hzI : (i : Int) + 1 < (s.size : Int) := by omega
  have htl : tl (sub s (i + 1)) = sub s (i + 2) := by rw [tl_eq, sub_sub]
  have hev : escV (sub s (i + 1)) = (numV (sub s (i + 2)) 2, true, 4, numOk (sub s (i + 2)) 2) := by rw [escV, if_neg hssz, if_neg (by rw [hyb, hy]; simp), if_pos (by rw [hyb, hy]), htl]
  obtain ⟨x, hx⟩ : ∃ x, hexesAt s (i + 2) 2 = x := ⟨_, rfl⟩
  have HX : Hid (hexesAt s (i + 2) 2 = x) := hx
  have hrg := hexes_range s (i + 2) 2 (by omega)
  rw [hx] at hrg
  obtain ⟨g1, _, g3⟩ := hrg
  have g4 := g3 (by omega)
  clear g3
  have hcv := conv1
  clear hyb hssz htl
  rw [bt_eq s (i + 1) hz] at hy
  by_cases hp : 0 ≤ x
  · have hk := num_yes' (s := s) (i := i + 2) (n := 2) (by omega) (by rw [hx]; exact hp)
    have HE : Hid (escRef s i = (x, (i : Int) + 4, 0) ∧ escB s i = [x]) := escB_of (x2 := true) (by rw [hev, hk.1, hk.2, hx])
    clear hk hev hx
    go_enter Try.func60, Try.ntmps60
    go_wp2_with (go_at_call 64; refine (hexes_at s (i + 2) 2 _ _ (by omega) hs (by omega) (by omega)).mono ?_; rintro e w' ⟨rfl, hw'⟩; rw [HX.out]; subst hw')
    refine bodyPost_ret (v := .tuple #[.string (strOfNums [x]), .int .i32 x, .int .i64 (i + 4), .bool false, .int .i64 0]) (by simp [results, Try.f60, go_sem]) rfl ?_
    exact ⟨by rw [HE.out.1, HE.out.2]; rfl, (Below.refl _ _).alloc (Nat.le_refl _) _⟩
  · have hk := num_no' (s := s) (i := i + 2) (n := 2) (by omega) (by rw [hx]; exact hp)
    have HE : Hid (escRef s i = (0, (i : Int), 12) ∧ escB s i = []) := escB_no (x2 := true) (x3 := 4) (by rw [hev, hk])
    clear hk hev hx
    go_enter Try.func60, Try.ntmps60
    go_wp2_with (go_at_call 64; refine (hexes_at s (i + 2) 2 _ _ (by omega) hs (by omega) (by omega)).mono ?_; rintro e w' ⟨rfl, hw'⟩; rw [HX.out]; subst hw')
    refine bodyPost_ret (v := .tuple #[.string ⟨#[]⟩, .int .i32 0, .int .i64 i, .bool false, .int .i64 12]) (by simp [results, Try.f60, go_sem]) rfl ?_
    exact ⟨by rw [HE.out.1, HE.out.2]; rfl, Below.refl _ _⟩
set_option maxRecDepth 100000 in
set_option maxHeartbeats 2000000 in
theorem besc_117 (s : ByteArray) (i : Nat) (w : World) (hs : s.size ≤ 140737488355328) (hz : i + 1 < s.size) (hy : bt s (i + 1) = 117) :
    Calls Try.prog 60 #[.string s, .int .i64 i] w fun e w' => e = refR (escRef s i) (strOfNums (escB s i)) ∧ Below w.heap.size w w' := by
  have hyb : bt (sub s (i + 1)) 0 = bt s (i + 1) := by rw [bt_sub, Nat.add_zero]
  have hssz : (sub s (i + 1)).size ≠ 0 := by rw [sub_size]; omega
  have hzI : (i : Int) + 1 < (s.size : Int) := by omega
  have htl : tl (sub s (i + 1)) = sub s (i + 2) := by rw [tl_eq, sub_sub]
  have hev : escV (sub s (i + 1)) = (numV (sub s (i + 2)) 4, false, 6, numOk (sub s (i + 2)) 4 && Lib.validRune (numV (sub s (i + 2)) 4)) := by rw [escV, if_neg hssz, if_neg (by rw [hyb, hy]; simp), if_neg (by rw [hyb, hy]; simp), if_pos (by rw [hyb, hy]), htl]
  obtain ⟨x, hx⟩ : ∃ x, hexesAt s (i + 2) 4 = x := ⟨_, rfl⟩
  have HX : Hid (hexesAt s (i + 2) 4 = x) := hx
  have hrg := hexes_range s (i + 2) 4 (by omega)
  rw [hx] at hrg
  obtain ⟨g1, g2, _⟩ := hrg
  clear hyb hssz htl
  rw [bt_eq s (i + 1) hz] at hy
  cases hv : Lib.validRune x
  · have HE : Hid (escRef s i = (0, (i : Int), 12) ∧ escB s i = []) := by
      by_cases hp : 0 ≤ x
      · have hk := num_yes' (s := s) (i := i + 2) (n := 4) (by omega) (by rw [hx]; exact hp)
        exact escB_no (x1 := x) (x2 := false) (x3 := 6) (by rw [hev, hk.1, hk.2, hx, hv]; rfl)
      · have hk := num_no' (s := s) (i := i + 2) (n := 4) (by omega) (by rw [hx]; exact hp)
        exact escB_no (x2 := false) (x3 := 6) (by rw [hev, hk]; rfl)
    clear hev hx
    go_enter Try.func60, Try.ntmps60
    go_wp2_with (first | (go_at_call 64; refine (hexes_at s (i + 2) 4 _ _ (by omega) hs (by omega) (by omega)).mono ?_; rintro e w' ⟨rfl, hw'⟩; rw [HX.out]; subst hw') | (go_at_call 65; refine (bcode_any x _ (by omega)).mono ?_; rintro e w1 ⟨rfl, hb1⟩; rw [hv]))
    refine bodyPost_ret (v := .tuple #[.string ⟨#[]⟩, .int .i32 0, .int .i64 i, .bool false, .int .i64 12]) (by simp [results, Try.f60, go_sem]) rfl ?_
    exact ⟨by rw [HE.out.1, HE.out.2]; rfl, hb1⟩
  · have hp : 0 ≤ x := by unfold Lib.validRune at hv; have := of_decide_eq_true hv; omega
    have hk := num_yes' (s := s) (i := i + 2) (n := 4) (by omega) (by rw [hx]; exact hp)
    have HE : Hid (escRef s i = (x, (i : Int) + 6, 0) ∧ escB s i = codeL x) := escB_ofF (x2 := false) (by rw [hev, hk.1, hk.2, hx, hv]; rfl)
    clear hk hev hx
    go_enter Try.func60, Try.ntmps60
    go_wp2_with (first | (go_at_call 64; refine (hexes_at s (i + 2) 4 _ _ (by omega) hs (by omega) (by omega)).mono ?_; rintro e w' ⟨rfl, hw'⟩; rw [HX.out]; subst hw') | (go_at_call 65; refine (bcode_any x _ (by omega)).mono ?_; rintro e w1 ⟨rfl, hb1⟩; rw [hv]))
    refine bodyPost_ret (v := .tuple #[.string (strOfNums (codeL x)), .int .i32 x, .int .i64 (i + 6), .bool false, .int .i64 0]) (by simp [results, Try.f60, go_sem]) rfl ?_
    exact ⟨by rw [HE.out.1, HE.out.2]; rfl, hb1⟩
theorem besc_any (s : ByteArray) (i : Nat) (w : World) (hs : s.size ≤ 140737488355328) (hi : i < s.size) :
    Calls Try.prog 60 #[.string s, .int .i64 i] w fun e w' => e = refR (escRef s i) (strOfNums (escB s i)) ∧ Below w.heap.size w w' := by
  by_cases hz : i + 1 < s.size
  · by_cases n0 : bt s (i + 1) = 39
    · exact besc_39 s i w hs hz n0
    by_cases n1 : bt s (i + 1) = 120
    · exact besc_120 s i w hs hz n1
    by_cases n2 : bt s (i + 1) = 117
    · exact besc_117 s i w hs hz n2
    by_cases n3 : bt s (i + 1) = 110
    · exact besc_110 s i w hs hz n3
    by_cases n4 : bt s (i + 1) = 116
    · exact besc_116 s i w hs hz n4
    by_cases n5 : bt s (i + 1) = 114
    · exact besc_114 s i w hs hz n5
    by_cases n6 : bt s (i + 1) = 48
    · exact besc_48 s i w hs hz n6
    by_cases n7 : bt s (i + 1) = 34
    · exact besc_34 s i w hs hz n7
    by_cases n8 : bt s (i + 1) = 92
    · exact besc_92 s i w hs hz n8
    exact besc_no s i w hs hz n0 n1 n2 n3 n4 n5 n6 n7 n8
  · exact besc_e s i w hs hi (by omega)
end Go.Proofs.Ytpndbbepfjocgaa
