import Derived.Test.YtpndbbepfjocgaaCHex
import Derived.Test.YtpndbbepfjocgaaShelf
namespace Go.Proofs.Ytpndbbepfjocgaa
open Go.RowKit

def tl (t : ByteArray) : ByteArray := t.extract 1 t.size
def pieceV (n : Int) (one : Bool) (sz : Int) : Value := .agg #[.int .i32 n, .bool one, .int .i64 sz]
abbrev Esc := Int × Bool × Int × Bool
def escV (t : ByteArray) : Esc :=
  if t.size = 0 then (0, false, 0, false)
  else if bt t 0 = 39 then (39, true, 2, true)
  else if bt t 0 = 120 then (numV (tl t) 2, true, 4, numOk (tl t) 2)
  else if bt t 0 = 117 then (numV (tl t) 4, false, 6, numOk (tl t) 4 && Lib.validRune (numV (tl t) 4))
  else if bt t 0 = 110 then (10, true, 2, true)
  else if bt t 0 = 116 then (9, true, 2, true)
  else if bt t 0 = 114 then (13, true, 2, true)
  else if bt t 0 = 48 then (0, true, 2, true)
  else if bt t 0 = 34 then (34, true, 2, true)
  else if bt t 0 = 92 then (92, true, 2, true)
  else (0, false, 0, false)
def escR (x : Esc) : Ending := .returned (.tuple #[pieceV x.1 x.2.1 x.2.2.1, .bool x.2.2.2])

theorem pc_cells {w w1 : World} {x y z : Value} {ty : TypeId} (h : Below (w.alloc (.cells #[x, y, z] ty)).heap.size (w.alloc (.cells #[x, y, z] ty)) w1) :
    (w1.cell? ⟨w.heap.size, 0, none⟩ = some x ∧ w1.cell? ⟨w.heap.size, 1, none⟩ = some y ∧ w1.cell? ⟨w.heap.size, 2, none⟩ = some z) ∧ (w1.frozen? ⟨w.heap.size, 0, none⟩ = false ∧ w1.frozen? ⟨w.heap.size, 1, none⟩ = false ∧ w1.frozen? ⟨w.heap.size, 2, none⟩ = false) ∧ w.heap.size < w1.heap.size := by
  refine ⟨⟨(h.cell (p := ⟨w.heap.size, 0, none⟩) (by simp)).trans (by simp), (h.cell (p := ⟨w.heap.size, 1, none⟩) (by simp)).trans (by simp), (h.cell (p := ⟨w.heap.size, 2, none⟩) (by simp)).trans (by simp)⟩, ⟨(h.frozen (p := ⟨w.heap.size, 0, none⟩) (by simp)).trans (by simp), (h.frozen (p := ⟨w.heap.size, 1, none⟩) (by simp)).trans (by simp), (h.frozen (p := ⟨w.heap.size, 2, none⟩) (by simp)).trans (by simp)⟩, ?_⟩
  have := h.size
  simp at this
  omega
theorem pc_below {w w1 : World} {o : Obj} {a b c : Value} (h : Below (w.alloc o).heap.size (w.alloc o) w1) :
    Below w.heap.size w (((w1.setCell ⟨w.heap.size, 0, none⟩ a).setCell ⟨w.heap.size, 1, none⟩ b).setCell ⟨w.heap.size, 2, none⟩ c) :=
  (((((Below.refl _ w).alloc (Nat.le_refl _) o).trans (h.mono (by simp))).setCell (p := ⟨w.heap.size, 0, none⟩) (Nat.le_refl _) _).setCell (p := ⟨w.heap.size, 1, none⟩) (Nat.le_refl _) _).setCell (p := ⟨w.heap.size, 2, none⟩) (Nat.le_refl _) _

theorem tl_size (t : ByteArray) : (tl t).size = t.size - 1 := by simp [tl, ByteArray.size_extract]
theorem w32 {n : Int} {m : Nat} (h : n = m) (hm : m ≤ 255) : wrap32 n = m := by unfold wrap32; omega
theorem sb_all : ∀ n : Fin 6, ((⟨#[10, 9, 13, 0, 34, 92]⟩ : ByteArray)[n.val]'(n.isLt)).toNat = [10, 9, 13, 0, 34, 92].getD n.val 0 := by decide
theorem sb_at (i v : Nat) (hi : i < 6) (hv : [10, 9, 13, 0, 34, 92].getD i 0 = v) (h255 : v ≤ 255) {hp : i < (⟨#[10, 9, 13, 0, 34, 92]⟩ : ByteArray).size} : wrap32 (((⟨#[10, 9, 13, 0, 34, 92]⟩ : ByteArray)[i]'hp).toNat : Int) = v :=
  w32 (by rw [← hv]; exact congrArg Nat.cast (sb_all ⟨i, hi⟩)) h255

theorem ne_empty (t : ByteArray) (hz : 0 < t.size) : t.toList.isEmpty = false := by
  obtain ⟨⟨l⟩⟩ := t
  have e : (ByteArray.mk ⟨l⟩).toList = l := ByteArray.toList_mk l
  rw [e]
  cases l with
  | nil => simp [ByteArray.size] at hz
  | cons => rfl

theorem letter_none (c : Int) (h0 : 0 ≤ c) (h1 : c ≤ 255) (n1 : c ≠ 110) (n2 : c ≠ 116) (n3 : c ≠ 114) (n4 : c ≠ 48) (n5 : c ≠ 34) (n6 : c ≠ 92) : Lib.indexByte [110, 116, 114, 48, 34, 92] c.toNat.toUInt8 = -1 := by
  have e : ∀ k : Nat, k < 256 → c ≠ k → (UInt8.ofNat k == c.toNat.toUInt8) = false := by
    intro k hk hne
    rw [beq_eq_false_iff_ne]
    intro he
    have := congrArg UInt8.toNat he
    simp at this
    omega
  have a1 := e 110 (by omega) n1
  have a2 := e 116 (by omega) n2
  have a3 := e 114 (by omega) n3
  have a4 := e 48 (by omega) n4
  have a5 := e 34 (by omega) n5
  have a6 := e 92 (by omega) n6
  simp only [Lib.indexByte]
  simp at a1 a2 a3 a4 a5 a6
  simp [a1, a2, a3, a4, a5, a6]

set_option maxRecDepth 100000 in
set_option maxHeartbeats 2000000 in
theorem escape_e (t : ByteArray) (w : World) (hz : t.size = 0) :
    Calls Try.prog 61 #[.string t] w fun e w' => e = escR (escV t) ∧ Below w.heap.size w w' := by
  have HE : Hid (escV t = (0, false, 0, false)) := by rw [Hid, escV, if_pos hz]
  obtain rfl : t = ⟨#[]⟩ := by
    obtain ⟨⟨l⟩⟩ := t
    simp [ByteArray.size] at hz; subst hz; rfl
  go_enter Try.func61, Try.ntmps61
  go_wp2
  refine bodyPost_ret (v := .tuple #[pieceV 0 false 0, .bool false]) (by simp [results, Try.f61, go_sem, pieceV]) rfl ?_
  exact ⟨by rw [HE.out]; rfl, (Below.refl _ _).alloc (Nat.le_refl _) _⟩
set_option maxRecDepth 100000 in
set_option maxHeartbeats 2000000 in
theorem escape_39 (t : ByteArray) (w : World) (hz : 0 < t.size) (hy : bt t 0 = 39) :
    Calls Try.prog 61 #[.string t] w fun e w' => e = escR (escV t) ∧ Below w.heap.size w w' := by
  have HE : Hid (escV t = (39, true, 2, true)) := by rw [Hid, escV, if_neg (by omega), if_pos hy]
  rw [bt_eq t 0 hz] at hy
  have hne := ne_empty t hz
  go_enter Try.func61, Try.ntmps61
  go_wp2
  refine bodyPost_ret (v := .tuple #[pieceV 39 true 2, .bool true]) (by simp [results, Try.f61, go_sem, pieceV]) rfl ?_
  exact ⟨by rw [HE.out]; rfl, (Below.refl _ _).alloc (Nat.le_refl _) _⟩
set_option maxRecDepth 100000 in
set_option maxHeartbeats 2000000 in
theorem escape_110 (t : ByteArray) (w : World) (hz : 0 < t.size) (hy : bt t 0 = 110) :
    Calls Try.prog 61 #[.string t] w fun e w' => e = escR (escV t) ∧ Below w.heap.size w w' := by
  have HE : Hid (escV t = (10, true, 2, true)) := by rw [Hid, escV, if_neg (by omega), if_neg (by omega), if_neg (by omega), if_neg (by omega), if_pos hy]
  rw [bt_eq t 0 hz] at hy
  have hne := ne_empty t hz
  go_enter Try.func61, Try.ntmps61
  go_wp2_with (go_at_call 30; refine (Try.strings_IndexByte _ _ _).mono ?_; rintro e w' ⟨rfl, rfl⟩; have hix : Lib.indexByte [110, 116, 114, 48, 34, 92] (Int.toNat 110).toUInt8 = 0 := (by decide); rw [hix])
  refine bodyPost_ret (v := .tuple #[pieceV 10 true 2, .bool true]) (by simp [results, Try.f61, go_sem, pieceV]; exact sb_at 0 10 (by omega) rfl (by omega)) rfl ?_
  exact ⟨by rw [HE.out]; rfl, (Below.refl _ _).alloc (Nat.le_refl _) _⟩
set_option maxRecDepth 100000 in
set_option maxHeartbeats 2000000 in
theorem escape_116 (t : ByteArray) (w : World) (hz : 0 < t.size) (hy : bt t 0 = 116) :
    Calls Try.prog 61 #[.string t] w fun e w' => e = escR (escV t) ∧ Below w.heap.size w w' := by
  have HE : Hid (escV t = (9, true, 2, true)) := by rw [Hid, escV, if_neg (by omega), if_neg (by omega), if_neg (by omega), if_neg (by omega), if_neg (by omega), if_pos hy]
  rw [bt_eq t 0 hz] at hy
  have hne := ne_empty t hz
  go_enter Try.func61, Try.ntmps61
  go_wp2_with (go_at_call 30; refine (Try.strings_IndexByte _ _ _).mono ?_; rintro e w' ⟨rfl, rfl⟩; have hix : Lib.indexByte [110, 116, 114, 48, 34, 92] (Int.toNat 116).toUInt8 = 1 := (by decide); rw [hix])
  refine bodyPost_ret (v := .tuple #[pieceV 9 true 2, .bool true]) (by simp [results, Try.f61, go_sem, pieceV]; exact sb_at 1 9 (by omega) rfl (by omega)) rfl ?_
  exact ⟨by rw [HE.out]; rfl, (Below.refl _ _).alloc (Nat.le_refl _) _⟩
set_option maxRecDepth 100000 in
set_option maxHeartbeats 2000000 in
theorem escape_114 (t : ByteArray) (w : World) (hz : 0 < t.size) (hy : bt t 0 = 114) :
    Calls Try.prog 61 #[.string t] w fun e w' => e = escR (escV t) ∧ Below w.heap.size w w' := by
  have HE : Hid (escV t = (13, true, 2, true)) := by rw [Hid, escV, if_neg (by omega), if_neg (by omega), if_neg (by omega), if_neg (by omega), if_neg (by omega), if_neg (by omega), if_pos hy]
  rw [bt_eq t 0 hz] at hy
  have hne := ne_empty t hz
  go_enter Try.func61, Try.ntmps61
  go_wp2_with (go_at_call 30; refine (Try.strings_IndexByte _ _ _).mono ?_; rintro e w' ⟨rfl, rfl⟩; have hix : Lib.indexByte [110, 116, 114, 48, 34, 92] (Int.toNat 114).toUInt8 = 2 := (by decide); rw [hix])
  refine bodyPost_ret (v := .tuple #[pieceV 13 true 2, .bool true]) (by simp [results, Try.f61, go_sem, pieceV]; exact sb_at 2 13 (by omega) rfl (by omega)) rfl ?_
  exact ⟨by rw [HE.out]; rfl, (Below.refl _ _).alloc (Nat.le_refl _) _⟩
set_option maxRecDepth 100000 in
set_option maxHeartbeats 2000000 in
theorem escape_48 (t : ByteArray) (w : World) (hz : 0 < t.size) (hy : bt t 0 = 48) :
    Calls Try.prog 61 #[.string t] w fun e w' => e = escR (escV t) ∧ Below w.heap.size w w' := by
  have HE : Hid (escV t = (0, true, 2, true)) := by rw [Hid, escV, if_neg (by omega), if_neg (by omega), if_neg (by omega), if_neg (by omega), if_neg (by omega), if_neg (by omega), if_neg (by omega), if_pos hy]
  rw [bt_eq t 0 hz] at hy
  have hne := ne_empty t hz
  go_enter Try.func61, Try.ntmps61
  go_wp2_with (go_at_call 30; refine (Try.strings_IndexByte _ _ _).mono ?_; rintro e w' ⟨rfl, rfl⟩; have hix : Lib.indexByte [110, 116, 114, 48, 34, 92] (Int.toNat 48).toUInt8 = 3 := (by decide); rw [hix])
  refine bodyPost_ret (v := .tuple #[pieceV 0 true 2, .bool true]) (by simp [results, Try.f61, go_sem, pieceV]; exact sb_at 3 0 (by omega) rfl (by omega)) rfl ?_
  exact ⟨by rw [HE.out]; rfl, (Below.refl _ _).alloc (Nat.le_refl _) _⟩
set_option maxRecDepth 100000 in
set_option maxHeartbeats 2000000 in
theorem escape_34 (t : ByteArray) (w : World) (hz : 0 < t.size) (hy : bt t 0 = 34) :
    Calls Try.prog 61 #[.string t] w fun e w' => e = escR (escV t) ∧ Below w.heap.size w w' := by
  have HE : Hid (escV t = (34, true, 2, true)) := by rw [Hid, escV, if_neg (by omega), if_neg (by omega), if_neg (by omega), if_neg (by omega), if_neg (by omega), if_neg (by omega), if_neg (by omega), if_neg (by omega), if_pos hy]
  rw [bt_eq t 0 hz] at hy
  have hne := ne_empty t hz
  go_enter Try.func61, Try.ntmps61
  go_wp2_with (go_at_call 30; refine (Try.strings_IndexByte _ _ _).mono ?_; rintro e w' ⟨rfl, rfl⟩; have hix : Lib.indexByte [110, 116, 114, 48, 34, 92] (Int.toNat 34).toUInt8 = 4 := (by decide); rw [hix])
  refine bodyPost_ret (v := .tuple #[pieceV 34 true 2, .bool true]) (by simp [results, Try.f61, go_sem, pieceV]; exact sb_at 4 34 (by omega) rfl (by omega)) rfl ?_
  exact ⟨by rw [HE.out]; rfl, (Below.refl _ _).alloc (Nat.le_refl _) _⟩
set_option maxRecDepth 100000 in
set_option maxHeartbeats 2000000 in
theorem escape_92 (t : ByteArray) (w : World) (hz : 0 < t.size) (hy : bt t 0 = 92) :
    Calls Try.prog 61 #[.string t] w fun e w' => e = escR (escV t) ∧ Below w.heap.size w w' := by
  have HE : Hid (escV t = (92, true, 2, true)) := by rw [Hid, escV, if_neg (by omega), if_neg (by omega), if_neg (by omega), if_neg (by omega), if_neg (by omega), if_neg (by omega), if_neg (by omega), if_neg (by omega), if_neg (by omega), if_pos hy]
  rw [bt_eq t 0 hz] at hy
  have hne := ne_empty t hz
  go_enter Try.func61, Try.ntmps61
  go_wp2_with (go_at_call 30; refine (Try.strings_IndexByte _ _ _).mono ?_; rintro e w' ⟨rfl, rfl⟩; have hix : Lib.indexByte [110, 116, 114, 48, 34, 92] (Int.toNat 92).toUInt8 = 5 := (by decide); rw [hix])
  refine bodyPost_ret (v := .tuple #[pieceV 92 true 2, .bool true]) (by simp [results, Try.f61, go_sem, pieceV]; exact sb_at 5 92 (by omega) rfl (by omega)) rfl ?_
  exact ⟨by rw [HE.out]; rfl, (Below.refl _ _).alloc (Nat.le_refl _) _⟩
set_option maxRecDepth 100000 in
set_option maxHeartbeats 2000000 in
theorem escape_no (t : ByteArray) (w : World) (hz : 0 < t.size) (n0 : bt t 0 ≠ 39) (n1 : bt t 0 ≠ 120) (n2 : bt t 0 ≠ 117) (n3 : bt t 0 ≠ 110) (n4 : bt t 0 ≠ 116) (n5 : bt t 0 ≠ 114) (n6 : bt t 0 ≠ 48) (n7 : bt t 0 ≠ 34) (n8 : bt t 0 ≠ 92) :
    Calls Try.prog 61 #[.string t] w fun e w' => e = escR (escV t) ∧ Below w.heap.size w w' := by
  have HE : Hid (escV t = (0, false, 0, false)) := by rw [Hid, escV, if_neg (by omega), if_neg n0, if_neg n1, if_neg n2, if_neg n3, if_neg n4, if_neg n5, if_neg n6, if_neg n7, if_neg n8]
  have hne := ne_empty t hz
  have hyl := bt_lt t 0
  obtain ⟨y, hy⟩ : ∃ y, y = bt t 0 := ⟨_, rfl⟩
  rw [← hy] at n0 n1 n2 n3 n4 n5 n6 n7 n8 hyl
  rw [bt_eq t 0 hz] at hy
  have hsy : (t[0]'hz).toNat = y := hy.symm
  clear hy
  have HI : Hid (Lib.indexByte [110, 116, 114, 48, 34, 92] (y : Int).toNat.toUInt8 = -1) := letter_none y (by omega) (by omega) (by omega) (by omega) (by omega) (by omega) (by omega) (by omega)
  have i0 : ¬ ((y : Int) = 39) := by omega
  have i1 : ¬ ((y : Int) = 120) := by omega
  have i2 : ¬ ((y : Int) = 117) := by omega
  clear n3 n4 n5 n6 n7 n8
  go_enter Try.func61, Try.ntmps61
  go_wp2_with (go_at_call 30; refine (Try.strings_IndexByte _ _ _).mono ?_; rintro e w' ⟨rfl, rfl⟩; have hix := HI.out; rw [hix])
  refine bodyPost_ret (v := .tuple #[pieceV 0 false 0, .bool false]) (by simp [results, Try.f61, go_sem, pieceV]) rfl ?_
  exact ⟨by rw [HE.out]; rfl, (Below.refl _ _).alloc (Nat.le_refl _) _⟩
set_option maxRecDepth 100000 in
set_option maxHeartbeats 2000000 in
theorem escape_120 (t : ByteArray) (w : World) (hs : t.size ≤ 140737488355328) (hz : 0 < t.size) (hy : bt t 0 = 120) :
    Calls Try.prog 61 #[.string t] w fun e w' => e = escR (escV t) ∧ Below w.heap.size w w' := by
  have HE : Hid (escV t = (numV (tl t) 2, true, 4, numOk (tl t) 2)) := by rw [Hid, escV, if_neg (by omega), if_neg (by omega), if_pos hy]
  rw [bt_eq t 0 hz] at hy
  have hne := ne_empty t hz
  obtain ⟨u, hu⟩ : ∃ u, t.extract 1 t.size = u := ⟨_, rfl⟩
  have HU : Hid (tl t = u) := hu
  have husz : u.size ≤ 140737488355328 := by rw [← HU.out, tl_size]; omega
  go_enter Try.func61, Try.ntmps61
  go_wp2_with (go_at_call 66; refine (hexnum_any u 2 _ husz (by omega)).mono ?_; rintro e w1 ⟨rfl, hb1⟩; have hB1 := pc_below (a := .int .i32 (numV u 2)) (b := .bool true) (c := .int .i64 4) hb1; obtain ⟨⟨c0, c1, c2⟩, ⟨f0, f1, f2⟩, s1⟩ := pc_cells hb1)
  refine bodyPost_ret (v := .tuple #[pieceV (numV u 2) true 4, .bool (numOk u 2)]) (by simp [results, Try.f61, go_sem, pieceV, c0, c1, c2]) rfl ?_
  exact ⟨by rw [HE.out, HU.out]; rfl, hB1⟩
set_option maxRecDepth 100000 in
set_option maxHeartbeats 2000000 in
theorem escape_117 (t : ByteArray) (w : World) (hs : t.size ≤ 140737488355328) (hz : 0 < t.size) (hy : bt t 0 = 117) :
    Calls Try.prog 61 #[.string t] w fun e w' => e = escR (escV t) ∧ Below w.heap.size w w' := by
  have HE : Hid (escV t = (numV (tl t) 4, false, 6, numOk (tl t) 4 && Lib.validRune (numV (tl t) 4))) := by rw [Hid, escV, if_neg (by omega), if_neg (by omega), if_neg (by omega), if_pos hy]
  rw [bt_eq t 0 hz] at hy
  have hne := ne_empty t hz
  obtain ⟨u, hu⟩ : ∃ u, t.extract 1 t.size = u := ⟨_, rfl⟩
  have HU : Hid (tl t = u) := hu
  have husz : u.size ≤ 140737488355328 := by rw [← HU.out, tl_size]; omega
  cases hok : numOk u 4
  · go_enter Try.func61, Try.ntmps61
    go_wp2_with (go_at_call 66; refine (hexnum_any u 4 _ husz (by omega)).mono ?_; rintro e w1 ⟨rfl, hb1⟩; rw [hok]; have hB1 := pc_below (a := .int .i32 (numV u 4)) (b := .bool false) (c := .int .i64 6) hb1; obtain ⟨⟨c0, c1, c2⟩, ⟨f0, f1, f2⟩, s1⟩ := pc_cells hb1)
    refine bodyPost_ret (v := .tuple #[pieceV (numV u 4) false 6, .bool false]) (by simp [results, Try.f61, go_sem, pieceV, c0, c1, c2]) rfl ?_
    exact ⟨by rw [HE.out, HU.out, hok]; rfl, hB1⟩
  · go_enter Try.func61, Try.ntmps61
    go_wp2_with (first | (go_at_call 66; refine (hexnum_any u 4 _ husz (by omega)).mono ?_; rintro e w1 ⟨rfl, hb1⟩; rw [hok]; have hB1 := pc_below (a := .int .i32 (numV u 4)) (b := .bool false) (c := .int .i64 6) hb1; obtain ⟨⟨c0, c1, c2⟩, ⟨f0, f1, f2⟩, s1⟩ := pc_cells hb1) | (go_at_call 67; refine (Try.utf8_ValidRune _ _).mono ?_; rintro e w' ⟨rfl, hw'⟩; subst hw'))
    refine bodyPost_ret (v := .tuple #[pieceV (numV u 4) false 6, .bool (Lib.validRune (numV u 4))]) (by simp [results, Try.f61, go_sem, pieceV, c0, c1, c2]) rfl ?_
    exact ⟨by rw [HE.out, HU.out, hok]; rfl, hB1⟩
theorem escape_any (t : ByteArray) (w : World) (hs : t.size ≤ 140737488355328) :
    Calls Try.prog 61 #[.string t] w fun e w' => e = escR (escV t) ∧ Below w.heap.size w w' := by
  by_cases hz : t.size = 0
  · exact escape_e t w hz
  have hz' : 0 < t.size := by omega
  by_cases n0 : bt t 0 = 39
  · exact escape_39 t w hz' n0
  by_cases n1 : bt t 0 = 120
  · exact escape_120 t w hs hz' n1
  by_cases n2 : bt t 0 = 117
  · exact escape_117 t w hs hz' n2
  by_cases n3 : bt t 0 = 110
  · exact escape_110 t w hz' n3
  by_cases n4 : bt t 0 = 116
  · exact escape_116 t w hz' n4
  by_cases n5 : bt t 0 = 114
  · exact escape_114 t w hz' n5
  by_cases n6 : bt t 0 = 48
  · exact escape_48 t w hz' n6
  by_cases n7 : bt t 0 = 34
  · exact escape_34 t w hz' n7
  by_cases n8 : bt t 0 = 92
  · exact escape_92 t w hz' n8
  exact escape_no t w hz' n0 n1 n2 n3 n4 n5 n6 n7 n8
end Go.Proofs.Ytpndbbepfjocgaa
