import Derived.Test.YtpndbbepfjocgaaEsc
import Derived.Test.YtpndbbepfjocgaaFirst
namespace Go.Proofs.Ytpndbbepfjocgaa
open Go.RowKit

theorem pc_cells2 {w w2 : World} {n : Nat} {x y z : Value} (hn : n < w.heap.size) (h : Below w.heap.size w w2) (hc : w.cell? ⟨n, 0, none⟩ = some x ∧ w.cell? ⟨n, 1, none⟩ = some y ∧ w.cell? ⟨n, 2, none⟩ = some z) (hf : w.frozen? ⟨n, 0, none⟩ = false ∧ w.frozen? ⟨n, 1, none⟩ = false ∧ w.frozen? ⟨n, 2, none⟩ = false) :
    (∀ o, (w2.alloc o).cell? ⟨n, 0, none⟩ = some x) ∧ (∀ o, (w2.alloc o).cell? ⟨n, 1, none⟩ = some y) ∧ (∀ o, (w2.alloc o).cell? ⟨n, 2, none⟩ = some z) ∧ (∀ o, (w2.alloc o).frozen? ⟨n, 0, none⟩ = false) ∧ (∀ o, (w2.alloc o).frozen? ⟨n, 1, none⟩ = false) ∧ (∀ o, (w2.alloc o).frozen? ⟨n, 2, none⟩ = false) := by
  have h' : ∀ o, Below w.heap.size w (w2.alloc o) := fun o => h.alloc h.size o
  exact ⟨fun o => ((h' o).cell (p := ⟨n, 0, none⟩) hn).trans hc.1, fun o => ((h' o).cell (p := ⟨n, 1, none⟩) hn).trans hc.2.1, fun o => ((h' o).cell (p := ⟨n, 2, none⟩) hn).trans hc.2.2,
    fun o => ((h' o).frozen (p := ⟨n, 0, none⟩) hn).trans hf.1, fun o => ((h' o).frozen (p := ⟨n, 1, none⟩) hn).trans hf.2.1, fun o => ((h' o).frozen (p := ⟨n, 2, none⟩) hn).trans hf.2.2⟩
theorem pc_below2 {w w1 w2 : World} {o o2 : Obj} {a b c : Value} (h : Below (w.alloc o).heap.size (w.alloc o) w1) (h2 : Below w1.heap.size w1 w2) :
    Below w.heap.size w ((((w2.alloc o2).setCell ⟨w.heap.size, 0, none⟩ a).setCell ⟨w.heap.size, 1, none⟩ b).setCell ⟨w.heap.size, 2, none⟩ c) := by
  have hsz := h.size
  have hsz2 := h2.size
  simp at hsz
  have e1 : Below w.heap.size w w1 := ((Below.refl _ w).alloc (Nat.le_refl _) o).trans (h.mono (by simp))
  have e2 : Below w.heap.size w w2 := e1.trans (h2.mono (by omega))
  exact (((e2.alloc (by omega) o2).setCell (p := ⟨w.heap.size, 0, none⟩) (Nat.le_refl _) _).setCell (p := ⟨w.heap.size, 1, none⟩) (Nat.le_refl _) _).setCell (p := ⟨w.heap.size, 2, none⟩) (Nat.le_refl _) _

abbrev Piece := Int × Bool × Int × Int
def readV (s : ByteArray) : Piece :=
  if firstN s = 92 then (if (escV (tl s)).2.2.2 = true then ((escV (tl s)).1, (escV (tl s)).2.1, (escV (tl s)).2.2.1, 0) else (0, false, 0, 12))
  else if firstN s < 0 then (0, false, 0, 13)
  else if firstN s < 32 then (0, false, 0, 10)
  else if firstN s = 127 then (0, false, 0, 10)
  else (firstN s, false, Lib.runeLen (firstN s), 0)
def readR (x : Piece) : Ending := .returned (.tuple #[pieceV x.1 x.2.1 x.2.2.1, .int .i64 x.2.2.2])

set_option maxRecDepth 100000 in
set_option maxHeartbeats 2000000 in
theorem read_13 (s : ByteArray) (w : World) (h1 : firstN s < 0) :
    Calls Try.prog 57 #[.string s] w fun e w' => e = readR (readV s) ∧ Below w.heap.size w w' := by
  have HE : Hid (readV s = (0, false, 0, 13)) := by rw [Hid, readV, if_neg (by omega), if_pos h1]
  obtain ⟨r, hr⟩ : ∃ r, firstN s = r := ⟨_, rfl⟩
  have HR : Hid (firstN s = r) := hr
  rw [hr] at h1
  clear hr
  have n1 : ¬ r = 92 := by omega
  go_enter Try.func57, Try.ntmps57
  go_wp2_with (go_at_call 32; refine (first_any _ _).mono ?_; rintro e w1 ⟨rfl, hb1⟩; rw [HR.out]; obtain ⟨⟨c0, c1, c2⟩, ⟨f0, f1, f2⟩, s1⟩ := pc_cells hb1; have hB1 := pc_below (a := .int .i32 0) (b := .bool false) (c := .int .i64 0) hb1)
  refine bodyPost_ret (v := .tuple #[pieceV 0 false 0, .int .i64 13]) (by simp [results, Try.f57, go_sem, pieceV, c0, c1, c2]) rfl ?_
  exact ⟨by rw [HE.out]; rfl, hB1⟩
set_option maxRecDepth 100000 in
set_option maxHeartbeats 2000000 in
theorem read_10 (s : ByteArray) (w : World) (h0 : 0 ≤ firstN s) (h1 : firstN s < 32) :
    Calls Try.prog 57 #[.string s] w fun e w' => e = readR (readV s) ∧ Below w.heap.size w w' := by
  have HE : Hid (readV s = (0, false, 0, 10)) := by rw [Hid, readV, if_neg (by omega), if_neg (by omega), if_pos h1]
  obtain ⟨r, hr⟩ : ∃ r, firstN s = r := ⟨_, rfl⟩
  have HR : Hid (firstN s = r) := hr
  rw [hr] at h0 h1
  clear hr
  have n1 : ¬ r = 92 := by omega
  have n2 : ¬ r < 0 := by omega
  go_enter Try.func57, Try.ntmps57
  go_wp2_with (go_at_call 32; refine (first_any _ _).mono ?_; rintro e w1 ⟨rfl, hb1⟩; rw [HR.out]; obtain ⟨⟨c0, c1, c2⟩, ⟨f0, f1, f2⟩, s1⟩ := pc_cells hb1; have hB1 := pc_below (a := .int .i32 0) (b := .bool false) (c := .int .i64 0) hb1)
  refine bodyPost_ret (v := .tuple #[pieceV 0 false 0, .int .i64 10]) (by simp [results, Try.f57, go_sem, pieceV, c0, c1, c2]) rfl ?_
  exact ⟨by rw [HE.out]; rfl, hB1⟩
set_option maxRecDepth 100000 in
set_option maxHeartbeats 2000000 in
theorem read_127 (s : ByteArray) (w : World) (h1 : firstN s = 127) :
    Calls Try.prog 57 #[.string s] w fun e w' => e = readR (readV s) ∧ Below w.heap.size w w' := by
  have HE : Hid (readV s = (0, false, 0, 10)) := by rw [Hid, readV, if_neg (by omega), if_neg (by omega), if_neg (by omega), if_pos h1]
  obtain ⟨r, hr⟩ : ∃ r, firstN s = r := ⟨_, rfl⟩
  have HR : Hid (firstN s = r) := hr
  rw [hr] at h1
  clear hr
  subst h1
  go_enter Try.func57, Try.ntmps57
  go_wp2_with (go_at_call 32; refine (first_any _ _).mono ?_; rintro e w1 ⟨rfl, hb1⟩; rw [HR.out]; obtain ⟨⟨c0, c1, c2⟩, ⟨f0, f1, f2⟩, s1⟩ := pc_cells hb1; have hB1 := pc_below (a := .int .i32 0) (b := .bool false) (c := .int .i64 0) hb1)
  refine bodyPost_ret (v := .tuple #[pieceV 0 false 0, .int .i64 10]) (by simp [results, Try.f57, go_sem, pieceV, c0, c1, c2]) rfl ?_
  exact ⟨by rw [HE.out]; rfl, hB1⟩
set_option maxRecDepth 100000 in
set_option maxHeartbeats 2000000 in
theorem read_rest (s : ByteArray) (w : World) (h0 : 32 ≤ firstN s) (h1 : firstN s ≠ 92) (h2 : firstN s ≠ 127) :
    Calls Try.prog 57 #[.string s] w fun e w' => e = readR (readV s) ∧ Below w.heap.size w w' := by
  have HE : Hid (readV s = (firstN s, false, Lib.runeLen (firstN s), 0)) := by rw [Hid, readV, if_neg h1, if_neg (by omega), if_neg (by omega), if_neg h2]
  obtain ⟨r, hr⟩ : ∃ r, firstN s = r := ⟨_, rfl⟩
  have HR : Hid (firstN s = r) := hr
  rw [hr] at h0 h1 h2
  clear hr
  have n2 : ¬ r < 0 := by omega
  have n3 : ¬ r < 32 := by omega
  have n4 : (r == 92) = false := by simpa using h1
  have n5 : (r == 127) = false := by simpa using h2
  clear h1 h2
  go_enter Try.func57, Try.ntmps57
  go_wp2_with (first | (go_at_call 32; refine (first_any _ _).mono ?_; rintro e w1 ⟨rfl, hb1⟩; rw [HR.out]; obtain ⟨⟨c0, c1, c2⟩, ⟨f0, f1, f2⟩, s1⟩ := pc_cells hb1; have hB1 := pc_below (a := .int .i32 r) (b := .bool false) (c := .int .i64 (Lib.runeLen r)) hb1) | (go_at_call 62; refine (Try.utf8_RuneLen _ _).mono ?_; rintro e w' ⟨rfl, hw'⟩; subst hw'))
  refine bodyPost_ret (v := .tuple #[pieceV r false (Lib.runeLen r), .int .i64 0]) (by simp [results, Try.f57, go_sem, pieceV, c0, c1, c2]) rfl ?_
  exact ⟨by rw [HE.out, HR.out]; rfl, hB1⟩
set_option maxRecDepth 100000 in
set_option maxHeartbeats 2000000 in
theorem read_92 (s : ByteArray) (w : World) (hs : s.size ≤ 140737488355328) (hz : 0 < s.size) (h1 : firstN s = 92) (hok : (escV (tl s)).2.2.2 = true) :
    Calls Try.prog 57 #[.string s] w fun e w' => e = readR (readV s) ∧ Below w.heap.size w w' := by
  have HE : Hid (readV s = ((escV (tl s)).1, (escV (tl s)).2.1, (escV (tl s)).2.2.1, 0)) := by rw [Hid, readV, if_pos h1, if_pos hok]
  have HR : Hid (firstN s = 92) := h1
  clear h1
  obtain ⟨u, hu⟩ : ∃ u, s.extract 1 s.size = u := ⟨_, rfl⟩
  have HU : Hid (tl s = u) := hu
  have husz : u.size ≤ 140737488355328 := by rw [← HU.out, tl_size]; omega
  rw [HU.out] at hok
  obtain ⟨x, hx⟩ : ∃ x, escV u = x := ⟨_, rfl⟩
  have HX : Hid (escV u = x) := hx
  rw [hx] at hok
  obtain ⟨x1, x2, x3, x4⟩ := x
  simp only at hok
  subst hok
  clear hx
  have HV : Hid (escR (x1, x2, x3, true) = .returned (.tuple #[.agg #[.int .i32 x1, .bool x2, .int .i64 x3], .bool true])) := rfl
  go_enter Try.func57, Try.ntmps57
  go_wp2_with (first | (go_at_call 32; refine (first_any _ _).mono ?_; rintro e w1 ⟨rfl, hb1⟩; rw [HR.out]; obtain ⟨⟨c0, c1, c2⟩, ⟨f0, f1, f2⟩, s1⟩ := pc_cells hb1) | (go_at_call 61; refine (escape_any u _ husz).mono ?_; rintro e w2 ⟨rfl, hb2⟩; rw [HX.out, HV.out]; have hB := pc_below2 (o2 := .cells #[.int .i32 x1, .bool x2, .int .i64 x3] 76) (a := .int .i32 x1) (b := .bool x2) (c := .int .i64 x3) hb1 hb2; obtain ⟨q0, q1, q2, g0, g1, g2⟩ := pc_cells2 s1 hb2 ⟨c0, c1, c2⟩ ⟨f0, f1, f2⟩))
  refine bodyPost_ret (v := .tuple #[pieceV x1 x2 x3, .int .i64 0]) (by simp [results, Try.f57, go_sem, pieceV, q0, q1, q2]) rfl ?_
  exact ⟨by rw [HE.out, HU.out, HX.out]; rfl, hB⟩
set_option maxRecDepth 100000 in
set_option maxHeartbeats 2000000 in
theorem read_92n (s : ByteArray) (w : World) (hs : s.size ≤ 140737488355328) (hz : 0 < s.size) (h1 : firstN s = 92) (hok : (escV (tl s)).2.2.2 = false) :
    Calls Try.prog 57 #[.string s] w fun e w' => e = readR (readV s) ∧ Below w.heap.size w w' := by
  have HE : Hid (readV s = (0, false, 0, 12)) := by rw [Hid, readV, if_pos h1, hok, if_neg (by simp)]
  have HR : Hid (firstN s = 92) := h1
  clear h1
  obtain ⟨u, hu⟩ : ∃ u, s.extract 1 s.size = u := ⟨_, rfl⟩
  have HU : Hid (tl s = u) := hu
  have husz : u.size ≤ 140737488355328 := by rw [← HU.out, tl_size]; omega
  rw [HU.out] at hok
  obtain ⟨x, hx⟩ : ∃ x, escV u = x := ⟨_, rfl⟩
  have HX : Hid (escV u = x) := hx
  rw [hx] at hok
  obtain ⟨x1, x2, x3, x4⟩ := x
  simp only at hok
  subst hok
  clear hx
  have HV : Hid (escR (x1, x2, x3, false) = .returned (.tuple #[.agg #[.int .i32 x1, .bool x2, .int .i64 x3], .bool false])) := rfl
  go_enter Try.func57, Try.ntmps57
  go_wp2_with (first | (go_at_call 32; refine (first_any _ _).mono ?_; rintro e w1 ⟨rfl, hb1⟩; rw [HR.out]; obtain ⟨⟨c0, c1, c2⟩, ⟨f0, f1, f2⟩, s1⟩ := pc_cells hb1) | (go_at_call 61; refine (escape_any u _ husz).mono ?_; rintro e w2 ⟨rfl, hb2⟩; rw [HX.out, HV.out]; have hB := pc_below2 (o2 := .cells #[.int .i32 x1, .bool x2, .int .i64 x3] 76) (a := .int .i32 0) (b := .bool false) (c := .int .i64 0) hb1 hb2; obtain ⟨q0, q1, q2, g0, g1, g2⟩ := pc_cells2 s1 hb2 ⟨c0, c1, c2⟩ ⟨f0, f1, f2⟩))
  refine bodyPost_ret (v := .tuple #[pieceV 0 false 0, .int .i64 12]) (by simp [results, Try.f57, go_sem, pieceV, q0, q1, q2]) rfl ?_
  exact ⟨by rw [HE.out]; rfl, hB⟩
theorem first_pos {s : ByteArray} (h : firstN s ≠ 0) : 0 < s.size := by
  unfold firstN at h
  split at h
  · assumption
  · exact absurd rfl h
theorem read_any (s : ByteArray) (w : World) (hs : s.size ≤ 140737488355328) :
    Calls Try.prog 57 #[.string s] w fun e w' => e = readR (readV s) ∧ Below w.heap.size w w' := by
  by_cases h1 : firstN s = 92
  · have hz := first_pos (s := s) (by omega)
    cases hok : (escV (tl s)).2.2.2
    · exact read_92n s w hs hz h1 hok
    · exact read_92 s w hs hz h1 hok
  by_cases h2 : firstN s < 0
  · exact read_13 s w h2
  by_cases h3 : firstN s < 32
  · exact read_10 s w (by omega) h3
  by_cases h4 : firstN s = 127
  · exact read_127 s w h4
  exact read_rest s w (by omega) h1 h4
end Go.Proofs.Ytpndbbepfjocgaa
