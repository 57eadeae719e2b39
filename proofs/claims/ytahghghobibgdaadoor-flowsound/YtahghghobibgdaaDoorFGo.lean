import Derived.Test.YtahghghobibgdaaDoorCFDt
import Derived.Test.YtahghghobibgdaaDoorCFSi
namespace Go.Proofs.YtahghghobibgdaaDoor
open Go.RowKit Go.WideShapes Go.Shelf
set_option maxRecDepth 100000
theorem bAt_le {L : List (Nat × Nat)} (k : Nat) : bAt L k ≤ L.length := by
  have := bgs_end (L := L) k
  unfold bAt
  omega
theorem opKi_is : ∀ op, op < 256 → isOp op = true → opKi op = 1 ∨ opKi op = 2 ∨ opKi op = 3 ∨ opKi op = 4 ∨ opKi op = 5 ∨ opKi op = 6 ∨ opKi op = 7 ∨ opKi op = 8 := by decide +kernel
theorem nxt_none {L : List (Nat × Nat)} {J : List Nat} {i : Nat} (hop : opL L i < 256) (his : isOp (opL L i) = true) (h : nxt L J i = []) : opKi (opL L i) = 7 ∨ opKi (opL L i) = 8 ∨ opKi (opL L i) = 4 := by
  have hk := opKi_is _ hop his
  unfold nxt at h
  split at h
  · cases h
  · split at h
    · split at h <;> cases h
    · split at h
      · cases h
      · split at h
        · omega
        · omega
theorem nxt_seven {L : List (Nat × Nat)} {J : List Nat} {i : Nat} (h : opKi (opL L i) = 7) : nxt L J i = [] := by
  unfold nxt
  simp [h]
set_option maxHeartbeats 2000000 in
/-- what goes asks, over bare numbers -/
theorem goes_core (ao aj : Option Addr) (cap capj : Nat) (b off n i op gd cp : Nat) (sj : Nat) (dn : Nat) (d need ta gi : Int) (ki s1 s2 : Nat) (s0 : ByteArray) (bo : Bool) (l : List Nat) (w : World) (hao : ao = some ⟨b, off, none⟩)
    (hi : i < n) (hn : n ≤ 16384) (hdn : dn = n) (hl : ∀ k, k < l.length → l.getD k 0 < n) (hll : l.length ≤ 16384) (hd : -1 ≤ d ∧ d ≤ 64) (hnd : 0 ≤ need ∧ need ≤ 64) (hta : 0 ≤ ta ∧ ta ≤ 16) (hgi : 0 ≤ gi ∧ gi ≤ 16) (h1 : ta ≤ d) (h2 : d ≤ need) (h3 : d - ta + gi ≤ need)
    (hk : (ki = 7 ∧ d = 1 ∧ l = []) ∨ (ki = 8 ∧ l = []) ∨ (ki = 4 ∧ l = []) ∨ (ki ≠ 7 ∧ l ≠ [])) (hk2 : ki < 256)
    (HW : Hid (∀ W, Below w.heap.size w W → W.cell? ⟨b, off + i * 2, none⟩ = some (.int .u8 (op : Nat)) ∧ W.cell? ⟨gd, i, none⟩ = some (.int .i64 d) ∧ (∀ k, k < l.length → W.cell? ⟨gd, l.getD k 0, none⟩ = some (.int .i64 (d - ta + gi))) ∧
      Calls Tryd.prog 29 #[.int .u8 op] W (fun e w' => e = .returned (.tuple #[.agg #[.string s0, .int .i64 s1, .int .u32 s2, .int .i64 ta, .int .i64 gi, .int .u8 ki], .bool bo]) ∧ Below W.heap.size W w') ∧
      Calls Tryd.prog 30 #[.slice ao n cap, .slice aj sj capj, .int .u32 i] W (NeW W l))) :
    Calls Tryd.prog 11 #[.agg #[.slice ao n cap, .slice aj sj capj], .slice (some ⟨gd, 0, none⟩) dn cp, .int .i64 need, .int .i64 i] w fun e w' => e = .returned (.bool true) ∧ Below w.heap.size w w' := by
  subst hao hdn
  have hb0 : ∀ o, Below w.heap.size w (w.alloc o) := fun o => belP (Below.refl _ _)
  have k1 := fun o => (HW.out (w.alloc o) (hb0 o)).1
  have HI := hidS (fun o => (HW.out (w.alloc o) (hb0 o)).2.2.2.1)
  have hiI : (i : Int) < (dn : Int) := by omega
  have hiJ : (i : Int) < 16384 := by omega
  have hdI : (dn : Int) ≤ 16384 := by omega
  go_enter Tryd.func11, Tryd.ntmps11
  go_wp2_with fail
  refine (HI.out _).mono ?_
  rintro e w2 ⟨rfl, hb2⟩
  have hz2 : w.heap.size < w2.heap.size := Nat.lt_of_lt_of_le (by rw [World.size_alloc]; omega) hb2.size
  have HB2 := hidS (btP (hb0 _) hb2)
  have hO := heap_thru hb2 (heap_alloc_new w _)
  have HX : Hid (∀ W, Below w2.heap.size w2 W → W.cell? ⟨w.heap.size, 0, none⟩ = some (.slice (some ⟨b, off, none⟩) dn cap) ∧ W.cell? ⟨w.heap.size, 1, none⟩ = some (.slice aj sj capj)) := hidS fun W hW => ⟨obj_cell (heap_thru hW hO) 0, obj_cell (heap_thru hW hO) 1⟩
  clear hO hb2 HI k1 hb0
  have kd := fun o => (HW.out (w2.alloc o) (belP HB2.out)).2.1
  have x0 := fun o => (HX.out (w2.alloc o) (belP (Below.refl _ _))).1
  have x1 := fun o => (HX.out (w2.alloc o) (belP (Below.refl _ _))).2
  have HN := hidS (fun o => (HW.out (w2.alloc o) (belP HB2.out)).2.2.2.2)
  rcases hk with ⟨rfl, rfl, rfl⟩ | ⟨rfl, rfl⟩ | ⟨rfl, rfl⟩ | ⟨hk7, hl0⟩
  case inl =>
    rw [show ((7 : Nat) : Int) = 7 from rfl]
    go_wp2_with fail
    refine (HN.out _).mono ?_
    rintro e w4 ⟨a4, c4, rfl, _, hb4⟩
    have hq := obj_cell (heap_thru hb4 (heap_alloc_new w2 _)) 5
    have HB4 := hidS (btP (belP HB2.out) hb4)
    clear hb4 HN kd x0 x1 HX HW hl
    change w4.cell? ⟨w2.heap.size, 5, none⟩ = some (.int .u8 7) at hq
    rw [show ([] : List Nat).length = 0 from rfl]
    go_wp2
    go_loopw [15] (fun i wr => i = .int .i64 0 ∧ wr = w4)
      (fun _ _ => 0)
    case atStart => exact ⟨rfl, rfl⟩
    case round =>
      obtain ⟨rfl, rfl⟩ := hrel
      go_wp2
      go_ret
      exact ⟨rfl, HB4.out⟩
  case inr.inl =>
    rw [show ((8 : Nat) : Int) = 8 from rfl]
    go_wp2_with fail
    refine (HN.out _).mono ?_
    rintro e w4 ⟨a4, c4, rfl, _, hb4⟩
    have hq := obj_cell (heap_thru hb4 (heap_alloc_new w2 _)) 5
    have HB4 := hidS (btP (belP HB2.out) hb4)
    clear hb4 HN kd x0 x1 HX HW hl
    change w4.cell? ⟨w2.heap.size, 5, none⟩ = some (.int .u8 8) at hq
    rw [show ([] : List Nat).length = 0 from rfl]
    go_wp2
    go_loopw [15] (fun i wr => i = .int .i64 0 ∧ wr = w4)
      (fun _ _ => 0)
    case atStart => exact ⟨rfl, rfl⟩
    case round =>
      obtain ⟨rfl, rfl⟩ := hrel
      go_wp2
      go_ret
      exact ⟨rfl, HB4.out⟩
  case inr.inr.inl =>
    rw [show ((4 : Nat) : Int) = 4 from rfl]
    go_wp2_with fail
    refine (HN.out _).mono ?_
    rintro e w4 ⟨a4, c4, rfl, _, hb4⟩
    have hq := obj_cell (heap_thru hb4 (heap_alloc_new w2 _)) 5
    have HB4 := hidS (btP (belP HB2.out) hb4)
    clear hb4 HN kd x0 x1 HX HW hl
    change w4.cell? ⟨w2.heap.size, 5, none⟩ = some (.int .u8 4) at hq
    rw [show ([] : List Nat).length = 0 from rfl]
    go_wp2
    go_loopw [15] (fun i wr => i = .int .i64 0 ∧ wr = w4)
      (fun _ _ => 0)
    case atStart => exact ⟨rfl, rfl⟩
    case round =>
      obtain ⟨rfl, rfl⟩ := hrel
      go_wp2
      go_ret
      exact ⟨rfl, HB4.out⟩
  case inr.inr.inr =>
    have hk7I : ((ki : Int) == 7) = false := beq_eq_false_iff_ne.2 (by omega)
    go_wp2_with fail
    refine (HN.out _).mono ?_
    rintro e w4 ⟨a4, c4, rfl, hj4, hb4⟩
    have hpos : 0 < l.length := List.length_pos_iff.2 hl0
    have hlI : ((l.length : Int) == 0) = false := beq_eq_false_iff_ne.2 (by omega)
    obtain ⟨b4, off4, rfl, hlt4, hc4⟩ := hj4 hpos
    have HB4 := hidS (btP (belP HB2.out) hb4)
    have HC4 := hidS hc4
    have HD4 := hidS ((HW.out w4 HB4.out).2.2.1)
    have HL := hidS hl
    clear hc4 hb4 HN kd x0 x1 HX HW hl hl0
    have hllI : (l.length : Int) ≤ 16384 := by omega
    go_wp2
    go_loopw [15] (fun i wr => ∃ k : Nat, k ≤ l.length ∧ i = .int .i64 k ∧ wr = w4)
      (fun i _ => l.length - (intOf i).toNat)
    case atStart => exact ⟨0, Nat.zero_le _, rfl, rfl⟩
    case round =>
      obtain ⟨k, hk, rfl, rfl⟩ := hrel
      by_cases hlt : k < l.length
      · have hltI : (k : Int) < (l.length : Int) := by omega
        have e1 := HC4.out k hlt
        have e2 := HD4.out k hlt
        have e3 := HL.out k hlt
        generalize l.getD k 0 = x at e1 e2 e3
        have e3I : (x : Int) < (dn : Int) := by omega
        have e3J : ¬ (dn : Int) ≤ (x : Int) := by omega
        go_wp2
        go_roundw
        case rel => exact ⟨k + 1, by omega, by go_num, by trivial⟩
        case measure => simp [intOf]; omega
      · have hltI : ¬ (k : Int) < (l.length : Int) := by omega
        go_wp2
        go_ret
        exact ⟨rfl, HB4.out⟩
end Go.Proofs.YtahghghobibgdaaDoor
