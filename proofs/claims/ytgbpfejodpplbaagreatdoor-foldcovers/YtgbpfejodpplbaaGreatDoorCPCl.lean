import Derived.Test.YtgbpfejodpplbaaGreatDoorCPCm
import Derived.Test.YtgbpfejodpplbaaGreatDoorCIOps
namespace Go.Proofs.YtgbpfejodpplbaaGreatDoor
open Go.RowKit Go.WideShapes Go.Shelf
set_option maxRecDepth 100000
set_option linter.unusedSimpArgs false

theorem inside_any (b e fr i nd : Nat) (w : World) :
    Calls Tryz.prog 74 #[.agg #[.int .u32 b, .int .u32 e, .int .u32 fr, .int .i64 nd], .int .u32 i] w fun x w' => x = .returned (.bool (decide (b < i) && decide (i < e))) ∧ Below w.heap.size w w' := by
  by_cases h1 : b < i
  · by_cases h2 : i < e
    · have i1 : (b : Int) < (i : Int) := Int.ofNat_lt.2 h1
      have i2 : (i : Int) < (e : Int) := Int.ofNat_lt.2 h2
      go_enter Tryz.func74, Tryz.ntmps74
      go_wp2
      go_ret
      exact ⟨by simp [h1, h2], belP (Below.refl _ _)⟩
    · have i1 : (b : Int) < (i : Int) := Int.ofNat_lt.2 h1
      have i2 : ¬ (i : Int) < (e : Int) := fun q => h2 (Int.ofNat_lt.1 q)
      go_enter Tryz.func74, Tryz.ntmps74
      go_wp2
      go_ret
      exact ⟨by simp [h1, h2], belP (Below.refl _ _)⟩
  · have i1 : ¬ (b : Int) < (i : Int) := fun q => h1 (Int.ofNat_lt.1 q)
    go_enter Tryz.func74, Tryz.ntmps74
    go_wp2
    go_ret
    exact ⟨by simp [h1], belP (Below.refl _ _)⟩
def endK (k : Nat) : Bool := k == 3 || k == 4 || k == 7 || k == 8
theorem ends_any (k : Nat) (w : World) (hk : k < 256) :
    Calls Tryz.prog 75 #[.int .u8 k] w fun x w' => x = .returned (.bool (endK k)) ∧ w' = w := by
  by_cases h3 : k = 3
  · subst h3
    go_enter Tryz.func75, Tryz.ntmps75
    go_wp2
    go_ret
    exact ⟨rfl, rfl⟩
  by_cases h4 : k = 4
  · subst h4
    go_enter Tryz.func75, Tryz.ntmps75
    go_wp2
    go_ret
    exact ⟨rfl, rfl⟩
  by_cases h7 : k = 7
  · subst h7
    go_enter Tryz.func75, Tryz.ntmps75
    go_wp2
    go_ret
    exact ⟨rfl, rfl⟩
  by_cases h8 : k = 8
  · subst h8
    go_enter Tryz.func75, Tryz.ntmps75
    go_wp2
    go_ret
    exact ⟨rfl, rfl⟩
  · have q3 : ¬ (k : Int) = 3 := by omega
    have q4 : ¬ (k : Int) = 4 := by omega
    have q7 : ¬ (k : Int) = 7 := by omega
    have q8 : ¬ (k : Int) = 8 := by omega
    have he : endK k = false := by simp [endK, h3, h4, h7, h8]
    rw [he]
    clear h3 h4 h7 h8 he
    go_enter Tryz.func75, Tryz.ntmps75
    go_wp2
    go_ret
    exact ⟨rfl, rfl⟩
def mayFr (b : Nat) : Bool := b % 4 == 0 && decide (0 < b) && decide (b ≤ 4096)
theorem frame_any (b : Nat) (w : World) (hb : b < 4294967296) :
    Calls Tryz.prog 73 #[.int .u32 b] w fun x w' => x = .returned (.bool (mayFr b)) ∧ w' = w := by
  by_cases h1 : b % 4 = 0
  · have i1 : (b : Int) % 4 = 0 := by omega
    by_cases h2 : 0 < b
    · have i2 : (0 : Int) < (b : Int) := by omega
      by_cases h3 : b ≤ 4096
      · have i3 : (b : Int) ≤ 4096 := by omega
        rw [show mayFr b = true by simp [mayFr, h1, h2, h3]]
        go_enter Tryz.func73, Tryz.ntmps73
        go_wp2
        go_ret
        exact ⟨rfl, rfl⟩
      · have i3 : ¬ (b : Int) ≤ 4096 := by omega
        rw [show mayFr b = false by simp [mayFr, h1, h2, h3]]
        go_enter Tryz.func73, Tryz.ntmps73
        go_wp2
        go_ret
        exact ⟨rfl, rfl⟩
    · have hb0 : b = 0 := by omega
      subst hb0
      go_enter Tryz.func73, Tryz.ntmps73
      go_wp2
      go_ret
      exact ⟨rfl, rfl⟩
  · have i1 : ¬ (b : Int) % 4 = 0 := by omega
    rw [show mayFr b = false by simp [mayFr, h1]]
    go_enter Tryz.func73, Tryz.ntmps73
    go_wp2
    go_ret
    exact ⟨rfl, rfl⟩
theorem opKi_lt (op : Nat) (h : op < 256) : opKi op < 256 := by
  have := List.all_eq_true.1 (show ((List.range 256).all fun k => decide (opKi k < 256)) = true by kernel_rfl) op (List.mem_range.2 h)
  exact of_decide_eq_true this
/-- what checkInstr answers -/
def ckE (k arg at_ b e fr : Nat) : Nat :=
  if ((k == 6 && !mayFr arg) || (k == 7 && !(arg == fr))) = true then 131
  else if ((k == 3 || k == 2) && !(decide (b < arg) && decide (arg < e))) = true then 132
  else if ((at_ + 1 == e) && !endK k) = true then 133 else 0
set_option maxHeartbeats 2000000 in
theorem pchk_any (op arg at_ b d fr nd : Nat) (w : World) (hop : op < 256) (harg : arg < 4294967296) (_hd : d + 1 < 4294967296) :
    Calls Tryz.prog 49 #[.agg #[.int .u8 op, .int .u32 arg], .int .u32 at_, .agg #[.int .u32 b, .int .u32 (d + 1 : Nat), .int .u32 fr, .int .i64 nd]] w fun x w' => x = .returned (.int .i64 (ckE (opKi op) arg at_ b (d + 1) fr : Nat)) ∧ Below w.heap.size w w' := by
  have hsub : ((d + 1 : Nat) : Int) - 1 = (d : Int) := by omega
  have HM := hidS (fun W => frame_any arg W harg)
  have HS := hidS (fun W => inside_any b (d + 1) fr arg nd W)
  have hW : Below w.heap.size w ((w.alloc (Obj.cells #[.int .u8 (op : Int), .int .u32 (arg : Int)] 43)).alloc (Obj.cells #[.int .u32 (b : Int), .int .u32 ((d + 1 : Nat) : Int), .int .u32 (fr : Int), .int .i64 (nd : Int)] 94)) := belP (belP (Below.refl _ _))
  have HC : Hid (∀ V, Below ((w.alloc (Obj.cells #[.int .u8 (op : Int), .int .u32 (arg : Int)] 43)).alloc (Obj.cells #[.int .u32 (b : Int), .int .u32 ((d + 1 : Nat) : Int), .int .u32 (fr : Int), .int .i64 (nd : Int)] 94)).heap.size ((w.alloc (Obj.cells #[.int .u8 (op : Int), .int .u32 (arg : Int)] 43)).alloc (Obj.cells #[.int .u32 (b : Int), .int .u32 ((d + 1 : Nat) : Int), .int .u32 (fr : Int), .int .i64 (nd : Int)] 94)) V →
      V.cell? ⟨w.heap.size, 1, none⟩ = some (.int .u32 (arg : Int)) ∧ V.cell? ⟨w.heap.size + 1, 1, none⟩ = some (.int .u32 ((d + 1 : Nat) : Int)) ∧ V.cell? ⟨w.heap.size + 1, 2, none⟩ = some (.int .u32 (fr : Int)) ∧ V.cell? ⟨w.heap.size + 1, 0, none⟩ = some (.int .u32 (b : Int)) ∧ V.cell? ⟨w.heap.size + 1, 3, none⟩ = some (.int .i64 (nd : Int))) := hidS (fun V hV => by
    have o1 := (hV.block w.heap.size (by simp only [World.size_alloc]; omega)).trans ((Below.heap_alloc _ _ _ (by simp)).trans (heap_alloc_new w (Obj.cells #[.int .u8 (op : Int), .int .u32 (arg : Int)] 43)))
    have o2 := heap_alloc_new (w.alloc (Obj.cells #[.int .u8 (op : Int), .int .u32 (arg : Int)] 43)) (Obj.cells #[.int .u32 (b : Int), .int .u32 ((d + 1 : Nat) : Int), .int .u32 (fr : Int), .int .i64 (nd : Int)] 94)
    rw [World.size_alloc] at o2
    have o3 := (hV.block (w.heap.size + 1) (by simp only [World.size_alloc]; omega)).trans o2
    exact ⟨(obj_cell o1 1).trans rfl, (obj_cell o3 1).trans rfl, (obj_cell o3 2).trans rfl, (obj_cell o3 0).trans rfl, (obj_cell o3 3).trans rfl⟩)
  by_cases hk : opKi op = 6
  · have HI := hidS (fun W => info_any op W hop)
    rw [hk] at HI ⊢
    have HE := hidS (fun W => ends_any 6 W (by decide))
    rw [show endK 6 = false by decide] at HE
    cases hq : mayFr arg
    · rw [hq] at HM
      rw [show ckE 6 arg at_ b (d + 1) fr = 131 by simp [ckE, endK, hq]]
      go_enter Tryz.func49, Tryz.ntmps49
      go_wp2_with (first
        | (go_at_call 40; refine (HI.out _).mono ?_; rintro e1 w1 ⟨rfl, hb1⟩; have cI := fun o => (HC.out (w1.alloc o) (belP hb1)).1; have cE := fun o => (HC.out (w1.alloc o) (belP hb1)).2.1; have cF := fun o => (HC.out (w1.alloc o) (belP hb1)).2.2.1; have cA := fun o => (HC.out (w1.alloc o) (belP hb1)).2.2.2.1; have cD := fun o => (HC.out (w1.alloc o) (belP hb1)).2.2.2.2)
        | (go_at_call 73; refine (HM.out _).mono ?_; rintro e2 w2 ⟨rfl, hw2⟩; have hw2 := hw2.symm; subst hw2)
        | (go_at_call 74; refine (HS.out _).mono ?_; rintro e3 w3 ⟨rfl, hb3⟩; have hb31 := btP (belP hb1) hb3; have cE3 := (HC.out w3 hb31).2.1)
        | (go_at_call 75; refine (HE.out _).mono ?_; rintro e4 w4 ⟨rfl, hw4⟩; have hw4 := hw4.symm; subst hw4))
      go_ret
      first
      | exact ⟨rfl, btP hW (belP hb1)⟩
      | exact ⟨rfl, btP hW hb31⟩
    · rw [hq] at HM
      by_cases ha : at_ = d
      · have ia : (at_ : Int) = (d : Int) := by omega
        rw [show ckE 6 arg at_ b (d + 1) fr = 133 by simp [ckE, endK, ha, hq]]
        go_enter Tryz.func49, Tryz.ntmps49
        go_wp2_with (first
          | (go_at_call 40; refine (HI.out _).mono ?_; rintro e1 w1 ⟨rfl, hb1⟩; have cI := fun o => (HC.out (w1.alloc o) (belP hb1)).1; have cE := fun o => (HC.out (w1.alloc o) (belP hb1)).2.1; have cF := fun o => (HC.out (w1.alloc o) (belP hb1)).2.2.1; have cA := fun o => (HC.out (w1.alloc o) (belP hb1)).2.2.2.1; have cD := fun o => (HC.out (w1.alloc o) (belP hb1)).2.2.2.2)
          | (go_at_call 73; refine (HM.out _).mono ?_; rintro e2 w2 ⟨rfl, hw2⟩; have hw2 := hw2.symm; subst hw2)
          | (go_at_call 74; refine (HS.out _).mono ?_; rintro e3 w3 ⟨rfl, hb3⟩; have hb31 := btP (belP hb1) hb3; have cE3 := (HC.out w3 hb31).2.1)
          | (go_at_call 75; refine (HE.out _).mono ?_; rintro e4 w4 ⟨rfl, hw4⟩; have hw4 := hw4.symm; subst hw4))
        go_ret
        first
        | exact ⟨rfl, btP hW (belP hb1)⟩
        | exact ⟨rfl, btP hW hb31⟩
      · have ia : ¬ (at_ : Int) = (d : Int) := by omega
        rw [show ckE 6 arg at_ b (d + 1) fr = 0 by simp [ckE, endK, ha, hq]]
        go_enter Tryz.func49, Tryz.ntmps49
        go_wp2_with (first
          | (go_at_call 40; refine (HI.out _).mono ?_; rintro e1 w1 ⟨rfl, hb1⟩; have cI := fun o => (HC.out (w1.alloc o) (belP hb1)).1; have cE := fun o => (HC.out (w1.alloc o) (belP hb1)).2.1; have cF := fun o => (HC.out (w1.alloc o) (belP hb1)).2.2.1; have cA := fun o => (HC.out (w1.alloc o) (belP hb1)).2.2.2.1; have cD := fun o => (HC.out (w1.alloc o) (belP hb1)).2.2.2.2)
          | (go_at_call 73; refine (HM.out _).mono ?_; rintro e2 w2 ⟨rfl, hw2⟩; have hw2 := hw2.symm; subst hw2)
          | (go_at_call 74; refine (HS.out _).mono ?_; rintro e3 w3 ⟨rfl, hb3⟩; have hb31 := btP (belP hb1) hb3; have cE3 := (HC.out w3 hb31).2.1)
          | (go_at_call 75; refine (HE.out _).mono ?_; rintro e4 w4 ⟨rfl, hw4⟩; have hw4 := hw4.symm; subst hw4))
        go_ret
        first
        | exact ⟨rfl, btP hW (belP hb1)⟩
        | exact ⟨rfl, btP hW hb31⟩
  by_cases hk : opKi op = 7
  · have HI := hidS (fun W => info_any op W hop)
    rw [hk] at HI ⊢
    have HE := hidS (fun W => ends_any 7 W (by decide))
    rw [show endK 7 = true by decide] at HE
    by_cases hq : arg = fr
    · subst hq
      by_cases ha : at_ = d
      · have ia : (at_ : Int) = (d : Int) := by omega
        rw [show ckE 7 arg at_ b (d + 1) arg = 0 by simp [ckE, endK, ha]]
        go_enter Tryz.func49, Tryz.ntmps49
        go_wp2_with (first
          | (go_at_call 40; refine (HI.out _).mono ?_; rintro e1 w1 ⟨rfl, hb1⟩; have cI := fun o => (HC.out (w1.alloc o) (belP hb1)).1; have cE := fun o => (HC.out (w1.alloc o) (belP hb1)).2.1; have cF := fun o => (HC.out (w1.alloc o) (belP hb1)).2.2.1; have cA := fun o => (HC.out (w1.alloc o) (belP hb1)).2.2.2.1; have cD := fun o => (HC.out (w1.alloc o) (belP hb1)).2.2.2.2)
          | (go_at_call 73; refine (HM.out _).mono ?_; rintro e2 w2 ⟨rfl, hw2⟩; have hw2 := hw2.symm; subst hw2)
          | (go_at_call 74; refine (HS.out _).mono ?_; rintro e3 w3 ⟨rfl, hb3⟩; have hb31 := btP (belP hb1) hb3; have cE3 := (HC.out w3 hb31).2.1)
          | (go_at_call 75; refine (HE.out _).mono ?_; rintro e4 w4 ⟨rfl, hw4⟩; have hw4 := hw4.symm; subst hw4))
        go_ret
        first
        | exact ⟨rfl, btP hW (belP hb1)⟩
        | exact ⟨rfl, btP hW hb31⟩
      · have ia : ¬ (at_ : Int) = (d : Int) := by omega
        rw [show ckE 7 arg at_ b (d + 1) arg = 0 by simp [ckE, endK, ha]]
        go_enter Tryz.func49, Tryz.ntmps49
        go_wp2_with (first
          | (go_at_call 40; refine (HI.out _).mono ?_; rintro e1 w1 ⟨rfl, hb1⟩; have cI := fun o => (HC.out (w1.alloc o) (belP hb1)).1; have cE := fun o => (HC.out (w1.alloc o) (belP hb1)).2.1; have cF := fun o => (HC.out (w1.alloc o) (belP hb1)).2.2.1; have cA := fun o => (HC.out (w1.alloc o) (belP hb1)).2.2.2.1; have cD := fun o => (HC.out (w1.alloc o) (belP hb1)).2.2.2.2)
          | (go_at_call 73; refine (HM.out _).mono ?_; rintro e2 w2 ⟨rfl, hw2⟩; have hw2 := hw2.symm; subst hw2)
          | (go_at_call 74; refine (HS.out _).mono ?_; rintro e3 w3 ⟨rfl, hb3⟩; have hb31 := btP (belP hb1) hb3; have cE3 := (HC.out w3 hb31).2.1)
          | (go_at_call 75; refine (HE.out _).mono ?_; rintro e4 w4 ⟨rfl, hw4⟩; have hw4 := hw4.symm; subst hw4))
        go_ret
        first
        | exact ⟨rfl, btP hW (belP hb1)⟩
        | exact ⟨rfl, btP hW hb31⟩
    · have iq : ¬ (arg : Int) = (fr : Int) := by omega
      rw [show ckE 7 arg at_ b (d + 1) fr = 131 by simp [ckE, endK, hq]]
      go_enter Tryz.func49, Tryz.ntmps49
      go_wp2_with (first
        | (go_at_call 40; refine (HI.out _).mono ?_; rintro e1 w1 ⟨rfl, hb1⟩; have cI := fun o => (HC.out (w1.alloc o) (belP hb1)).1; have cE := fun o => (HC.out (w1.alloc o) (belP hb1)).2.1; have cF := fun o => (HC.out (w1.alloc o) (belP hb1)).2.2.1; have cA := fun o => (HC.out (w1.alloc o) (belP hb1)).2.2.2.1; have cD := fun o => (HC.out (w1.alloc o) (belP hb1)).2.2.2.2)
        | (go_at_call 73; refine (HM.out _).mono ?_; rintro e2 w2 ⟨rfl, hw2⟩; have hw2 := hw2.symm; subst hw2)
        | (go_at_call 74; refine (HS.out _).mono ?_; rintro e3 w3 ⟨rfl, hb3⟩; have hb31 := btP (belP hb1) hb3; have cE3 := (HC.out w3 hb31).2.1)
        | (go_at_call 75; refine (HE.out _).mono ?_; rintro e4 w4 ⟨rfl, hw4⟩; have hw4 := hw4.symm; subst hw4))
      go_ret
      first
      | exact ⟨rfl, btP hW (belP hb1)⟩
      | exact ⟨rfl, btP hW hb31⟩
  by_cases hk : opKi op = 3
  · have HI := hidS (fun W => info_any op W hop)
    rw [hk] at HI ⊢
    have HE := hidS (fun W => ends_any 3 W (by decide))
    rw [show endK 3 = true by decide] at HE
    cases hq : (decide (b < arg) && decide (arg < d + 1))
    · rw [hq] at HS
      rw [show ckE 3 arg at_ b (d + 1) fr = 132 by simp [ckE, endK, hq]]
      go_enter Tryz.func49, Tryz.ntmps49
      go_wp2_with (first
        | (go_at_call 40; refine (HI.out _).mono ?_; rintro e1 w1 ⟨rfl, hb1⟩; have cI := fun o => (HC.out (w1.alloc o) (belP hb1)).1; have cE := fun o => (HC.out (w1.alloc o) (belP hb1)).2.1; have cF := fun o => (HC.out (w1.alloc o) (belP hb1)).2.2.1; have cA := fun o => (HC.out (w1.alloc o) (belP hb1)).2.2.2.1; have cD := fun o => (HC.out (w1.alloc o) (belP hb1)).2.2.2.2)
        | (go_at_call 73; refine (HM.out _).mono ?_; rintro e2 w2 ⟨rfl, hw2⟩; have hw2 := hw2.symm; subst hw2)
        | (go_at_call 74; refine (HS.out _).mono ?_; rintro e3 w3 ⟨rfl, hb3⟩; have hb31 := btP (belP hb1) hb3; have cE3 := (HC.out w3 hb31).2.1)
        | (go_at_call 75; refine (HE.out _).mono ?_; rintro e4 w4 ⟨rfl, hw4⟩; have hw4 := hw4.symm; subst hw4))
      go_ret
      first
      | exact ⟨rfl, btP hW (belP hb1)⟩
      | exact ⟨rfl, btP hW hb31⟩
    · rw [hq] at HS
      by_cases ha : at_ = d
      · have ia : (at_ : Int) = (d : Int) := by omega
        rw [show ckE 3 arg at_ b (d + 1) fr = 0 by simp [ckE, endK, ha, hq]]
        go_enter Tryz.func49, Tryz.ntmps49
        go_wp2_with (first
          | (go_at_call 40; refine (HI.out _).mono ?_; rintro e1 w1 ⟨rfl, hb1⟩; have cI := fun o => (HC.out (w1.alloc o) (belP hb1)).1; have cE := fun o => (HC.out (w1.alloc o) (belP hb1)).2.1; have cF := fun o => (HC.out (w1.alloc o) (belP hb1)).2.2.1; have cA := fun o => (HC.out (w1.alloc o) (belP hb1)).2.2.2.1; have cD := fun o => (HC.out (w1.alloc o) (belP hb1)).2.2.2.2)
          | (go_at_call 73; refine (HM.out _).mono ?_; rintro e2 w2 ⟨rfl, hw2⟩; have hw2 := hw2.symm; subst hw2)
          | (go_at_call 74; refine (HS.out _).mono ?_; rintro e3 w3 ⟨rfl, hb3⟩; have hb31 := btP (belP hb1) hb3; have cE3 := (HC.out w3 hb31).2.1)
          | (go_at_call 75; refine (HE.out _).mono ?_; rintro e4 w4 ⟨rfl, hw4⟩; have hw4 := hw4.symm; subst hw4))
        go_ret
        first
        | exact ⟨rfl, btP hW (belP hb1)⟩
        | exact ⟨rfl, btP hW hb31⟩
      · have ia : ¬ (at_ : Int) = (d : Int) := by omega
        rw [show ckE 3 arg at_ b (d + 1) fr = 0 by simp [ckE, endK, ha, hq]]
        go_enter Tryz.func49, Tryz.ntmps49
        go_wp2_with (first
          | (go_at_call 40; refine (HI.out _).mono ?_; rintro e1 w1 ⟨rfl, hb1⟩; have cI := fun o => (HC.out (w1.alloc o) (belP hb1)).1; have cE := fun o => (HC.out (w1.alloc o) (belP hb1)).2.1; have cF := fun o => (HC.out (w1.alloc o) (belP hb1)).2.2.1; have cA := fun o => (HC.out (w1.alloc o) (belP hb1)).2.2.2.1; have cD := fun o => (HC.out (w1.alloc o) (belP hb1)).2.2.2.2)
          | (go_at_call 73; refine (HM.out _).mono ?_; rintro e2 w2 ⟨rfl, hw2⟩; have hw2 := hw2.symm; subst hw2)
          | (go_at_call 74; refine (HS.out _).mono ?_; rintro e3 w3 ⟨rfl, hb3⟩; have hb31 := btP (belP hb1) hb3; have cE3 := (HC.out w3 hb31).2.1)
          | (go_at_call 75; refine (HE.out _).mono ?_; rintro e4 w4 ⟨rfl, hw4⟩; have hw4 := hw4.symm; subst hw4))
        go_ret
        first
        | exact ⟨rfl, btP hW (belP hb1)⟩
        | exact ⟨rfl, btP hW hb31⟩
  by_cases hk : opKi op = 2
  · have HI := hidS (fun W => info_any op W hop)
    rw [hk] at HI ⊢
    have HE := hidS (fun W => ends_any 2 W (by decide))
    rw [show endK 2 = false by decide] at HE
    cases hq : (decide (b < arg) && decide (arg < d + 1))
    · rw [hq] at HS
      rw [show ckE 2 arg at_ b (d + 1) fr = 132 by simp [ckE, endK, hq]]
      go_enter Tryz.func49, Tryz.ntmps49
      go_wp2_with (first
        | (go_at_call 40; refine (HI.out _).mono ?_; rintro e1 w1 ⟨rfl, hb1⟩; have cI := fun o => (HC.out (w1.alloc o) (belP hb1)).1; have cE := fun o => (HC.out (w1.alloc o) (belP hb1)).2.1; have cF := fun o => (HC.out (w1.alloc o) (belP hb1)).2.2.1; have cA := fun o => (HC.out (w1.alloc o) (belP hb1)).2.2.2.1; have cD := fun o => (HC.out (w1.alloc o) (belP hb1)).2.2.2.2)
        | (go_at_call 73; refine (HM.out _).mono ?_; rintro e2 w2 ⟨rfl, hw2⟩; have hw2 := hw2.symm; subst hw2)
        | (go_at_call 74; refine (HS.out _).mono ?_; rintro e3 w3 ⟨rfl, hb3⟩; have hb31 := btP (belP hb1) hb3; have cE3 := (HC.out w3 hb31).2.1)
        | (go_at_call 75; refine (HE.out _).mono ?_; rintro e4 w4 ⟨rfl, hw4⟩; have hw4 := hw4.symm; subst hw4))
      go_ret
      first
      | exact ⟨rfl, btP hW (belP hb1)⟩
      | exact ⟨rfl, btP hW hb31⟩
    · rw [hq] at HS
      by_cases ha : at_ = d
      · have ia : (at_ : Int) = (d : Int) := by omega
        rw [show ckE 2 arg at_ b (d + 1) fr = 133 by simp [ckE, endK, ha, hq]]
        go_enter Tryz.func49, Tryz.ntmps49
        go_wp2_with (first
          | (go_at_call 40; refine (HI.out _).mono ?_; rintro e1 w1 ⟨rfl, hb1⟩; have cI := fun o => (HC.out (w1.alloc o) (belP hb1)).1; have cE := fun o => (HC.out (w1.alloc o) (belP hb1)).2.1; have cF := fun o => (HC.out (w1.alloc o) (belP hb1)).2.2.1; have cA := fun o => (HC.out (w1.alloc o) (belP hb1)).2.2.2.1; have cD := fun o => (HC.out (w1.alloc o) (belP hb1)).2.2.2.2)
          | (go_at_call 73; refine (HM.out _).mono ?_; rintro e2 w2 ⟨rfl, hw2⟩; have hw2 := hw2.symm; subst hw2)
          | (go_at_call 74; refine (HS.out _).mono ?_; rintro e3 w3 ⟨rfl, hb3⟩; have hb31 := btP (belP hb1) hb3; have cE3 := (HC.out w3 hb31).2.1)
          | (go_at_call 75; refine (HE.out _).mono ?_; rintro e4 w4 ⟨rfl, hw4⟩; have hw4 := hw4.symm; subst hw4))
        go_ret
        first
        | exact ⟨rfl, btP hW (belP hb1)⟩
        | exact ⟨rfl, btP hW hb31⟩
      · have ia : ¬ (at_ : Int) = (d : Int) := by omega
        rw [show ckE 2 arg at_ b (d + 1) fr = 0 by simp [ckE, endK, ha, hq]]
        go_enter Tryz.func49, Tryz.ntmps49
        go_wp2_with (first
          | (go_at_call 40; refine (HI.out _).mono ?_; rintro e1 w1 ⟨rfl, hb1⟩; have cI := fun o => (HC.out (w1.alloc o) (belP hb1)).1; have cE := fun o => (HC.out (w1.alloc o) (belP hb1)).2.1; have cF := fun o => (HC.out (w1.alloc o) (belP hb1)).2.2.1; have cA := fun o => (HC.out (w1.alloc o) (belP hb1)).2.2.2.1; have cD := fun o => (HC.out (w1.alloc o) (belP hb1)).2.2.2.2)
          | (go_at_call 73; refine (HM.out _).mono ?_; rintro e2 w2 ⟨rfl, hw2⟩; have hw2 := hw2.symm; subst hw2)
          | (go_at_call 74; refine (HS.out _).mono ?_; rintro e3 w3 ⟨rfl, hb3⟩; have hb31 := btP (belP hb1) hb3; have cE3 := (HC.out w3 hb31).2.1)
          | (go_at_call 75; refine (HE.out _).mono ?_; rintro e4 w4 ⟨rfl, hw4⟩; have hw4 := hw4.symm; subst hw4))
        go_ret
        first
        | exact ⟨rfl, btP hW (belP hb1)⟩
        | exact ⟨rfl, btP hW hb31⟩
  rename_i n6 n7 n3
  have HI := hidS (fun W => info_any op W hop)
  have hk256 : opKi op < 256 := opKi_lt op hop
  generalize opKi op = k at HI hk256 n6 n7 n3 hk ⊢
  have HE := hidS (fun W => ends_any k W hk256)
  have i6 : ¬ (k : Int) = 6 := by omega
  have i7 : ¬ (k : Int) = 7 := by omega
  have i3 : ¬ (k : Int) = 3 := by omega
  have i2 : ¬ (k : Int) = 2 := by omega
  by_cases ha : at_ = d
  · have ia : (at_ : Int) = (d : Int) := by omega
    cases hq : endK k
    · rw [hq] at HE
      rw [show ckE k arg at_ b (d + 1) fr = 133 by simp [ckE, hq, ha, hk, n6, n7, n3]]
      clear hq ha hk n6 n7 n3
      go_enter Tryz.func49, Tryz.ntmps49
      go_wp2_with (first
        | (go_at_call 40; refine (HI.out _).mono ?_; rintro e1 w1 ⟨rfl, hb1⟩; have cI := fun o => (HC.out (w1.alloc o) (belP hb1)).1; have cE := fun o => (HC.out (w1.alloc o) (belP hb1)).2.1; have cF := fun o => (HC.out (w1.alloc o) (belP hb1)).2.2.1; have cA := fun o => (HC.out (w1.alloc o) (belP hb1)).2.2.2.1; have cD := fun o => (HC.out (w1.alloc o) (belP hb1)).2.2.2.2)
        | (go_at_call 73; refine (HM.out _).mono ?_; rintro e2 w2 ⟨rfl, hw2⟩; have hw2 := hw2.symm; subst hw2)
        | (go_at_call 74; refine (HS.out _).mono ?_; rintro e3 w3 ⟨rfl, hb3⟩; have hb31 := btP (belP hb1) hb3; have cE3 := (HC.out w3 hb31).2.1)
        | (go_at_call 75; refine (HE.out _).mono ?_; rintro e4 w4 ⟨rfl, hw4⟩; have hw4 := hw4.symm; subst hw4))
      go_ret
      first
      | exact ⟨rfl, btP hW (belP hb1)⟩
      | exact ⟨rfl, btP hW hb31⟩
    · rw [hq] at HE
      rw [show ckE k arg at_ b (d + 1) fr = 0 by simp [ckE, hq, ha, hk, n6, n7, n3]]
      clear hq ha hk n6 n7 n3
      go_enter Tryz.func49, Tryz.ntmps49
      go_wp2_with (first
        | (go_at_call 40; refine (HI.out _).mono ?_; rintro e1 w1 ⟨rfl, hb1⟩; have cI := fun o => (HC.out (w1.alloc o) (belP hb1)).1; have cE := fun o => (HC.out (w1.alloc o) (belP hb1)).2.1; have cF := fun o => (HC.out (w1.alloc o) (belP hb1)).2.2.1; have cA := fun o => (HC.out (w1.alloc o) (belP hb1)).2.2.2.1; have cD := fun o => (HC.out (w1.alloc o) (belP hb1)).2.2.2.2)
        | (go_at_call 73; refine (HM.out _).mono ?_; rintro e2 w2 ⟨rfl, hw2⟩; have hw2 := hw2.symm; subst hw2)
        | (go_at_call 74; refine (HS.out _).mono ?_; rintro e3 w3 ⟨rfl, hb3⟩; have hb31 := btP (belP hb1) hb3; have cE3 := (HC.out w3 hb31).2.1)
        | (go_at_call 75; refine (HE.out _).mono ?_; rintro e4 w4 ⟨rfl, hw4⟩; have hw4 := hw4.symm; subst hw4))
      go_ret
      first
      | exact ⟨rfl, btP hW (belP hb1)⟩
      | exact ⟨rfl, btP hW hb31⟩
  · have ia : ¬ (at_ : Int) = (d : Int) := by omega
    rw [show ckE k arg at_ b (d + 1) fr = 0 by simp [ckE, ha, hk, n6, n7, n3]]
    clear ha hk n6 n7 n3
    go_enter Tryz.func49, Tryz.ntmps49
    go_wp2_with (first
      | (go_at_call 40; refine (HI.out _).mono ?_; rintro e1 w1 ⟨rfl, hb1⟩; have cI := fun o => (HC.out (w1.alloc o) (belP hb1)).1; have cE := fun o => (HC.out (w1.alloc o) (belP hb1)).2.1; have cF := fun o => (HC.out (w1.alloc o) (belP hb1)).2.2.1; have cA := fun o => (HC.out (w1.alloc o) (belP hb1)).2.2.2.1; have cD := fun o => (HC.out (w1.alloc o) (belP hb1)).2.2.2.2)
      | (go_at_call 73; refine (HM.out _).mono ?_; rintro e2 w2 ⟨rfl, hw2⟩; have hw2 := hw2.symm; subst hw2)
      | (go_at_call 74; refine (HS.out _).mono ?_; rintro e3 w3 ⟨rfl, hb3⟩; have hb31 := btP (belP hb1) hb3; have cE3 := (HC.out w3 hb31).2.1)
      | (go_at_call 75; refine (HE.out _).mono ?_; rintro e4 w4 ⟨rfl, hw4⟩; have hw4 := hw4.symm; subst hw4))
    go_ret
    first
    | exact ⟨rfl, btP hW (belP hb1)⟩
    | exact ⟨rfl, btP hW hb31⟩
end Go.Proofs.YtgbpfejodpplbaaGreatDoor
