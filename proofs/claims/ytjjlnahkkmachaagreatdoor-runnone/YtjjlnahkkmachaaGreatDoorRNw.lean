import Derived.Test.YtjjlnahkkmachaaGreatDoorRNl
namespace Go.Proofs.YtjjlnahkkmachaaGreatDoor
open Go.RowKit Go.WideShapes
set_option maxRecDepth 100000
/-- an Act as a value -/
def actC (on ki fu ke at_ : Int) (a1 : Option Addr) (n1 c1 : Nat) (a2 : Option Addr) (n2 c2 : Nat) (li pc sp : Int) (a3 : Option Addr) (n3 c3 : Nat) (a4 : Option Addr) (n4 c4 : Nat) (va fl : Int) : Array Value :=
  #[.int .i64 on, .int .i64 ki, .int .i64 fu, .int .i64 ke, .int .u32 at_, .slice a1 n1 c1, .slice a2 n2 c2, .int .u8 li, .int .u32 pc, .int .u32 sp, .slice a3 n3 c3, .slice a4 n4 c4, .int .u32 va, .int .u8 fl]
theorem ne_nil (w : World) : (binOp .neq 47 (.pointer none) (.pointer none)).run Tryz.prog w = .ok (.bool false) w := by kernel_rfl
set_option maxHeartbeats 4000000 in
theorem runnone_any (on ki fu ke at_ : Int) (a1 : Option Addr) (n1 c1 : Nat) (a2 : Option Addr) (n2 c2 : Nat) (li pc sp : Int) (a3 : Option Addr) (n3 c3 : Nat) (a4 : Option Addr) (n4 c4 : Nat) (va fl : Int) (ag : Option Addr) (ng cg : Nat) (w : World) :
    Calls Tryz.prog 3 #[.agg (actC on ki fu ke at_ a1 n1 c1 a2 n2 c2 li pc sp a3 n3 c3 a4 n4 c4 va fl), .slice ag ng cg] w fun e w' => e = .returned (.bool true) ∧ Below w.heap.size w w' := by
  have hq0 := ne_nil
  have hN0 := fun W => rnew_no (.pointer none) (.slice ag ng cg) W (.inl rfl)
  obtain ⟨C, hC⟩ : ∃ C, actC on ki fu ke at_ a1 n1 c1 a2 n2 c2 li pc sp a3 n3 c3 a4 n4 c4 va fl = C := ⟨_, rfl⟩
  have hC' := hC
  simp only [actC] at hC ⊢
  go_enter Tryz.func3, Tryz.ntmps3
  go_wp2_with fail
  obtain ⟨W1, hW1⟩ : ∃ W1, w.alloc (.cells C 31) = W1 := ⟨_, rfl⟩
  rw [hC, hW1]
  have hs1 : W1.heap.size = w.heap.size + 1 := by rw [← hW1]; simp
  have hb1 : Below w.heap.size w W1 := by rw [← hW1]; exact belP (Below.refl _ _)
  have o1 : W1.heap[w.heap.size]? = some (.cells C 31) := by rw [← hW1]; exact heap_alloc_last w _
  generalize hm : Obj.cells _ 46 = om
  obtain ⟨W2, hW2⟩ : ∃ W2, W1.alloc om = W2 := ⟨_, rfl⟩
  have hs2 : W2.heap.size = w.heap.size + 1 + 1 := by rw [← hW2, ← hs1]; simp
  have o2 : W2.heap[W1.heap.size]? = some om := by rw [← hW2]; exact heap_alloc_last W1 _
  rw [hs1] at o2
  have hb2 : Below w.heap.size w W2 := by rw [← hW2]; exact belP hb1
  rw [hW2]
  refine (hN0 W2).mono ?_
  rintro e w3 ⟨rfl, hb3⟩
  have c2 : W2.cell? ⟨w.heap.size + 1, 0, none⟩ = some (.pointer none) := by rw [obj_cell (hm ▸ o2) 0]; rfl
  have hNd : NoMd w3 (.pointer (some ⟨w.heap.size + 1, 0, none⟩)) := NoMd.below (w := W2) (.inr ⟨_, by omega, rfl, c2⟩) hb3
  have hN1 := rnew_no _ (.slice ag ng cg) w3 hNd
  go_wp2_with fail
  refine hN1.mono ?_
  rintro e w4 ⟨rfl, hb4⟩
  have hb14 : Below W1.heap.size W1 w4 := btP (by rw [← hW2]; exact belP (Below.refl _ _)) (btP hb3 hb4)
  have hb04 := btP hb2 (btP hb3 hb4)
  clear hN0 hN1 hNd hb3 hb4 hb2 o2 c2 hs2 hW2 hm hW1
  go_wp2_with fail
  obtain ⟨W5, hW5⟩ : ∃ W5, (w4.alloc (.cells #[.pointer none, .pointer none, .pointer none, .int .u32 0, .int .u32 0, .int .u8 0, .int .u32 0, .int .u32 0, .slice none 0 0, .slice none 0 0, .int .u32 0, .int .u8 0, .pointer none, .bool false, .slice none 0 0, .pointer none] 56)).alloc (.cells #[.pointer none, .pointer (some ⟨w4.heap.size, 0, none⟩)] 47) = W5 := ⟨_, rfl⟩
  rw [hW5]
  have hb45 : Below w4.heap.size w4 W5 := by rw [← hW5]; exact belP (belP (Below.refl _ _))
  have om5 : W5.heap[w4.heap.size + 1]? = some (.cells #[.pointer none, .pointer (some ⟨w4.heap.size, 0, none⟩)] 47) := by rw [← hW5]; exact heap_alloc_two w4 _ _
  have hz5 : W5.heap.size = w4.heap.size + 2 := by rw [← hW5]; simp
  have cm5 : W5.cell? ⟨w4.heap.size, 0, none⟩ = some (.pointer none) := by
    rw [← hW5, World.cell?_of_block (w := w4.alloc _) (Below.heap_alloc _ _ _ (by simp)), obj_cell (heap_alloc_last w4 _) 0]
    rfl
  have o5 : W5.heap[w.heap.size]? = some (.cells C 31) := (hb45.block _ (by have := hb14.size; omega)).trans ((hb14.block _ (by omega)).trans o1)
  have hz4 : w.heap.size + 1 ≤ w4.heap.size := by rw [← hs1]; exact hb14.size
  have hb05 := btP hb04 hb45
  have HNo : Hid (∀ (b : Bool) (W : World), Below W5.heap.size W5 W → NoMa W (if b then .pointer (some ⟨w4.heap.size, 0, none⟩) else .pointer none)) := hidS (fun b W hW => by
    refine NoMa.below (w := W5) ?_ hW
    cases b
    · exact .inl rfl
    · exact .inr ⟨_, by omega, rfl, cm5⟩)
  have HAc : Hid (∀ (W : World) (i : Nat), Below W5.heap.size W5 W → W.cell? ⟨w.heap.size, i, none⟩ = (actC on ki fu ke at_ a1 n1 c1 a2 n2 c2 li pc sp a3 n3 c3 a4 n4 c4 va fl)[i]?) := hidS (fun W i hW => by
    rw [obj_cell ((hW.block _ (by omega)).trans o5) i, hC'])
  have HLi : Hid (∀ (W : World) (i : Nat), Below W5.heap.size W5 W → W.cell? ⟨w4.heap.size + 1, i, none⟩ = (#[Value.pointer none, .pointer (some ⟨w4.heap.size, 0, none⟩)])[i]?) := hidS (fun W i hW => obj_cell ((hW.block _ (by omega)).trans om5) i)
  have HB := hidS hb05
  clear hb04 hb14 hb45 om5 cm5 o5 o1 hb1 hW5 hC hC' hz5 hb05
  go_loopw [12] (fun i wr => ∃ k : Nat, i = .int .i64 k ∧ k ≤ 2 ∧ Below W5.heap.size W5 wr) (fun i _ => 2 - (intOf i).toNat)
  case atStart => exact ⟨0, rfl, by omega, Below.refl _ _⟩
  case round =>
    obtain ⟨k, rfl, hk, hbr⟩ := hrel
    by_cases h2 : k < 2
    · have hd : decide ((k : Int) < 2) = true := by simp; omega
      obtain ⟨mv, hmv, b, hbv⟩ : ∃ mv, wr.cell? ⟨w4.heap.size + 1, k, none⟩ = some mv ∧ ∃ b : Bool, mv = (if b then .pointer (some ⟨w4.heap.size, 0, none⟩) else .pointer none) := by
        have := HLi.out wr k hbr
        have h01 : k = 0 ∨ k = 1 := by omega
        rcases h01 with rfl | rfl
        · exact ⟨_, this, false, rfl⟩
        · exact ⟨_, this, true, rfl⟩
      have f2 : wr.cell? ⟨w.heap.size, 2, none⟩ = some (.int .i64 fu) := (HAc.out wr 2 hbr).trans rfl
      have f6 : wr.cell? ⟨w.heap.size, 6, none⟩ = some (.slice a2 n2 c2) := (HAc.out wr 6 hbr).trans rfl
      have HNm : Hid (∀ W : World, Below W5.heap.size W5 W → NoMa W mv) := hidS (fun W hW => hbv ▸ HNo.out b W hW)
      have hkI : (k : Int) < 2 := by omega
      have HG := rgo_no mv (.int .i64 fu) (.slice a2 n2 c2) wr (HNm.out wr hbr)
      clear HNo HLi hk
      obtain ⟨ob, hob⟩ : ∃ ob, mv = .pointer ob := by cases b <;> exact ⟨_, hbv⟩
      subst hob
      clear hbv
      go_wp2_with fail
      refine HG.mono ?_
      rintro e w6 ⟨rfl, hb6⟩
      have hbr6 := btP hbr hb6
      obtain ⟨W7, hW7⟩ : ∃ W7, w6.alloc (.cells rsZ 63) = W7 := ⟨_, rfl⟩
      have hb7 : Below W5.heap.size W5 W7 := by rw [← hW7]; exact belP hbr6
      have HS := sresult_z W7
      have hbP := hb7
      simp only [rsZ] at hW7 HS
      simp only [rsZ]
      have HW7 := hidS hW7
      clear hW7
      go_wp2_with fail
      rw [HW7.out]
      refine HS.mono ?_
      rintro e w8 ⟨rfl, hb8⟩
      have hb58 := btP hb7 hb8
      have g4 : w8.cell? ⟨w.heap.size, 4, none⟩ = some (.int .u32 at_) := (HAc.out w8 4 hb58).trans rfl
      have g5 : w8.cell? ⟨w.heap.size, 5, none⟩ = some (.slice a1 n1 c1) := (HAc.out w8 5 hb58).trans rfl
      have HSt := rstart_no (.pointer ob) (.int .u32 at_) (.slice a1 n1 c1) w8 (HNm.out w8 hb58)
      have g7 : w8.cell? ⟨w.heap.size, 7, none⟩ = some (.int .u8 li) := (HAc.out w8 7 hb58).trans rfl
      have g8 : w8.cell? ⟨w.heap.size, 8, none⟩ = some (.int .u32 pc) := (HAc.out w8 8 hb58).trans rfl
      have g9 : w8.cell? ⟨w.heap.size, 9, none⟩ = some (.int .u32 sp) := (HAc.out w8 9 hb58).trans rfl
      have g10 : w8.cell? ⟨w.heap.size, 10, none⟩ = some (.slice a3 n3 c3) := (HAc.out w8 10 hb58).trans rfl
      have g11 : w8.cell? ⟨w.heap.size, 11, none⟩ = some (.slice a4 n4 c4) := (HAc.out w8 11 hb58).trans rfl
      have g12 : w8.cell? ⟨w.heap.size, 12, none⟩ = some (.int .u32 va) := (HAc.out w8 12 hb58).trans rfl
      have g13 : w8.cell? ⟨w.heap.size, 13, none⟩ = some (.int .u8 fl) := (HAc.out w8 13 hb58).trans rfl
      have HPu := rput_no (.pointer ob) (.int .u8 li) (.int .u32 pc) (.int .u32 sp) (.slice a3 n3 c3) (.slice a4 n4 c4) (.int .u32 va) (.int .u8 fl) w8 (HNm.out w8 hb58)
      go_wp2_with fail
      refine HSt.mono ?_
      rintro e wq ⟨rfl, hq⟩
      subst wq
      go_wp2_with fail
      refine HPu.mono ?_
      rintro e w9 ⟨rfl, hb9⟩
      have hb59 := btP hb58 hb9
      have HLo := rlog_no (.pointer ob) (.bool true) w9 (HNm.out w9 hb59)
      have HTo := rtouched_no (.pointer ob) w9 (HNm.out w9 hb59)
      have HSa := rstate_no (.pointer ob) w9 (HNm.out w9 hb59)
      go_wp2_with fail
      refine HLo.mono ?_
      rintro e wq ⟨rfl, hq⟩
      subst wq
      go_wp2_with fail
      refine HTo.mono ?_
      rintro e wq ⟨rfl, hq⟩
      subst wq
      go_wp2_with fail
      refine HSa.mono ?_
      rintro e w10 ⟨rfl, hb10⟩
      have HSs := sstate_z w10
      simp only [stZ] at HSs
      simp only [stZ]
      go_wp2_with fail
      refine HSs.mono ?_
      rintro e w11 ⟨rfl, hb11⟩
      have hb511 := btP hb59 (btP hb10 hb11)
      clear HSs HSa HTo HLo HPu HSt HS HG g4 g5 g7 g8 g9 g10 g11 g12 g13 f2 f6 hmv
      go_wp2_with fail
      go_roundw
      case rel => exact ⟨k + 1, by go_num, by omega, hb511⟩
      case measure => simp [intOf]; omega
    · have hd : decide ((k : Int) < 2) = false := by simp; omega
      go_wp2
      go_ret
      exact ⟨rfl, btP HB.out hbr⟩
end Go.Proofs.YtjjlnahkkmachaaGreatDoor
