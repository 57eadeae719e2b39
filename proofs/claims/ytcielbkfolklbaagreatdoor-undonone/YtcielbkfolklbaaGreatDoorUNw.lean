import Derived.Test.YtcielbkfolklbaaGreatDoorRNl
import Derived.Test.YtcielbkfolklbaaGreatDoorUNm
namespace Go.Proofs.YtcielbkfolklbaaGreatDoor
open Go.RowKit Go.WideShapes
set_option maxRecDepth 100000
/-- an Act as a value -/
def actU (on ki fu at_ : Int) (a1 : Option Addr) (n1 c1 : Nat) (a2 : Option Addr) (n2 c2 : Nat) : Array Value :=
  #[.int .i64 on, .int .i64 ki, .int .i64 fu, .int .u32 at_, .slice a1 n1 c1, .slice a2 n2 c2]
theorem ne_nilU (w : World) : (binOp .neq 43 (.pointer none) (.pointer none)).run Tryz.prog w = .ok (.bool false) w := by kernel_rfl
theorem ne_paU (w : World) : (binOp .neq 69 (.agg paZ) (.agg paZ)).run Tryz.prog w = .ok (.bool false) w := by kernel_rfl
abbrev unZ : Array Value := #[.pointer none, .pointer none, .slice none 0 0, .slice none 0 0, .int .i64 0, .int .i64 0, .int .i64 0]
set_option maxHeartbeats 4000000 in
theorem undonone_any (on ki fu at_ : Int) (a1 : Option Addr) (n1 c1 : Nat) (a2 : Option Addr) (n2 c2 : Nat) (ag : Option Addr) (ng cg : Nat) (kp : Int) (w : World) :
    Calls Tryz.prog 3 #[.agg (actU on ki fu at_ a1 n1 c1 a2 n2 c2), .slice ag ng cg, .int .i64 kp] w fun e w' => e = .returned (.bool true) ∧ Below w.heap.size w w' := by
  have hq0 := ne_nilU
  have hq1 := ne_paU
  have hN0 := fun W => unew_no (.pointer none) (.slice ag ng cg) kp W (.inl rfl)
  obtain ⟨C, hC⟩ : ∃ C, actU on ki fu at_ a1 n1 c1 a2 n2 c2 = C := ⟨_, rfl⟩
  have hC' := hC
  simp only [actU] at hC ⊢
  go_enter Tryz.func3, Tryz.ntmps3
  go_wp2_with fail
  obtain ⟨W1, hW1⟩ : ∃ W1, w.alloc (.cells C 26) = W1 := ⟨_, rfl⟩
  rw [hC, hW1]
  have hs1 : W1.heap.size = w.heap.size + 1 := by rw [← hW1]; simp
  have hb1 : Below w.heap.size w W1 := by rw [← hW1]; exact belP (Below.refl _ _)
  have o1 : W1.heap[w.heap.size]? = some (.cells C 26) := by rw [← hW1]; exact heap_alloc_last w _
  generalize hm : Obj.cells _ 42 = om
  obtain ⟨W2, hW2⟩ : ∃ W2, W1.alloc om = W2 := ⟨_, rfl⟩
  have hs2 : W2.heap.size = w.heap.size + 1 + 1 := by rw [← hW2, ← hs1]; simp
  have o2 : W2.heap[W1.heap.size]? = some om := by rw [← hW2]; exact heap_alloc_last W1 _
  rw [hs1] at o2
  have hb2 : Below w.heap.size w W2 := by rw [← hW2]; exact belP hb1
  rw [hW2]
  refine (hN0 W2).mono ?_
  rintro e w3 ⟨rfl, hb3⟩
  have c2 : W2.cell? ⟨w.heap.size + 1, 0, none⟩ = some (.pointer none) := by rw [obj_cell (hm ▸ o2) 0]; rfl
  have hNd : NoMd w3 (.pointer (some ⟨w.heap.size + 1, 0, none⟩)) := NoMd.below (w := W2) (.inr ⟨_, by omega, rfl, c2⟩) hb3
  have hN1 := unew_no _ (.slice ag ng cg) kp w3 hNd
  go_wp2_with fail
  refine hN1.mono ?_
  rintro e w4 ⟨rfl, hb4⟩
  have hb14 : Below W1.heap.size W1 w4 := btP (by rw [← hW2]; exact belP (Below.refl _ _)) (btP hb3 hb4)
  have hb04 := btP hb2 (btP hb3 hb4)
  clear hN0 hN1 hNd hb3 hb4 hb2 o2 c2 hs2 hW2 hm hW1
  go_wp2_with fail
  obtain ⟨W5, hW5⟩ : ∃ W5, (w4.alloc (.cells unZ 55)).alloc (.cells #[.pointer none, .pointer (some ⟨w4.heap.size, 0, none⟩)] 43) = W5 := ⟨_, rfl⟩
  rw [hW5]
  have hb45 : Below w4.heap.size w4 W5 := by rw [← hW5]; exact belP (belP (Below.refl _ _))
  have om5 : W5.heap[w4.heap.size + 1]? = some (.cells #[.pointer none, .pointer (some ⟨w4.heap.size, 0, none⟩)] 43) := by rw [← hW5]; exact heap_alloc_two w4 _ _
  have hz5 : W5.heap.size = w4.heap.size + 2 := by rw [← hW5]; simp
  have cm5 : W5.cell? ⟨w4.heap.size, 0, none⟩ = some (.pointer none) := by
    rw [← hW5, World.cell?_of_block (w := w4.alloc _) (Below.heap_alloc _ _ _ (by simp)), obj_cell (heap_alloc_last w4 _) 0]
    rfl
  have o5 : W5.heap[w.heap.size]? = some (.cells C 26) := (hb45.block _ (by have := hb14.size; omega)).trans ((hb14.block _ (by omega)).trans o1)
  have hz4 : w.heap.size + 1 ≤ w4.heap.size := by rw [← hs1]; exact hb14.size
  have hb05 := btP hb04 hb45
  have HNo : Hid (∀ (b : Bool) (W : World), Below W5.heap.size W5 W → NoUn W (if b then .pointer (some ⟨w4.heap.size, 0, none⟩) else .pointer none)) := hidS (fun b W hW => by
    refine NoUn.below (w := W5) ?_ hW
    cases b
    · exact .inl rfl
    · exact .inr ⟨_, by omega, rfl, cm5⟩)
  have HAc : Hid (∀ (W : World) (i : Nat), Below W5.heap.size W5 W → W.cell? ⟨w.heap.size, i, none⟩ = (actU on ki fu at_ a1 n1 c1 a2 n2 c2)[i]?) := hidS (fun W i hW => by
    rw [obj_cell ((hW.block _ (by omega)).trans o5) i, hC'])
  have HLi : Hid (∀ (W : World) (i : Nat), Below W5.heap.size W5 W → W.cell? ⟨w4.heap.size + 1, i, none⟩ = (#[Value.pointer none, .pointer (some ⟨w4.heap.size, 0, none⟩)])[i]?) := hidS (fun W i hW => obj_cell ((hW.block _ (by omega)).trans om5) i)
  have HB := hidS hb05
  clear hb04 hb14 hb45 om5 cm5 o5 o1 hb1 hW5 hC hC' hz5 hb05
  go_loopw [14] (fun i wr => ∃ k : Nat, i = .int .i64 k ∧ k ≤ 2 ∧ Below W5.heap.size W5 wr) (fun i _ => 2 - (intOf i).toNat)
  case atStart => exact ⟨0, rfl, by omega, Below.refl _ _⟩
  case round =>
    obtain ⟨k, rfl, hk, hbr⟩ := hrel
    by_cases h2 : k < 2
    · have hd : decide ((k : Int) < 2) = true := by simp; omega
      obtain ⟨mv, hmv, b, hbv⟩ : ∃ mv, wr.cell? ⟨w4.heap.size + 1, k, none⟩ = some mv ∧ ∃ b : Bool, mv = (if b then .pointer (some ⟨w4.heap.size, 0, none⟩) else .pointer none) := by
        have := HLi.out wr k hbr
        have h01 : k = 0 ∨ k = 1 := by omega
        rcases h01 with rfl | rfl
        · exact ⟨_, this, false, rfl⟩
        · exact ⟨_, this, true, rfl⟩
      have f2 : wr.cell? ⟨w.heap.size, 2, none⟩ = some (.int .i64 fu) := (HAc.out wr 2 hbr).trans rfl
      have f5 : wr.cell? ⟨w.heap.size, 5, none⟩ = some (.slice a2 n2 c2) := (HAc.out wr 5 hbr).trans rfl
      have HNm : Hid (∀ W : World, Below W5.heap.size W5 W → NoUn W mv) := hidS (fun W hW => hbv ▸ HNo.out b W hW)
      have hkI : (k : Int) < 2 := by omega
      have HG := ugo_no mv (.int .i64 fu) (.slice a2 n2 c2) wr (HNm.out wr hbr)
      clear HNo HLi hk
      obtain ⟨ob, hob⟩ : ∃ ob, mv = .pointer ob := by cases b <;> exact ⟨_, hbv⟩
      subst hob
      clear hbv
      go_wp2_with fail
      refine HG.mono ?_
      rintro e w6 ⟨rfl, hb6⟩
      have hbr6 := btP hbr hb6
      obtain ⟨W7, hW7⟩ : ∃ W7, w6.alloc (.cells rsZ 62) = W7 := ⟨_, rfl⟩
      have hb7 : Below W5.heap.size W5 W7 := by rw [← hW7]; exact belP hbr6
      have HS := sresult_z W7
      have hbP := hb7
      simp only [rsZ] at hW7 HS
      simp only [rsZ]
      have HW7 := hidS hW7
      clear hW7
      go_wp2_with fail
      rw [HW7.out]
      refine HS.mono ?_
      rintro e w8 ⟨rfl, hb8⟩
      have hb58 := btP hb7 hb8
      have g2 : w8.cell? ⟨w.heap.size, 2, none⟩ = some (.int .i64 fu) := (HAc.out w8 2 hb58).trans rfl
      have g3 : w8.cell? ⟨w.heap.size, 3, none⟩ = some (.int .u32 at_) := (HAc.out w8 3 hb58).trans rfl
      have g4 : w8.cell? ⟨w.heap.size, 4, none⟩ = some (.slice a1 n1 c1) := (HAc.out w8 4 hb58).trans rfl
      have HSt := ustart_no (.pointer ob) (.int .u32 at_) (.slice a1 n1 c1) w8 (HNm.out w8 hb58)
      have HBa := uback_no (.pointer ob) (.int .i64 fu) w8 (HNm.out w8 hb58)
      have HAg := uagain_no (.pointer ob) (.int .i64 fu) w8 (HNm.out w8 hb58)
      have HPa := upast_no (.pointer ob) w8 (HNm.out w8 hb58)
      go_wp2_with fail
      refine HSt.mono ?_
      rintro e wq ⟨rfl, hq⟩
      subst wq
      go_wp2_with fail
      refine HBa.mono ?_
      rintro e wq ⟨rfl, hq⟩
      subst wq
      go_wp2_with fail
      refine HAg.mono ?_
      rintro e wq ⟨rfl, hq⟩
      subst wq
      go_wp2_with fail
      refine HPa.mono ?_
      rintro e w9 ⟨rfl, hb9⟩
      have hb59 := btP hb58 hb9
      have HEv := uevents_no (.pointer ob) w9 (HNm.out w9 hb59)
      have HSa := ustate_no (.pointer ob) w9 (HNm.out w9 hb59)
      simp only [paZ] at hq1
      simp only [paZ]
      go_wp2_with fail
      refine HEv.mono ?_
      rintro e wq ⟨rfl, hq⟩
      subst wq
      go_wp2_with fail
      refine HSa.mono ?_
      rintro e w10 ⟨rfl, hb10⟩
      have HSs := sstate_z w10
      simp only [stZ] at HSs
      simp only [stZ]
      go_wp2_with fail
      refine HSs.mono ?_
      rintro e w11 ⟨rfl, hb11⟩
      have hb511 := btP hb59 (btP hb10 hb11)
      clear HSs HSa HEv HPa HAg HBa HSt HS HG g2 g3 g4 f2 f5 hmv
      go_wp2_with fail
      go_roundw
      case rel => exact ⟨k + 1, by go_num, by omega, hb511⟩
      case measure => simp [intOf]; omega
    · have hd : decide ((k : Int) < 2) = false := by simp; omega
      go_wp2
      go_ret
      exact ⟨rfl, btP HB.out hbr⟩
end Go.Proofs.YtcielbkfolklbaaGreatDoor
