import Derived.Test.YtdpghhkimnifjaaZKn
import Derived.BigQuiet
namespace Go.Proofs.Ytdpghhkimnifjaa
open Go.RowKit Go.WideShapes Go.Shelf
set_option maxRecDepth 100000

set_option maxHeartbeats 8000000 in
theorem known_any (w : World) : Calls Try.prog 6 #[] w fun x w' => x = .returned (.bool true) ∧ Below w.heap.size w w' := by
  go_enter Try.func6, Try.ntmps6
  go_wp2_with fail
  have H0 : Hid (KnS w ((((w.alloc (Obj.cells knC 36)).alloc (Obj.cells knA 23)).alloc (Obj.cells knE 23)).alloc (Obj.cells knW 30))) := dhid (by
    refine ⟨(((bel1 w _).alloc (by simp only [World.size_alloc]; omega) _).alloc (by simp only [World.size_alloc]; omega) _).alloc (by simp only [World.size_alloc]; omega) _, ?_, ?_, ?_, ?_⟩
    · rw [Below.heap_alloc _ _ _ (by simp only [World.size_alloc]; omega), Below.heap_alloc _ _ _ (by simp only [World.size_alloc]; omega), Below.heap_alloc _ _ _ (by simp)]; exact heap_alloc_new _ _
    · rw [Below.heap_alloc _ _ _ (by simp only [World.size_alloc]; omega), Below.heap_alloc _ _ _ (by simp)]; exact zheap2 _ _ _
    · rw [Below.heap_alloc _ _ _ (by simp)]; exact (by simpa using zheap2 (w.alloc (Obj.cells knC 36)) (Obj.cells knA 23) (Obj.cells knE 23))
    · exact (by simpa using zheap2 ((w.alloc (Obj.cells knC 36)).alloc (Obj.cells knA 23)) (Obj.cells knE 23) (Obj.cells knW 30)))
  go_loopw [5] (fun u wr => ∃ k : Nat, u = .int .i64 (k : Int) ∧ k ≤ 7 ∧ Hid (KnS w wr)) (fun u _ => 7 - (intOf u).toNat)
  case atStart => exact ⟨0, rfl, by decide, H0⟩
  case round =>
    clear H0
    obtain ⟨k, rfl, hk, H⟩ := hrel
    by_cases hlt : k < 7
    · clear hk
      have HD := dhid H.out.drew
      have HE := dhid ((H.out.next (bel1 wr (.cells #[.int .u32 0, .int .u32 0, .int .u8 0, .int .u8 0, .int .u32 0, .int .u32 0] 30))).drew)
      have HC := dhid (fun W (h : KnS w W) => knK_call k hlt w.heap.size W h.h0)
      have HTW := dhid (fun W (h : KnS w W) => h.tw k hlt)
      have HWN := dhid (fun W (h : KnS w W) => h.wn k hlt)
      have hwl := H.out.lt
      have hkI : (k : Int) < 7 := by omega
      generalize wnK k = f at HC HWN
      obtain ⟨f0, f1, f2, f3, f4, f5⟩ := f
      simp only [fzA] at HC
      generalize atK k = a at HC HTW
      generalize enK k = e at HC HTW
      have c12 : Hid (wr.drew.cell? ⟨w.heap.size + 1, k, none⟩ = some (.int .u32 (a : Int)) ∧ wr.drew.cell? ⟨w.heap.size + 1 + 1, k, none⟩ = some (.int .u32 (e : Int))) := dhid (HTW.out _ HD.out)
      have HKE : Hid (∀ o, (wr.alloc o).drew.cell? ⟨w.heap.size + 1, k, none⟩ = some (.int .u32 (a : Int)) ∧ (wr.alloc o).drew.cell? ⟨w.heap.size + 1 + 1, k, none⟩ = some (.int .u32 (e : Int))) := dhid (fun o => HTW.out _ (H.out.next (bel1 wr o)).drew)
      go_wp2_with fail
      go_region_held3 (fun V => V.cell? ⟨w.heap.size + 1, k, none⟩ = some (.int .u32 (a : Int)) ∧ V.cell? ⟨w.heap.size + 1 + 1, k, none⟩ = some (.int .u32 (e : Int)))
        (first | with_reducible exact c12.out | with_reducible exact HKE.out _ | with_reducible exact HK2.out | with_reducible exact HK3.out _ | with_reducible exact HK4.out)
        (first
         | (with_reducible refine (HC.out _ HD.out).mono ?_; rintro en w2 ⟨rfl, hb2⟩
            have H2 := dhid (HD.out.next hb2)
            have HK2 := dhid (HTW.out _ H2.out)
            have HK3 := dhid (fun o => HTW.out _ (H2.out.next (bel1 w2 o)))
            have H4A : Hid (KnS w (w2.alloc (Obj.cells #[.int .u32 (f0 : Int), .int .u32 (f1 : Int), .int .u8 (f2 : Int), .int .u8 (f3 : Int), .int .u32 (f4 : Int), .int .u32 (f5 : Int)] 30)) ∧ (w2.alloc (Obj.cells #[.int .u32 (f0 : Int), .int .u32 (f1 : Int), .int .u8 (f2 : Int), .int .u8 (f3 : Int), .int .u32 (f4 : Int), .int .u32 (f5 : Int)] 30)).heap[w2.heap.size]? = some (.cells (fzA ⟨f0, f1, f2, f3, f4, f5⟩) 30)) := dhid ⟨H2.out.next (bel1 w2 _), heap_alloc_new w2 _⟩
            have HK4 : Hid ((w2.alloc (Obj.cells #[.int .u32 (f0 : Int), .int .u32 (f1 : Int), .int .u8 (f2 : Int), .int .u8 (f3 : Int), .int .u32 (f4 : Int), .int .u32 (f5 : Int)] 30)).cell? ⟨w.heap.size + 1, k, none⟩ = some (.int .u32 (a : Int)) ∧ (w2.alloc (Obj.cells #[.int .u32 (f0 : Int), .int .u32 (f1 : Int), .int .u8 (f2 : Int), .int .u8 (f3 : Int), .int .u32 (f4 : Int), .int .u32 (f5 : Int)] 30)).cell? ⟨w.heap.size + 1 + 1, k, none⟩ = some (.int .u32 (e : Int))) := dhid (HTW.out _ H4A.out.1)
            have z0 := hwl)
         | (with_reducible refine (HC.out _ HE.out).mono ?_; rintro en w2 ⟨rfl, hb2⟩
            have H2 := dhid (HE.out.next hb2)
            have HK2 := dhid (HTW.out _ H2.out)
            have o2 := dhid ((hb2.block wr.heap.size (by show wr.heap.size < (wr.alloc _).heap.size; simp)).trans (heap_alloc_new wr (.cells (fzA fz0) 30)))
            have H4B : Hid (KnS w ((((((w2.setCell ⟨wr.heap.size, 0, none⟩ (.int .u32 (f0 : Int))).setCell ⟨wr.heap.size, 1, none⟩ (.int .u32 (f1 : Int))).setCell ⟨wr.heap.size, 2, none⟩ (.int .u8 (f2 : Int))).setCell ⟨wr.heap.size, 3, none⟩ (.int .u8 (f3 : Int))).setCell ⟨wr.heap.size, 4, none⟩ (.int .u32 (f4 : Int))).setCell ⟨wr.heap.size, 5, none⟩ (.int .u32 (f5 : Int))) ∧ ((((((w2.setCell ⟨wr.heap.size, 0, none⟩ (.int .u32 (f0 : Int))).setCell ⟨wr.heap.size, 1, none⟩ (.int .u32 (f1 : Int))).setCell ⟨wr.heap.size, 2, none⟩ (.int .u8 (f2 : Int))).setCell ⟨wr.heap.size, 3, none⟩ (.int .u8 (f3 : Int))).setCell ⟨wr.heap.size, 4, none⟩ (.int .u32 (f4 : Int))).setCell ⟨wr.heap.size, 5, none⟩ (.int .u32 (f5 : Int))).heap[wr.heap.size]? = some (.cells (fzA ⟨f0, f1, f2, f3, f4, f5⟩) 30)) := dhid (H2.out.put2 o2.out hwl ⟨f0, f1, f2, f3, f4, f5⟩)
            have HK4 : Hid (((((((w2.setCell ⟨wr.heap.size, 0, none⟩ (.int .u32 (f0 : Int))).setCell ⟨wr.heap.size, 1, none⟩ (.int .u32 (f1 : Int))).setCell ⟨wr.heap.size, 2, none⟩ (.int .u8 (f2 : Int))).setCell ⟨wr.heap.size, 3, none⟩ (.int .u8 (f3 : Int))).setCell ⟨wr.heap.size, 4, none⟩ (.int .u32 (f4 : Int))).setCell ⟨wr.heap.size, 5, none⟩ (.int .u32 (f5 : Int))).cell? ⟨w.heap.size + 1, k, none⟩ = some (.int .u32 (a : Int)) ∧ ((((((w2.setCell ⟨wr.heap.size, 0, none⟩ (.int .u32 (f0 : Int))).setCell ⟨wr.heap.size, 1, none⟩ (.int .u32 (f1 : Int))).setCell ⟨wr.heap.size, 2, none⟩ (.int .u8 (f2 : Int))).setCell ⟨wr.heap.size, 3, none⟩ (.int .u8 (f3 : Int))).setCell ⟨wr.heap.size, 4, none⟩ (.int .u32 (f4 : Int))).setCell ⟨wr.heap.size, 5, none⟩ (.int .u32 (f5 : Int))).cell? ⟨w.heap.size + 1 + 1, k, none⟩ = some (.int .u32 (e : Int))) := dhid (HTW.out _ H4B.out.1)
            obtain ⟨z0, z1, z2, z3, z4, z5⟩ := fz_cells (f := fz0) o2.out
            obtain ⟨v0, v1, v2, v3, v4, v5⟩ := fz_frozen (f := fz0) o2.out))
      all_goals first
       | (have hP := H4A.out
          clear H4A HK4
          generalize (w2.alloc (Obj.cells #[.int .u32 (f0 : Int), .int .u32 (f1 : Int), .int .u8 (f2 : Int), .int .u8 (f3 : Int), .int .u32 (f4 : Int), .int .u32 (f5 : Int)] 30)) = FW at hP ⊢
          clear z0
          clear HK2 H2 hb2
          obtain ⟨x0, x1, x2, x3, x4, x5⟩ := fz_cells hP.2
          obtain ⟨y0, y1, y2, y3, y4, y5⟩ := HWN.out FW hP.1
          simp only at x0 x1 x2 x3 x4 x5
          have HN := dhid hP.1
          clear hP
          go_wp2_with fail
          go_quiet (fail)
          go_wp2_with fail
          go_roundw
          case rel => exact ⟨k + 1, by go_num, by omega, dhid (HN.out.drewN _)⟩
          case measure => simp [intOf]; omega)
       | (have hP := H4B.out
          clear H4B HK4
          generalize ((((((w2.setCell ⟨wr.heap.size, 0, none⟩ (.int .u32 (f0 : Int))).setCell ⟨wr.heap.size, 1, none⟩ (.int .u32 (f1 : Int))).setCell ⟨wr.heap.size, 2, none⟩ (.int .u8 (f2 : Int))).setCell ⟨wr.heap.size, 3, none⟩ (.int .u8 (f3 : Int))).setCell ⟨wr.heap.size, 4, none⟩ (.int .u32 (f4 : Int))).setCell ⟨wr.heap.size, 5, none⟩ (.int .u32 (f5 : Int))) = FW at hP ⊢
          clear z0 z1 z2 z3 z4 z5 v0 v1 v2 v3 v4 v5
          clear HK2 H2 hb2
          obtain ⟨x0, x1, x2, x3, x4, x5⟩ := fz_cells hP.2
          obtain ⟨y0, y1, y2, y3, y4, y5⟩ := HWN.out FW hP.1
          simp only at x0 x1 x2 x3 x4 x5
          have HN := dhid hP.1
          clear hP
          go_wp2_with fail
          go_quiet (fail)
          go_wp2_with fail
          go_roundw
          case rel => exact ⟨k + 1, by go_num, by omega, dhid (HN.out.drewN _)⟩
          case measure => simp [intOf]; omega)
    · have hkI : ¬ (k : Int) < 7 := by omega
      have HA := dhid (fun W (h : KnS w W) => kfa_call w.heap.size W h.h0)
      have HB := dhid (fun W (h : KnS w W) => kfb_call w.heap.size W h.h0)
      have HC := dhid (fun W (h : KnS w W) => kfc_call w.heap.size W h.h0)
      go_wp2_with fail
      refine (HA.out _ H.out).mono ?_
      rintro en w2 ⟨rfl, hb2⟩
      have H2 := dhid (H.out.next hb2)
      have H3 := dhid (fun o => H2.out.next (bel1 w2 o))
      go_wp2_with fail
      refine (HB.out _ (H3.out _)).mono ?_
      rintro en w4 ⟨rfl, hb4⟩
      have H4 := dhid ((H3.out _).next hb4)
      go_wp2_with fail
      refine (HC.out _ H4.out).mono ?_
      rintro en w5 ⟨rfl, hb5⟩
      have H5 := dhid (H4.out.next hb5)
      have H6 := dhid (fun o => H5.out.next (bel1 w5 o))
      go_wp2_with fail
      go_ret
      exact ⟨rfl, (H6.out _).bl⟩
end Go.Proofs.Ytdpghhkimnifjaa
