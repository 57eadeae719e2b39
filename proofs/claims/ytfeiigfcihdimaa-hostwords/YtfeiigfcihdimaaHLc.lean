import Derived.Test.YtfeiigfcihdimaaHLb
namespace Go.Proofs.Ytfeiigfcihdimaa
open Go.RowKit
set_option maxRecDepth 100000
theorem upon_res {P : Program} {o : Oper} {a : Act} {next : Act → World → Prop} {Q : Exit → Act → World → Prop} {r : Result Next} (w' : World)
    (hr : r = .ok .skip w') (h : next (a.put o.dst undef) w') : o.upon P a next Q r := by
  rw [hr]; exact h
theorem lib_store {w : World} {L : List Value} (h : L = libV.toList) (hs : (Try.prog.info? 34).map (·.size) = some 80) :
    ((Sem.run Try.prog (storeCells ⟨w.heap.size, 0, none⟩ L) (w.alloc (.cells libZ 34))).andThen fun _ w' => Result.ok Next.skip w') = Result.ok Next.skip (w.alloc (.cells libV 34)) := by
  subst h
  rw [run_storeCells_new (P := Try.prog) w 34 libZ libV (by rw [hs, libV_size]) (by rw [libZ_size, libV_size]) libV_all]
  rfl
set_option maxHeartbeats 4000000 in
theorem library_any (w : World) : Calls Try.prog 12 #[] w fun e w' => e = .returned (.agg libV) ∧ w' = w.alloc (.cells libV 34) := by
  obtain ⟨hz, hs⟩ := zero_of_info infoLi
  have hzs := libZ_size
  go_enter Try.func12, Try.ntmps12
  go_wp2
  refine upon_res (w.alloc (.cells libV 34)) ?_ ?_
  · exact lib_store (by kernel_rfl) hs
  clear hz hzs
  generalize libZ = LZ
  rename_i K1 hK1 K2 hK2
  refine hK2 _ _ (wpList_nil (hK1 _ _ (wp_ret ?_)))
  refine bodyPost_ret (v := .agg libV) ?_ ?_ ⟨rfl, rfl⟩
  · exact results_cell_row lib_res _ _ w.heap.size _ libV (0, 0) _ (by kernel_rfl) (heap_alloc_new w _) lib_und rfl (by rw [hs, libV_size])
  · kernel_rfl
end Go.Proofs.Ytfeiigfcihdimaa
