import Derived.Test.YtihnkeflcnndpaaDoorIInf
namespace Go.Proofs.YtihnkeflcnndpaaDoor
open Go.RowKit
set_option maxRecDepth 100000

def wordsV : Array Value := ((List.range 60).map fun k => Value.string (opWd k)).toArray
def wordsZ : Array Value := (List.replicate 60 (Value.string ⟨#[]⟩)).toArray
theorem infoWs : (Tryd.prog.info? 135).map (fun i => (i.zero, i.size)) = some (some (.agg wordsZ), 60) := by kernel_rfl
theorem upon_value_of {P : Program} {o : Oper} {a : Act} {next : Act → World → Prop} {Q : Exit → Act → World → Prop} {w : World} (v : Value) (w' : World)
    (hr : (execOp a.eval o).run P w = .ok (.value v) w') (h : next (a.put o.dst v) w') : o.upon P a next Q ((execOp a.eval o).run P w) := by
  rw [hr]; exact h
theorem upon_skip_of {P : Program} {o : Oper} {a : Act} {next : Act → World → Prop} {Q : Exit → Act → World → Prop} {w : World} (w' : World)
    (hr : (execOp a.eval o).run P w = .ok .skip w') (h : next (a.put o.dst undef) w') : o.upon P a next Q ((execOp a.eval o).run P w) := by
  rw [hr]; exact h
theorem wp_act_eq {P : Program} {c : Code} {Q : Exit → Act → World → Prop} {a : Act} {w : World} (a' : Act) (h : a = a') (hw : c.wp P Q a' w) : c.wp P Q a w := by
  rw [h]; exact hw
theorem store_new (o : Oper) (t : Nat) (p q : Operand) (ho : o.op = .store t p q) (a : Act) (w : World) (cs cs' : Array Value) (h0 : a.eval p = .pointer (some ⟨w.heap.size, 0, none⟩)) (h1 : a.eval q = .agg cs')
    (hi : (Tryd.prog.info? t).map (·.size) = some cs'.size) (hs : cs.size = cs'.size) (h2 : cs'.all (·.oneCell') = true) :
    (execOp a.eval o).run Tryd.prog (w.alloc (.cells cs t)) = .ok .skip (w.alloc (.cells cs' t)) := by
  have := run_storeAt_new (P := Tryd.prog) w t cs cs' hi hs h2
  simp only [execOp, ho, h0, h1, Sem.run_bind, this, Result.andThen, Sem.run_pure]
theorem alloc_new (o : Oper) (t : Nat) (ho : o.op = .alloc t) (a : Act) (w : World) (cs : Array Value) (hz : ∀ w, (zeroValue t).run Tryd.prog w = .ok (.agg cs) w) :
    (execOp a.eval o).run Tryd.prog w = .ok (.value (.pointer (some ⟨w.heap.size, 0, none⟩))) (w.alloc (.cells cs t)) := by
  simp [execOp, ho, Instr.alloc, hz, Result.andThen, go_sem]
theorem wordsV_all : wordsV.all (·.oneCell') = true := by kernel_rfl
theorem wordsV_size : wordsV.size = 60 := by kernel_rfl
theorem wordsZ_size : wordsZ.size = 60 := by kernel_rfl
theorem wordsV_get (k : Nat) (h : k < 60) : wordsV[k]? = some (.string (opWd k)) := by
  unfold wordsV
  rw [List.getElem?_toArray, List.getElem?_map, List.getElem?_range h]
  rfl
set_option maxHeartbeats 4000000 in
theorem word_any (n : Nat) (w : World) (h : n < 256) : Calls Tryd.prog 78 #[.int .i64 n] w fun e w' => e = .returned (.string (opWd n)) ∧ w' = w.alloc (.cells wordsV 135) := by
  obtain ⟨hz, hs⟩ := zero_of_info infoWs
  go_enter Tryd.func78, Tryd.ntmps78
  refine wp_seq_k fun K0 hK0 => wp_region_list ?_
  refine wpList_one rfl ?_
  refine upon_value_of (.string ⟨#[]⟩) w rfl ?_
  refine wpList_nil (hK0 _ _ ?_)
  refine wp_seq_k fun K1 hK1 => wp_region_list ?_
  refine wpList_one rfl ?_
  refine upon_value_of (.agg wordsV) w (by kernel_rfl) ?_
  refine wpList_one rfl ?_
  refine upon_value_of _ _ (alloc_new _ _ rfl _ w _ hz) ?_
  refine wpList_one rfl ?_
  refine upon_skip_of _ (store_new _ _ _ _ rfl _ w _ wordsV (by kernel_rfl) (by kernel_rfl) (by rw [hs, wordsV_size]) (by rw [wordsZ_size, wordsV_size]) wordsV_all) ?_
  refine wpList_nil (hK1 _ _ ?_)
  refine wp_act_eq { tmps := #[.int .i64 n, undef, .string ⟨#[]⟩, .pointer (some ⟨w.heap.size, 0, none⟩), .agg wordsV, undef, undef, undef, undef, undef, undef, undef, undef, undef], defers := [] } (by kernel_rfl) ?_
  clear hz hs
  by_cases h1 : n = 0
  · subst h1
    generalize hV : wordsV = V
    go_wp2
    go_ret
    exact ⟨rfl, rfl⟩
  by_cases h2 : 59 < n
  · rw [(opT_zero n (by omega)).1]
    have hlt : ¬ ((n : Int) < 1) := by omega
    have hgt : (59 : Int) < n := by omega
    generalize hV : wordsV = V
    go_wp2
    go_ret
    exact ⟨rfl, rfl⟩
  have hlt : ¬ ((n : Int) < 1) := by omega
  have hgt : ¬ (59 : Int) < n := by omega
  have hn : n < 60 := by omega
  have hc : (w.alloc (.cells wordsV 135)).cell? ⟨w.heap.size, n, none⟩ = some (.string (opWd n)) := by
    rw [World.cell?_alloc_new]; exact wordsV_get n hn
  generalize hV : wordsV = V at *
  generalize opWd n = W at *
  clear hV
  go_wp2
  go_ret
  exact ⟨rfl, rfl⟩
end Go.Proofs.YtihnkeflcnndpaaDoor
