import Derived.Test.YtagflmjiajjkcaaDoorERd
namespace Go.Proofs.YtagflmjiajjkcaaDoor
open Go.RowKit Go.WideShapes
set_option maxRecDepth 100000

set_option maxHeartbeats 2000000 in
theorem noteW_on (a g cap bm ba x n K : Nat) (bs : List Int) (to : Option Addr) (tc : Nat) (ts : List (Int × Bool)) (w : World) (hS : MemS w a g cap bs true (.slice to ts.length tc) ts) (hx : x < 4294967296) (hn : n ≤ 65536)
    (hm : w.cell? ⟨bm, 0, none⟩ = some (.pointer (some ⟨a, 0, none⟩))) (ha : w.cell? ⟨ba, 0, none⟩ = some (.int .u32 x)) (nm : ¬ Foot a g (.slice to ts.length tc) bm) (na : ¬ Foot a g (.slice to ts.length tc) ba)
    (hKn : K ≤ n) (hKt : ts.length + K ≤ 65536) (hmin : (if 65536 - (ts.length : Int) < (n : Int) then 65536 - (ts.length : Int) else (n : Int)) = (K : Int)) :
    Calls Tryd.prog 40 #[.pointer (some ⟨a, 0, none⟩), .int .i64 n, .func (.func 43) #[] #[.pointer (some ⟨bm, 0, none⟩), .pointer (some ⟨ba, 0, none⟩)]] w fun e w' => e = .returned (.tuple #[]) ∧
      ∃ tv', MemS w' a g cap bs true tv' (ts ++ tcs x K bs.length true) ∧ Kp (Foot a g (.slice to ts.length tc)) w w' ∧ ∀ j, tv'.ownBlock = some j → (Value.slice to ts.length tc).ownBlock = some j ∨ w.heap.size ≤ j := by
  have hl := hS.tl
  have c2 := (obj_cell hS.obj 2).trans rfl
  have c3 := (obj_cell hS.obj 3).trans rfl
  obtain ⟨i0, hi, hz0, hz1, hz2⟩ := info_parts infoT
  have HS := hidS hS
  have HM := hidS hm
  have HA := hidS ha
  clear hS hm ha
  go_enter Tryd.func40, Tryd.ntmps40
  · go_wp2_with fail
    go_loopw [20] (fun i wr => ∃ (k : Nat) (tv' : Value), k ≤ K ∧ i = .int .i64 k ∧ MemS wr a g cap bs true tv' (ts ++ tcs x k bs.length true) ∧ Kp (Foot a g (.slice to ts.length tc)) w wr ∧ ∀ j, tv'.ownBlock = some j → (Value.slice to ts.length tc).ownBlock = some j ∨ w.heap.size ≤ j)
      (fun i _ => K - (intOf i).toNat)
    case atStart => exact ⟨0, _, Nat.zero_le _, rfl, by simpa [tcs] using HS.out, Kp.refl _ _, fun j h => .inl h⟩
    case round =>
      obtain ⟨k, tv', hk, rfl, hR, hKp, hTv⟩ := hrel
      have HKp := hidS hKp
      have HTv := hidS hTv
      have HR := hidS hR
      clear hKp hTv
      obtain ⟨to', tc', rfl⟩ := own_slice hR.log
      have e3 := (obj_cell hR.obj 3).trans rfl
      clear hR
      by_cases hlt : k < K
      · have hltI : (k : Int) < (K : Int) := by omega
        have hlk : (ts ++ tcs x k bs.length true).length = ts.length + k := by simp [tcs_len]
        have haw : a < wr.heap.size := HR.out.lt a (.inl rfl)
        have hNA := HR.out.na
        have HT : Hid (∀ W, Below wr.heap.size wr W → Calls Tryd.prog 43 #[.int .i64 k, .pointer (some ⟨bm, 0, none⟩), .pointer (some ⟨ba, 0, none⟩)] W fun e w' => e = .returned (.agg #[.int .u32 ((x + k) % bs.length : Nat), .bool true]) ∧ Below W.heap.size W w') := fun W hW =>
          touchW_any a g cap bs.length bm ba x k W ((hW.cell (p := ⟨bm, 0, none⟩) (Nat.lt_of_lt_of_le (World.block_lt_of_cell? w _ HM.out) HKp.out.size)).trans ((HKp.out.cell (World.block_lt_of_cell? w _ HM.out) nm).trans HM.out))
            ((hW.cell (p := ⟨ba, 0, none⟩) (Nat.lt_of_lt_of_le (World.block_lt_of_cell? w _ HA.out) HKp.out.size)).trans ((HKp.out.cell (World.block_lt_of_cell? w _ HA.out) na).trans HA.out)) ((hW.cell (p := ⟨a, 1, none⟩) haw).trans ((obj_cell HR.out.obj 1).trans rfl)) hx (by omega) HR.out.pw
        have HL : Hid (∀ W, Below wr.heap.size wr W → W.ownsRow 0 34 2 (.slice to' (ts ++ tcs x k bs.length true).length tc') (ts ++ tcs x k bs.length true).length (tvv (ts ++ tcs x k bs.length true))) := fun W hW => (Kp.ofBelow (S := fun _ => False) hW).own HR.out.log (fun _ _ h => h)
        have HG : Hid (∀ W, Below wr.heap.size wr W → (W.cell? ⟨a, 3, none⟩ = some (.slice to' (ts ++ tcs x k bs.length true).length tc') ∧ W.frozen? ⟨a, 3, none⟩ = false)) := fun W hW => ⟨(hW.cell (p := ⟨a, 3, none⟩) haw).trans ((obj_cell HR.out.obj 3).trans rfl), (hW.frozen (p := ⟨a, 3, none⟩) haw).trans (obj_frozen HR.out.obj 3)⟩
        have HB : Below wr.heap.size wr wr := Below.refl _ _
        have HK0 := hidS HKp.out.size
        generalize hpl : ((((x + k) % bs.length : Nat)) : Int) = pl at HT
        have HPL := hidS hpl
        clear hpl
        rw [hlk] at HL HG e3 hNA
        go_wp2_with fail
        have HG0 := HG.out wr HB
        obtain ⟨g0c, g0f⟩ := HG0
        have HHI := hidS hi
        have HZ0 := hidS hz0
        have HZ1 := hidS hz1
        have HZ2 := hidS hz2
        have HNA := hidS hNA
        have HKT := hidS hKt
        have HLK := hidS hlk
        have hk6 : k < 65536 := by omega
        clear c2 c3 e3 hmin hlk hi hz0 hz1 hz2 hNA hKt hKn hltI hk hl hx
        go_region_law (first
          | (refine step_append_lies _ (by rfl) _ _ _ (by rfl) 0 34 i0 (.agg #[.int .u32 0, .bool false]) 2 8 Tryd.underlying31 HHI.out HZ0.out HZ1.out HZ2.out rfl (by decide) (.slice to' (ts.length + k) tc') (ts.length + k) (tvv (ts ++ tcs x k bs.length true)) rfl (HL.out _ (by (repeat (first | exact HB | exact Below.refl _ _ | with_reducible refine belS ?_ | with_reducible refine Below.drew ?_)))) ⟨_, 0, none⟩ 1 1 [.int .u32 pl, .bool true] rfl rfl (World.news_of_block (cs := #[.int .u32 pl, .bool true]) (heap_alloc_new _ _)) (tvv_one' [(pl, true)]) (by decide) (by have := HKT.out; unfold maxLen; omega) (by have := HKT.out; omega) (Nat.zero_le _) _ rfl ?_; intro gg cc w2 own2 hg2 hgg hlt2; have HG2 := hg2; have HGG : (Value.slice to' (ts ++ tcs x k bs.length true).length tc').ownBlock = some gg ∨ wr.heap.size ≤ gg := hgg.imp (fun h => by rw [HLK.out]; exact h) (fun h => by have := HB.size; simp at h; omega); rw [← HLK.out] at HG2; obtain ⟨g2c, g2f⟩ : w2.cell? ⟨a, 3, none⟩ = some (.slice to' (ts.length + k) tc') ∧ w2.frozen? ⟨a, 3, none⟩ = false := ⟨(hg2.cell_far ⟨a, 3, none⟩ (Nat.lt_of_lt_of_le haw (Below.size (B := wr.heap.size) (w := wr) (by (repeat (first | exact HB | exact Below.refl _ _ | with_reducible refine belS ?_ | with_reducible refine Below.drew ?_))))) (fun e => HNA.out e.symm)).trans (HG.out _ (by (repeat (first | exact HB | exact Below.refl _ _ | with_reducible refine belS ?_ | with_reducible refine Below.drew ?_)))).1, (hg2.frozen_far ⟨a, 3, none⟩ (Nat.lt_of_lt_of_le haw (Below.size (B := wr.heap.size) (w := wr) (by (repeat (first | exact HB | exact Below.refl _ _ | with_reducible refine belS ?_ | with_reducible refine Below.drew ?_))))) (fun e => HNA.out e.symm)).trans (HG.out _ (by (repeat (first | exact HB | exact Below.refl _ _ | with_reducible refine belS ?_ | with_reducible refine Below.drew ?_)))).2⟩)
          | (go_simp; go_at_call 43; with_reducible refine (HT.out _ ?_).mono ?_; (repeat (first | exact HB | exact Below.refl _ _ | with_reducible refine belS ?_ | with_reducible refine Below.drew ?_)); rintro e wq ⟨rfl, hq⟩; replace HB : Below wr.heap.size wr wq := btS (by (repeat (first | exact HB | exact Below.refl _ _ | with_reducible refine belS ?_ | with_reducible refine Below.drew ?_))) hq; have haq : a < wq.heap.size := Nat.lt_of_lt_of_le haw HB.size; obtain ⟨gqc, gqf⟩ := HG.out wq HB; clear hq))
        all_goals
          have hst := note_step (p := (pl, true)) (n := ts.length + k) HKp.out HTv.out HR.out (W1 := wq.alloc (.cells #[.int .u32 pl, .bool true] 34)) (by (repeat (first | exact HB | exact Below.refl _ _ | with_reducible refine belS ?_ | with_reducible refine Below.drew ?_))) own2 HG2 HGG HLK.out (by have := HKT.out; omega)
          rw [← HPL.out, List.append_assoc, ← tcs_succ] at hst
          have HST := hidS hst
          clear hst own2 HG2 HGG g2c g2f
          go_wp2_with fail
          go_roundw
          case rel => exact ⟨k + 1, _, by omega, by go_num, HST.out.1, HST.out.2.1, HST.out.2.2⟩
          case measure => simp [intOf]; omega
      · obtain rfl : k = K := by omega
        go_wp2_with fail
        go_end0
        exact ⟨rfl, _, HR.out, HKp.out, HTv.out⟩
end Go.Proofs.YtagflmjiajjkcaaDoor
