import Derived.RangeFuncNested
import Derived.RangeFuncBound
import Derived.RangeFuncCalls
import Derived.RangeFuncLeaves
import Derived.OwnWalkIn
import Derived.TacticsInMore
import Derived.LoopNIn
import Derived.LoopIn
import Derived.Test.YtnplimdcfbgpeaaDoorIRd
namespace Go.Proofs.YtnplimdcfbgpeaaDoor
open Go.RowKit
set_option maxRecDepth 100000
attribute [local go_sem] Oper.semAt_some

abbrev It := Nat × Rd
def rdK (zs : List Int) (k p : Nat) : Rd := if k < 16384 then rdV (zs.drop p) else (0, 0, 0, 73)
def rds (zs : List Int) : Nat → Nat → Nat → List It
  | 0, _, _ => []
  | f + 1, k, p => if p < zs.length then (p, rdK zs k p) :: (if (rdK zs k p).2.2.2 = 0 then rds zs f (k + 1) (p + (rdK zs k p).2.2.1) else []) else []
def items (zs : List Int) : List It := rds zs zs.length 0 0
theorem rds_step (zs : List Int) (f k p : Nat) (h : p < zs.length) : rds zs (f + 1) k p = (p, rdK zs k p) :: (if (rdK zs k p).2.2.2 = 0 then rds zs f (k + 1) (p + (rdK zs k p).2.2.1) else []) := by
  rw [rds, if_pos h]
theorem rds_end (zs : List Int) (f k p : Nat) (h : ¬ p < zs.length) : rds zs f k p = [] := by
  cases f with
  | zero => rfl
  | succ f => rw [rds, if_neg h]
theorem rdV_ok (zs : List Int) (h : (rdV zs).2.2.2 = 0) : (rdV zs).2.2.1 = 1 + opWi (zs.getD 0 0).toNat ∧ 1 + opWi (zs.getD 0 0).toNat ≤ zs.length ∧ (rdV zs).1 = (zs.getD 0 0).toNat ∧ isOp (zs.getD 0 0).toNat = true ∧ (rdV zs).2.1 = (num ((zs.drop 1).take (opWi (zs.getD 0 0).toNat))).toNat ∧ (rdV zs).2.1 ≤ opMo (zs.getD 0 0).toNat := by
  unfold rdV at h ⊢
  split at h
  · cases h
  · split at h
    · cases h
    · split at h
      · cases h
      · rename_i h1 h2 h3
        rw [if_neg h1, if_neg h2, if_neg h3]
        refine ⟨rfl, by omega, rfl, by simpa using h1, rfl, by simp only []; omega⟩
theorem rdK_ok (zs : List Int) (k p : Nat) (h : (rdK zs k p).2.2.2 = 0) : k < 16384 ∧ rdK zs k p = rdV (zs.drop p) := by
  unfold rdK at h ⊢
  split at h
  · rename_i h1; rw [if_pos h1]; exact ⟨h1, rfl⟩
  · cases h
theorem rdK_size (zs : List Int) (k p : Nat) (h : (rdK zs k p).2.2.2 = 0) : 1 ≤ (rdK zs k p).2.2.1 ∧ (rdK zs k p).2.2.1 ≤ 5 ∧ p + (rdK zs k p).2.2.1 ≤ zs.length := by
  obtain ⟨_, e⟩ := rdK_ok zs k p h
  rw [e] at h ⊢
  obtain ⟨h1, h2, _⟩ := rdV_ok _ h
  have := opWi_le ((zs.drop p).getD 0 0).toNat
  rw [List.length_drop] at h2
  omega
abbrev encI2 (x : It) : Array Value := #[.int .i64 x.1, .agg (rdA x.2)]
/-- what a round that goes on keeps -/
def Kd (Bs : Nat) (ao : Option Addr) (cap : Nat) (zs : List Int) (B0 : Nat) (W W' : World) : Prop :=
  (Boxed W Bs 24 (.slice ao zs.length cap) → Boxed W' Bs 24 (.slice ao zs.length cap)) ∧ (Reads W ao zs B0 → Reads W' ao zs B0) ∧ (∀ (b : Nat) (cs : Array Value), W.heap[b]? = some (Obj.cells cs 126) → W'.heap[b]? = some (Obj.cells cs 126))
theorem Kd_t {Bs : Nat} {ao : Option Addr} {cap : Nat} {zs : List Int} {B0 : Nat} {A B C : World} (h : Kd Bs ao cap zs B0 A B) (k : Kd Bs ao cap zs B0 B C) : Kd Bs ao cap zs B0 A C :=
  ⟨fun x => k.1 (h.1 x), fun x => k.2.1 (h.2.1 x), fun b cs x => k.2.2 b cs (h.2.2 b cs x)⟩
theorem heap_put {W : World} {l b : Nat} {o o' : Obj} {cs : Array Value} {t : Nat} {fr : Nat × Nat} (h : W.heap[l]? = some o) (hc : o.isCells = false) (hb : W.heap[b]? = some (.cells cs t fr)) : (W.putObj l o').heap[b]? = some (.cells cs t fr) := by
  refine ((grownBy_putObj' W l o').block b (Array.getElem?_eq_some_iff.1 hb).1 ?_).trans hb
  intro e
  cases e
  rw [hb] at h
  cases h
  cases hc
theorem Kd_b {Bs : Nat} {ao : Option Addr} {cap : Nat} {zs : List Int} {B0 : Nat} {w : World} (W : World) (l : Nat) (o o' : Obj) (_ : w.heap.size ≤ l) (h : W.heap[l]? = some o) (hc : o.isCells = false) (_ : o.isWalk = false) : Kd Bs ao cap zs B0 W (W.putObj l o') := by
  refine ⟨fun x => heap_put h hc x, fun x hp => ?_, fun b cs x => heap_put h hc x⟩
  obtain ⟨b, off, e, hb, hx⟩ := x hp
  refine ⟨b, off, e, hb, fun j hj => ?_⟩
  refine (World.cell?_of_block ((grownBy_putObj' W l o').block b (World.block_lt_of_cell? W _ (hx j hj)) ?_)).trans (hx j hj)
  intro e2
  cases e2
  have := hx j hj
  cases o <;> simp [World.cell?, h, Obj.isCells] at this hc
theorem wpListIn_store_row {F : Fence} {n : Nat} {P : Program} {ops : Array Oper} {Q : Exit → Act → World → Prop} {rest : List Oper} {o : Oper} {a : Act} {w : World} (hg : o.guard = none) (t : TypeId) (p q : Operand) (ho : o.op = .store t p q)
    (b : Nat) (cs cs' : Array Value) (h0 : a.eval p = .pointer (some ⟨b, 0, none⟩)) (h1 : a.eval q = .agg cs') (hb : w.heap[b]? = some (.cells cs t)) (hi : (P.info? t).map (·.size) = some cs'.size) (hs : cs.size = cs'.size) (h2 : cs'.all (·.oneCell') = true)
    (h : wpListIn F n P ops Q rest (a.put o.dst undef) (w.setRow b cs')) : wpListIn F n P ops Q (o :: rest) a w := by
  refine wpListIn_plain hg fun _ hK => ?_
  have := run_storeVar_row (P := P) w b t t cs cs' hb hi hs h2
  have hr : (execOp a.eval o).run P w = .ok .skip (w.setRow b cs') := by
    simp only [execOp, ho, h0, h1, Instr.storeAt, Instr.sureAddr, Sem.run_bind, Sem.run_pure, Result.andThen, this]
  refine ⟨fun f hf => ?_, ?_⟩
  · simp [Oper.about, ho] at hf
  · have hs : (o.semAt F.round a.eval).run P w = .ok .skip (w.setRow b cs') := by
      rw [← hr]; congr 1; simp [Oper.semAt, ho, execOp]
    rw [hs]
    exact hK _ _ h
set_option maxHeartbeats 1000000 in
theorem readings_in (n : Nat) (ao : Option Addr) (len cap : Nat) (w : World) :
    CallsIn Fence.wide n Tryd.prog 72 #[.slice ao len cap] w fun e w' => e = .returned (.func (.func 79) #[] #[.pointer (some ⟨w.heap.size, 0, none⟩)]) ∧ w' = w.alloc (.cells #[.slice ao len cap] 24) := by
  refine callsIn_of_wp Tryd.func72 rfl trivial ?_ rfl
  simp only [Tryd.ntmps72, List.size_toArray, List.length_cons, List.length_nil, Nat.reduceAdd, Nat.reduceSub, Array.replicate_succ, Array.replicate_zero, List.push_toArray, List.append_toArray, List.nil_append, List.cons_append]
  gi_wp2
  go_ret
  exact ⟨rfl, rfl⟩
end Go.Proofs.YtnplimdcfbgpeaaDoor
namespace Go.Proofs.YtnplimdcfbgpeaaDoor
open Go.RowKit
set_option maxRecDepth 100000
attribute [local go_sem] Oper.semAt_some

theorem read_n (b off cap n : Nat) (zs : List Int) (w : World) (hz : zs.length = n) (hn : zs.length ≤ 140737488355328) (hcp : zs.length ≤ cap) (hpos : 0 < zs.length) (hwf : ∀ z ∈ zs, 0 ≤ z ∧ z ≤ 255) (hbl : b < w.heap.size)
    (hc : ∀ j, j < zs.length → w.cell? ⟨b, off + j, none⟩ = some (.int .u8 (zs.getD j 0))) :
    Calls Tryd.prog 80 #[.slice (some ⟨b, off, none⟩) n cap] w fun e w' => e = .returned (.agg (rdA (rdV zs))) ∧ Below w.heap.size w w' := by
  subst hz; exact read_any b off cap zs w hn hcp hpos hwf hbl hc
theorem rdCells {W : World} {R : Nat} {r : Rd} (h : W.heap[R]? = some (.cells (rdA r) 126)) :
    W.cell? ⟨R, 0, none⟩ = some (.int .u8 r.1) ∧ W.cell? ⟨R, 1, none⟩ = some (.int .u32 r.2.1) ∧ W.cell? ⟨R, 2, none⟩ = some (.int .i64 r.2.2.1) ∧ W.cell? ⟨R, 3, none⟩ = some (.int .i64 r.2.2.2) := by
  refine ⟨?_, ?_, ?_, ?_⟩ <;> simp [World.cell?, h]
theorem items_next {zs : List Int} {f k p : Nat} {pre : List It} (hlt : p < zs.length) (h : pre ++ rds zs f k p = items zs) (hf : zs.length ≤ p + f) :
    pre ++ [(p, rdK zs k p)] <+: items zs ∧ ((rdK zs k p).2.2.2 = 0 → ∃ f', pre ++ [(p, rdK zs k p)] ++ rds zs f' (k + 1) (p + (rdK zs k p).2.2.1) = items zs ∧ zs.length ≤ p + (rdK zs k p).2.2.1 + f') ∧ (¬ (rdK zs k p).2.2.2 = 0 → pre ++ [(p, rdK zs k p)] = items zs) := by
  obtain ⟨f', rfl⟩ : ∃ f', f = f' + 1 := ⟨f - 1, by omega⟩
  rw [rds_step zs f' k p hlt] at h
  refine ⟨⟨_, by rw [List.append_assoc]; exact h⟩, fun h0 => ?_, fun h0 => ?_⟩
  · rw [if_pos h0] at h
    have := rdK_size zs k p h0
    exact ⟨f', by rw [List.append_assoc]; exact h, by omega⟩
  · rw [if_neg h0] at h; exact h
set_option maxRecDepth 100000 in
set_option maxHeartbeats 2000000 in
theorem rds1_in (n : Nat) (hn1 : 1 ≤ n) (l Bs B0 : Nat) (ao : Option Addr) (cap : Nat) (zs : List Int) (J Jx : List It → World → Prop) (W : World) (hJ : AbidesFrom W.heap.size J)
    (hn : zs.length ≤ 140737488355328) (hcp : zs.length ≤ cap) (hwf : ∀ z ∈ zs, 0 ≤ z ∧ z ≤ 255)
    (hY : ∀ pre x W1, J pre W1 → pre.length < 16385 → YieldAt Fence.wide (n - 1) Tryd.prog l (encI2 x) W1 fun e W' =>
      (e = .returned (.bool true) ∧ J (pre ++ [x]) W' ∧ Kd Bs ao cap zs B0 W1 W') ∨ (e = .returned (.bool false) ∧ Jx (pre ++ [x]) W'))
    (hbox : Boxed W Bs 24 (.slice ao zs.length cap)) (hr : Reads W ao zs B0) (hB0 : B0 ≤ W.heap.size) (h0 : J [] W) :
    CallsIn Fence.wide n Tryd.prog 79 #[.func (.yield l) #[] #[], .pointer (some ⟨Bs, 0, none⟩)] W fun e W' => (∃ v, e = .returned v) ∧
      ((∃ ys, ys = items zs ∧ J ys W') ∨ (∃ pre, pre <+: items zs ∧ Jx pre W')) := by
  refine callsIn_of_wp Tryd.func79 rfl trivial ?_ rfl
  simp only [Tryd.ntmps79, List.size_toArray, List.length_cons, List.length_nil, Nat.reduceAdd, Nat.reduceSub, Array.replicate_succ, Array.replicate_zero, List.push_toArray, List.append_toArray, List.nil_append, List.cons_append]
  gi_wp2
  gi_loopw [3, 4] (fun u v wr => ∃ (p k f : Nat) (pre : List It), u = .int .i64 p ∧ v = .int .i64 k ∧ pre ++ rds zs f k p = items zs ∧ zs.length ≤ p + f ∧ p ≤ zs.length ∧ pre.length = k ∧ k ≤ 16384 ∧ Boxed wr Bs 24 (.slice ao zs.length cap) ∧ Reads wr ao zs B0 ∧ B0 ≤ wr.heap.size ∧ J pre wr)
    (fun u _ _ => zs.length - (intOf u).toNat)
  case atStart => exact ⟨0, 0, zs.length, [], rfl, rfl, rfl, by omega, by omega, rfl, by omega, hbox, hr, hB0, h0⟩
  case round =>
    clear hbox hr hB0 h0
    obtain ⟨p, k, f, pre, rfl, rfl, hpre, hf, hpl, hlen, hkp, hbx, hr, hB0, hj⟩ := hrel
    have hc := hbx.cell
    have HP := hid_of hpre
    clear hpre
    by_cases hlt : p < zs.length
    · obtain ⟨hi1, hi2, hi3⟩ := items_next hlt HP.out hf
      have HN1 := hid_of hi1; have HN2 := hid_of hi2; have HN3 := hid_of hi3
      clear hi1 hi2 hi3 HP
      have hltI : (p : Int) < (zs.length : Int) := by omega
      by_cases hk : k < 16384
      · have hkI : (k : Int) < 16384 := by omega
        obtain ⟨b, off, rfl, hbl, hcl⟩ := hr (by omega)
        have hpc : ¬ p = cap := by omega
        have hpc2 : ¬ cap = p := by omega
        have hrd : ∀ W : World, Below wr.heap.size wr W → Calls Tryd.prog 80 #[.slice (some ⟨b, off + p, none⟩) (zs.length - p) (cap - p)] W fun e w' => e = .returned (.agg (rdA (rdK zs k p))) ∧ Below W.heap.size W w' := by
          intro W hW
          rw [show rdK zs k p = rdV (zs.drop p) from if_pos hk]
          refine read_n b (off + p) (cap - p) (zs.length - p) (zs.drop p) W (by simp) (by simp; omega) (by simp; omega) (by simp; omega) (fun z hz => hwf z (List.mem_of_mem_drop hz)) (by have := hW.size; omega) (fun j hj => ?_)
          rw [List.length_drop] at hj
          rw [hW.cell (p := ⟨b, off + p + j, none⟩) (by show b < wr.heap.size; omega), Nat.add_assoc, hcl (p + j) (by omega)]
          simp [List.getD]
        have HS := hid_of (rdK_size zs k p)
        generalize hrr : rdK zs k p = r at *
        clear hrr hwf
        have hca : ∀ o, (wr.alloc o).cell? ⟨Bs, 0, none⟩ = some (.slice (some ⟨b, off, none⟩) zs.length cap) := fun o => (hbx.alloc o).cell
        have HY := hid_of hY
        clear hY
        gi_wp2_with (first
          | (refine ⟨trivial, ?_⟩; gi_at_call 80; refine (callsIn_wide.2 (hrd _ (bel (Below.refl _ _)))).mono ?_; rintro e w2 ⟨rfl, hq2⟩; have hc2 : w2.heap[wr.heap.size]? = some (.cells #[.int .u8 0, .int .u32 0, .int .i64 0, .int .i64 73] 126) := (hq2.block wr.heap.size (by simp)).trans (heap_alloc_last wr _))
          | (refine wpListIn_store_row rfl _ _ _ rfl wr.heap.size _ (rdA r) rfl rfl hc2 (by rw [infoRd]; rfl) rfl (rd_all _) ?_; have hB2 : Below wr.heap.size wr (w2.setRow wr.heap.size (rdA r)) := below_setRow (bt (bel (Below.refl _ _)) hq2) (Nat.le_refl _) _; have hs2 := setRow_heap w2 wr.heap.size _ (rdA r) _ _ hc2; generalize w2.setRow wr.heap.size (rdA r) = W2 at hB2 hs2 ⊢; obtain ⟨d0, d1, d2, d3⟩ := rdCells hs2; obtain ⟨fn, tmps, assign, body, hy, hR⟩ := HY.out pre (p, r) W2 (hJ pre wr W2 none hj (grown_of_below hB2) (fun r e => by cases e)) (by omega); have hy' : (Instr.yield l #[.int .i64 (p : Int), .agg #[.int .u8 r.1, .int .u32 r.2.1, .int .i64 r.2.2.1, .int .i64 r.2.2.2]]).run Tryd.prog W2 = .ok (.round l fn tmps assign body) W2 := hy; clear hy))
        refine hR.mono ?_
        have hbx2 : Boxed W2 Bs 24 (.slice (some ⟨b, off, none⟩) zs.length cap) := (hB2.block Bs hbx.lt).trans hbx
        have hr2 : Reads W2 (some ⟨b, off, none⟩) zs B0 := hr.below (hB2.mono hB0)
        have hz2 := hB2.size
        clear hc hca d0 d1 d2 d3 hy' hR HY hrd hcl
        rintro e W3 (⟨rfl, hJ3, hk3⟩ | ⟨rfl, hJx3⟩)
        · obtain ⟨d0, d1, d2, d3⟩ := rdCells (hk3.2.2 _ _ hs2)
          by_cases he : r.2.2.2 = 0
          · obtain ⟨f', hN, hF⟩ := HN2.out he
            obtain ⟨s1, s2, s3⟩ := HS.out he
            have HN := hid_of hN
            have hRl := (Array.getElem?_eq_some_iff.1 (hk3.2.2 _ _ hs2)).1
            have E1 := hk3.1 hbx2
            have E2 := hk3.2.1 hr2
            rw [he] at d3
            have d3' : W3.cell? ⟨wr.heap.size, 3, none⟩ = some (.int .i64 0) := d3
            clear d3 hN hk3 hs2 HN1 HN2 HN3 HS hr hr2 hbx2 hbx hB2
            gi_wp2
            go_roundw
            case rel => exact ⟨p + r.2.2.1, k + 1, f', pre ++ [(p, r)], by go_num, by go_num, HN.out, hF, s3, by simp [hlen], by omega, E1, E2, by omega, hJ3⟩
            case measure => simp [intOf]; omega
          · have he' : ¬ ((r.2.2.2 : Nat) : Int) = 0 := by omega
            have HE := hid_of (HN3.out he)
            gi_wp2
            refine bodyPost_ret (results_none rfl _ _ _) rfl ?_
            exact ⟨⟨_, rfl⟩, .inl ⟨_, HE.out, hJ3⟩⟩
        · gi_wp2
          refine bodyPost_ret (results_none rfl _ _ _) rfl ?_
          exact ⟨⟨_, rfl⟩, .inr ⟨_, HN1.out, hJx3⟩⟩
      · have hkI : ¬ (k : Int) < 16384 := by omega
        have hcl := hr
        have hK : rdK zs k p = (0, 0, 0, 73) := if_neg hk
        rw [hK] at HN1 HN3
        clear HN2
        have hW2 : Below wr.heap.size wr (wr.alloc (.cells (rdA (0, 0, 0, 73)) 126)) := bel (Below.refl _ _)
        have hs2 : (wr.alloc (.cells (rdA (0, 0, 0, 73)) 126)).heap[wr.heap.size]? = some (.cells (rdA (0, 0, 0, 73)) 126) := heap_alloc_last wr _
        obtain ⟨fn, tmps, assign, body, hy, hR⟩ := hY pre (p, (0, 0, 0, 73)) _ (hJ pre wr _ none hj (grown_of_below hW2) (fun r e => by cases e)) (by omega)
        have hy' : (Instr.yield l #[.int .i64 (p : Int), .agg #[.int .u8 0, .int .u32 0, .int .i64 0, .int .i64 73]]).run Tryd.prog (wr.alloc (.cells #[.int .u8 0, .int .u32 0, .int .i64 0, .int .i64 73] 126)) = .ok (.round l fn tmps assign body) (wr.alloc (.cells #[.int .u8 0, .int .u32 0, .int .i64 0, .int .i64 73] 126)) := hy
        clear hy hY hwf
        gi_wp2
        refine hR.mono ?_
        rintro e W3 (⟨rfl, hJ3, hk3⟩ | ⟨rfl, hJx3⟩)
        · obtain ⟨d0, d1, d2, d3⟩ := rdCells (hk3.2.2 _ _ hs2)
          have d3' : W3.cell? ⟨wr.heap.size, 3, none⟩ = some (.int .i64 73) := d3
          have HE := hid_of (HN3.out (by decide))
          clear d0 d1 d2 d3
          gi_wp2
          refine bodyPost_ret (results_none rfl _ _ _) rfl ?_
          exact ⟨⟨_, rfl⟩, .inl ⟨_, HE.out, hJ3⟩⟩
        · gi_wp2
          refine bodyPost_ret (results_none rfl _ _ _) rfl ?_
          exact ⟨⟨_, rfl⟩, .inr ⟨_, HN1.out, hJx3⟩⟩
    · gi_wp2
      go_end0
      refine ⟨⟨_, rfl⟩, .inl ⟨pre, ?_, hj⟩⟩
      have := HP.out
      rw [rds_end zs f k p hlt, List.append_nil] at this
      exact this
end Go.Proofs.YtnplimdcfbgpeaaDoor
