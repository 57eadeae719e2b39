import Derived.Test.YtagflmjiajjkcaaDoorEBkM
import Derived.Test.YtagflmjiajjkcaaDoorLSame
import Derived.Deep.QuietTactic
import Derived.Laws.BytesArg
import Derived.Lib.Bytes
namespace Go.Proofs.YtagflmjiajjkcaaDoor
open Go.RowKit Go.WideShapes
set_option maxRecDepth 100000

theorem str_back (bs : List Int) (h : ∀ z ∈ bs, 0 ≤ z ∧ z ≤ 255) : (strOfNums bs).data.toList.map (fun u => (u.toNat : Int)) = bs := by
  rw [strOfNums_data, List.map_map]
  conv => rhs; rw [← List.map_id bs]
  refine List.map_congr_left fun z hz => ?_
  have := h z hz
  simp only [Function.comp, id, UInt8.toNat_ofNat']
  omega
theorem str_inj {bs cs : List Int} (h1 : ∀ z ∈ bs, 0 ≤ z ∧ z ≤ 255) (h2 : ∀ z ∈ cs, 0 ≤ z ∧ z ≤ 255) : strOfNums bs = strOfNums cs ↔ bs = cs :=
  ⟨fun e => by rw [← str_back bs h1, e, str_back cs h2], fun e => by rw [e]⟩
theorem conv_r {w : World} {g cap : Nat} {bs : List Int} (h : w.ownsRow 0 5 1 (.slice (some ⟨g, 0, none⟩) bs.length cap) bs.length (bv bs)) (n : Nat) :
    (convert 35 9 (.slice (some ⟨g, 0, none⟩) bs.length cap)).run Tryd.prog (w.drewN n) = .ok (.string (strOfNums bs)) (w.drewN n) := by
  refine run_convert_bytes_arg (P := Tryd.prog) (w.drewN n) 35 5 Tryd.underlying35 Tryd.underlying5 g 0 bs.length cap bs rfl (fun i hi => ?_) 9 Tryd.underlying9
  rw [Nat.zero_add]; exact own_get h hi
theorem equal_m (g cap g' cap' : Nat) (bs cs : List Int) (w : World) (h : w.ownsRow 0 5 1 (.slice (some ⟨g, 0, none⟩) bs.length cap) bs.length (bv bs)) (h2 : w.ownsRow 0 5 1 (.slice (some ⟨g', 0, none⟩) cs.length cap') cs.length (bv cs)) (hb : ∀ z ∈ bs, 0 ≤ z ∧ z ≤ 255) (hc : ∀ z ∈ cs, 0 ≤ z ∧ z ≤ 255) (k : Nat) :
    Calls Tryd.prog 38 #[.slice (some ⟨g, 0, none⟩) bs.length cap, .slice (some ⟨g', 0, none⟩) cs.length cap'] (w.drewN k) fun e w' => e = .returned (.bool (decide (bs = cs))) ∧ ∃ n, w' = (w.drewN k).drewN n := by
  have q1 := conv_r h k
  have q2 := conv_r h2 k
  have hq : ((strOfNums bs).toList == (strOfNums cs).toList) = decide (bs = cs) := by
    rw [show (strOfNums bs).toList = (strOfNums bs).data.toList from (Lib.strOfNums_toList bs).trans rfl, show (strOfNums cs).toList = (strOfNums cs).data.toList from (Lib.strOfNums_toList cs).trans rfl]
    by_cases e : bs = cs
    · rw [e]; simp
    · rw [decide_eq_false e, beq_eq_false_iff_ne]
      exact fun h => e (by rw [← str_back bs hb, h, str_back cs hc])
  generalize strOfNums bs = s1 at *
  generalize strOfNums cs = s2 at *
  generalize w.drewN k = w1 at *
  clear h h2
  go_enter Tryd.func38, Tryd.ntmps38
  go_wp2
  go_ret
  exact ⟨by rw [← hq]; rfl, 0, rfl⟩
theorem same_m (a g cap o g' cap' : Nat) (bs cs : List Int) (lg lg' : Bool) (tv tv' : Value) (ts ts' : List (Int × Bool)) (w : World) (h : MemS w a g cap bs lg tv ts) (h2 : MemS w o g' cap' cs lg' tv' ts') :
    Calls Tryd.prog 20 #[.pointer (some ⟨a, 0, none⟩), .pointer (some ⟨o, 0, none⟩)] w fun e w' => e = .returned (.bool (decide (bs = cs))) ∧ ∃ n, w' = w.drewN n := by
  have c0 := (obj_cell h.obj 0).trans rfl
  have c1 : w.cell? ⟨a, 1, none⟩ = some (.slice (some ⟨g, 0, none⟩) bs.length cap) := (obj_cell h.obj 1).trans rfl
  have d0 := (obj_cell h2.obj 0).trans rfl
  have d1 : w.cell? ⟨o, 1, none⟩ = some (.slice (some ⟨g', 0, none⟩) cs.length cap') := (obj_cell h2.obj 1).trans rfl
  have HM := hidS (fun n => made_yes a (w.drewN n) c0)
  have HN := hidS (fun n => made_yes o (w.drewN n) d0)
  have HE := hidS (equal_m g cap g' cap' bs cs w h.row h2.row h.wf h2.wf)
  clear h h2 c0 d0
  generalize decide (bs = cs) = q at *
  go_enter Tryd.func20, Tryd.ntmps20
  go_wp2_with fail
  go_quiet (first | (with_reducible refine Calls.quiet_of_same (HM.out _)) | (with_reducible refine Calls.quiet_of_same (HN.out _)) | (with_reducible refine Calls.quiet_of (HE.out _)))
  go_wp2_with fail
  go_ret
  exact ⟨rfl, _, rfl⟩
set_option maxHeartbeats 1000000 in
theorem clone_m (a g cap : Nat) (bs : List Int) (lg : Bool) (tv : Value) (ts : List (Int × Bool)) (w : World) (h : MemS w a g cap bs lg tv ts) :
    Calls Tryd.prog 28 #[.pointer (some ⟨a, 0, none⟩)] w fun e w' => ∃ o g' cap', e = .returned (.pointer (some ⟨o, 0, none⟩)) ∧ MemS w' o g' cap' bs false (.slice none 0 0) [] ∧ w.heap.size ≤ o ∧ w.heap.size ≤ g' ∧ Below w.heap.size w w' := by
  have hb := h.pw.bd
  have hM := made_yes a w ((obj_cell h.obj 0).trans rfl)
  have c1 : w.cell? ⟨a, 1, none⟩ = some (.slice (some ⟨g, 0, none⟩) bs.length cap) := (obj_cell h.obj 1).trans rfl
  have hC := clone_any (some ⟨g, 0, none⟩) cap bs w (by omega) (fun e => by cases e) (reads_own h.row (by simp))
  have HC : Hid (Calls Tryd.prog 37 #[.slice (some ⟨g, 0, none⟩) bs.length cap] w fun e w1 => ∃ g c, e = .returned (.slice (some ⟨g, 0, none⟩) bs.length c) ∧ Hid (w1.ownsRow w.heap.size 5 1 (.slice (some ⟨g, 0, none⟩) bs.length c) bs.length (bv bs) ∧ Below w.heap.size w w1)) := hC.mono fun e w1 ⟨v, he, ho, hb⟩ => by
    obtain ⟨g, c, rfl, _⟩ := own_form ho (by omega)
    exact ⟨g, c, he, ho, hb⟩
  have HH := hidS (fun g c W ho => hold_any g c bs W ho h.pw h.wf)
  clear h hC
  go_enter Tryd.func28, Tryd.ntmps28
  go_wp2_with (first
    | (go_at_call 30; with_reducible refine hM.mono ?_; rintro e wq ⟨rfl, hq⟩; subst wq)
    | (go_at_call 37; with_reducible refine HC.out.mono ?_; rintro e w1 ⟨g2, c2, rfl, HQ⟩)
    | (go_at_call 36; with_reducible refine (HH.out _ _ _ (own_base HQ.out.1 (Nat.zero_le _))).mono ?_; rintro e w2 ⟨rfl, hq1, hq2⟩; have HQ1 := hidS hq1; have HQ2 := hidS hq2; clear hq1 hq2)
    | fail)
  go_ret
  have hgB := (HQ.out.1.lt g2 rfl).1
  exact ⟨_, g2, c2, rfl, HQ1.out, HQ.out.2.size, hgB, HQ.out.2.trans (HQ2.out.mono HQ.out.2.size)⟩
theorem made_form {w w1 : World} {n : Nat} (hrow : w1.ownsRow w.heap.size 5 1 (.slice (some ⟨w.heap.size, 0, none⟩) n n) n (bv (List.replicate n 0))) : w1.heap[w.heap.size]? = some (.cells (bv (List.replicate n 0) ++ []).toArray 5 (0, 0)) := by
  rcases hrow.2 with ⟨e, _⟩ | ⟨g', cap', cur, e, _, hg', _, _, hs, htk⟩
  · simp at e
  · simp only [Value.slice.injEq, Option.some.injEq, Addr.mk.injEq, true_and, and_true] at e
    obtain ⟨rfl, rfl⟩ := e
    have hcur : cur = (bv (List.replicate n 0) ++ []).toArray := by
      rw [Nat.mul_one, List.take_of_length_le (by simpa using Nat.le_of_eq hs)] at htk
      rw [List.append_nil, ← htk]
    rw [hcur] at hg'
    exact hg'
set_option maxHeartbeats 1000000 in
theorem read_m (lg : Bool) (hN : NoteOk 41 false lg) (a g cp x n : Nat) (bs : List Int) (tv : Value) (ts : List (Int × Bool)) (w : World) (h : MemS w a g cp bs lg tv ts) (hx : x < 4294967296) (hn : n ≤ 4096) :
    Calls Tryd.prog 16 #[.pointer (some ⟨a, 0, none⟩), .int .u32 x, .int .i64 n] w fun e w' => e = .returned (.tuple #[.slice (some ⟨w.heap.size, 0, none⟩) n n, .int .i64 0]) ∧
      (∃ tv', MemS w' a g cp bs lg tv' (lgL lg ts (tcs x n bs.length false)) ∧ (∀ j, tv'.ownBlock = some j → tv.ownBlock = some j ∨ w.heap.size + 1 ≤ j)) ∧ Kp (Foot a g tv) w w' ∧ w'.heap[w.heap.size]? = some (.cells (bv (rdL bs x n)).toArray 5 (0, 0)) := by
  have hM := made_yes a w ((obj_cell h.obj 0).trans rfl)
  obtain ⟨w1, hm, hrow, hb⟩ := make_any .i64 n (by omega) w
  have hg' := made_form hrow
  have hwlt : w.heap.size < w1.heap.size := (Array.getElem?_eq_some_iff.1 hg').1
  have h1 := h.kept (S := fun _ => False) (Kp.ofBelow hb) (fun _ _ h => h)
  have hR : Calls Tryd.prog 31 #[.pointer (some ⟨a, 0, none⟩), .int .u32 x, .slice (some ⟨w.heap.size, 0, none⟩) n n] w1 fun e w2 => e = .returned (.tuple #[]) ∧
      Hid ((∃ tv', MemS w2 a g cp bs lg tv' (lgL lg ts (tcs x n bs.length false)) ∧ (∀ j, tv'.ownBlock = some j → tv.ownBlock = some j ∨ w.heap.size + 1 ≤ j)) ∧ Kp (Foot a g tv) w w2 ∧ w2.heap[w.heap.size]? = some (.cells (bv (rdL bs x n)).toArray 5 (0, 0))) := by
    refine (read_any lg hN a g cp w.heap.size n x n bs (List.replicate n 0) [] 5 tv ts w1 h1 hx (by omega) hg' (by simp) (Nat.le_refl _) (by unfold maxLen; omega) (fun hF => by have := h.lt _ hF; omega)).mono fun e w2 ⟨he, ⟨tv', k1, k2⟩, k3, k4⟩ => ⟨he, ⟨tv', k1, fun j hj => (k2 j hj).imp id (fun h => by omega)⟩, ?_, ?_⟩
    · exact (Kp.ofBelow (S := Foot a g tv) hb).trans k3 (fun i hi h => h.elim id (fun e => by omega))
    · rw [List.append_nil] at k4; exact k4
  have hI0 : ¬ (n : Int) < 0 := by omega
  have hI : ¬ (4096 : Int) < (n : Int) := by omega
  clear h h1 hrow hb hg' hN
  go_enter Tryd.func16, Tryd.ntmps16
  go_wp2_with (first
    | (go_at_call 30; with_reducible refine hM.mono ?_; rintro e wq ⟨rfl, hq⟩; subst wq)
    | (go_at_call 31; with_reducible refine hR.mono ?_; rintro e w2 ⟨rfl, HQ⟩)
    | fail)
  go_ret2
  exact ⟨rfl, HQ.out⟩
set_option maxHeartbeats 1000000 in
theorem write_m (lg : Bool) (hN : NoteOk 43 true lg) (a g cp x cap sb so : Nat) (bo : Option Addr) (bs zs : List Int) (tv : Value) (ts : List (Int × Bool)) (w : World) (h : MemS w a g cp bs lg tv ts) (hx : x < 4294967296) (hn : zs.length ≤ 4096) (hc : zs.length ≤ cap) (hwf : ∀ z ∈ zs, 0 ≤ z ∧ z ≤ 255) (hs : Src w bo sb so zs) (nd : ¬ Foot a g tv sb) :
    Calls Tryd.prog 25 #[.pointer (some ⟨a, 0, none⟩), .int .u32 x, .slice bo zs.length cap] w fun e w' => e = .returned (.int .i64 0) ∧
      (∃ tv', MemS w' a g cp (wrL bs x zs) lg tv' (lgL lg ts (tcs x zs.length bs.length true)) ∧ (∀ j, tv'.ownBlock = some j → tv.ownBlock = some j ∨ w.heap.size ≤ j)) ∧ Kp (Foot a g tv) w w' := by
  have hM := made_yes a w ((obj_cell h.obj 0).trans rfl)
  have HW := hidS (write_any lg hN a g cp cap x zs.length sb so bo bs zs tv ts w h hx (by omega) rfl hc hwf hs nd)
  have hI : ¬ (4096 : Int) < (zs.length : Int) := by omega
  clear h hwf hs nd hN
  go_enter Tryd.func25, Tryd.ntmps25
  go_wp2_with (first
    | (go_at_call 30; with_reducible refine hM.mono ?_; rintro e wq ⟨rfl, hq⟩; subst wq)
    | (go_at_call 32; with_reducible refine HW.out.mono ?_; rintro e w1 ⟨rfl, hq⟩; have HQ := hidS hq; clear hq)
    | fail)
  go_ret
  exact ⟨rfl, HQ.out⟩
set_option maxHeartbeats 1000000 in
theorem copy_m (lg : Bool) (hN : NoteOk 41 false lg) (hN2 : NoteOk 43 true lg) (a g cp to fr n : Nat) (bs : List Int) (tv : Value) (ts : List (Int × Bool)) (w : World) (h : MemS w a g cp bs lg tv ts) (ht : to < 4294967296) (hf : fr < 4294967296) (hn : n ≤ 4096) :
    Calls Tryd.prog 10 #[.pointer (some ⟨a, 0, none⟩), .int .u32 to, .int .u32 fr, .int .u32 n] w fun e w' => e = .returned (.int .i64 0) ∧
      (∃ tv', MemS w' a g cp (wrL bs to (rdL bs fr n)) lg tv' (lgL lg (lgL lg ts (tcs fr n bs.length false)) (tcs to n bs.length true)) ∧ (∀ j, tv'.ownBlock = some j → tv.ownBlock = some j ∨ w.heap.size ≤ j)) ∧ Kp (Foot a g tv) w w' := by
  have hM := made_yes a w ((obj_cell h.obj 0).trans rfl)
  obtain ⟨w1, hm, hrow, hb⟩ := make_any .u32 n (by omega) w
  have hg' := made_form hrow
  have hwlt : w.heap.size < w1.heap.size := (Array.getElem?_eq_some_iff.1 hg').1
  have h1 := h.kept (S := fun _ => False) (Kp.ofBelow hb) (fun _ _ h => h)
  have hR : Calls Tryd.prog 31 #[.pointer (some ⟨a, 0, none⟩), .int .u32 fr, .slice (some ⟨w.heap.size, 0, none⟩) n n] w1 fun e w2 => e = .returned (.tuple #[]) ∧
      Hid ((∃ tv', MemS w2 a g cp bs lg tv' (lgL lg ts (tcs fr n bs.length false)) ∧ (∀ j, tv'.ownBlock = some j → tv.ownBlock = some j ∨ w.heap.size + 1 ≤ j)) ∧ Kp (Foot a g tv) w w2 ∧ w2.heap[w.heap.size]? = some (.cells (bv (rdL bs fr n)).toArray 5 (0, 0))) := by
    refine (read_any lg hN a g cp w.heap.size n fr n bs (List.replicate n 0) [] 5 tv ts w1 h1 hf (by omega) hg' (by simp) (Nat.le_refl _) (by unfold maxLen; omega) (fun hF => by have := h.lt _ hF; omega)).mono fun e w2 ⟨he, ⟨tv', k1, k2⟩, k3, k4⟩ => ⟨he, ⟨tv', k1, fun j hj => (k2 j hj).imp id (fun h => by omega)⟩, ?_, ?_⟩
    · exact (Kp.ofBelow (S := Foot a g tv) hb).trans k3 (fun i hi h => h.elim id (fun e => by omega))
    · rw [List.append_nil] at k4; exact k4
  have hW : ∀ w2, ((∃ tv', MemS w2 a g cp bs lg tv' (lgL lg ts (tcs fr n bs.length false)) ∧ (∀ j, tv'.ownBlock = some j → tv.ownBlock = some j ∨ w.heap.size + 1 ≤ j)) ∧ Kp (Foot a g tv) w w2 ∧ w2.heap[w.heap.size]? = some (.cells (bv (rdL bs fr n)).toArray 5 (0, 0))) →
      Calls Tryd.prog 32 #[.pointer (some ⟨a, 0, none⟩), .int .u32 to, .slice (some ⟨w.heap.size, 0, none⟩) n n] w2 fun e w3 => e = .returned (.tuple #[]) ∧
      Hid ((∃ tv', MemS w3 a g cp (wrL bs to (rdL bs fr n)) lg tv' (lgL lg (lgL lg ts (tcs fr n bs.length false)) (tcs to n bs.length true)) ∧ (∀ j, tv'.ownBlock = some j → tv.ownBlock = some j ∨ w.heap.size ≤ j)) ∧ Kp (Foot a g tv) w w3) := fun w2 ⟨⟨tv2, k1, k2⟩, k3, k4⟩ => by
    have hd2 : w.heap.size < w2.heap.size := (Array.getElem?_eq_some_iff.1 k4).1
    refine (write_any lg hN2 a g cp n to n w.heap.size 0 (some ⟨w.heap.size, 0, none⟩) bs (rdL bs fr n) tv2 _ w2 k1 ht (by omega) (rdL_len _ _ _) (Nat.le_refl _) (rdL_wf _ _ _ h.wf (by have := h.pw.bd; omega)) (fun _ => ⟨rfl, hd2, fun i hi => ?_⟩) ?_).mono fun e w3 ⟨he, ⟨tv3, q1, q2⟩, q3⟩ => ⟨he, ⟨tv3, q1, fun j hj => (q2 j hj).elim (fun h => (k2 j h).imp id (fun h => by omega)) (fun h => .inr (by have := k3.size; omega))⟩, k3.trans q3 ?_⟩
    · rw [Nat.zero_add, obj_cell k4 i]
      simp [bv, hi]
    · rintro (e | e | e)
      · have := h.lt a (.inl rfl); omega
      · have := h.lt g (.inr (.inl rfl)); omega
      · rcases k2 _ e with e | e
        · have := h.lt _ (.inr (.inr e)); omega
        · omega
    · rintro i hi (e | e | e)
      · exact .inl e
      · exact .inr (.inl e)
      · rcases k2 _ e with e | e
        · exact .inr (.inr e)
        · omega
  have HW := hidS hW
  have hI : ¬ (4096 : Int) < (n : Int) := by omega
  clear h h1 hrow hb hg' hN hN2 hW
  go_enter Tryd.func10, Tryd.ntmps10
  go_wp2_with (first
    | (go_at_call 30; with_reducible refine hM.mono ?_; rintro e wq ⟨rfl, hq⟩; subst wq)
    | (go_at_call 31; with_reducible refine hR.mono ?_; rintro e w2 ⟨rfl, HQ⟩)
    | (go_at_call 32; with_reducible refine (HW.out _ HQ.out).mono ?_; rintro e w3 ⟨rfl, HQ3⟩)
    | fail)
  go_ret
  exact ⟨rfl, HQ3.out⟩
theorem copy_long (a n : Nat) (to fr : Value) (w : World) (h0 : w.cell? ⟨a, 0, none⟩ = some (.pointer (some ⟨a, 0, none⟩))) (hn : 4096 < n) :
    Calls Tryd.prog 10 #[.pointer (some ⟨a, 0, none⟩), to, fr, .int .u32 n] w fun e w' => e = .returned (.int .i64 92) ∧ w' = w := by
  have hM := made_yes a w h0
  have hI : (4096 : Int) < (n : Int) := by omega
  go_enter Tryd.func10, Tryd.ntmps10
  go_wp2_with (first
    | (go_at_call 30; with_reducible refine hM.mono ?_; rintro e wq ⟨rfl, hq⟩; subst wq)
    | fail)
  go_ret
  exact ⟨rfl, rfl⟩
end Go.Proofs.YtagflmjiajjkcaaDoor
