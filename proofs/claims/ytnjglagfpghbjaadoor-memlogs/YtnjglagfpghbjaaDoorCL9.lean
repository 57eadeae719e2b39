import Derived.Test.YtnjglagfpghbjaaDoorCL8
import Derived.SizedLaws
import Derived.Test.YtnjglagfpghbjaaDoorCL0
import Derived.Deep.Slices
import Derived.Lib.SmallJoins
import Derived.ChangeMaps5
import Derived.Test.YtnjglagfpghbjaaDoorCards
import Derived.Test.YtnjglagfpghbjaaDoorTie
import Derived.ProofKit
import Derived.OpenShut
import Derived.Lay
import Derived.LaidOnce
import Derived.Lib.LaidU8
import Derived.SevenTiedAt
namespace Go.Proofs.YtnjglagfpghbjaaDoor
open Go.RowKit Go.WideShapes
set_option maxRecDepth 100000

theorem stt_setc {W : World} {M : Col → Pc} {c : Col} {o i : Nat} {cs cs' : Array Value} {t : TypeId} (h : Stt W M) (ho : M c = objP o cs t) (v : Value) (hc : cs.setIfInBounds i v = cs') : Stt (W.setCell ⟨o, i, none⟩ v) (upd M c (objP o cs' t)) := by
  obtain ⟨col, h⟩ := h
  have hb := h c
  rw [ho] at hb
  subst hc
  exact stt_one h ⟨set_cells hb.1, fun _ => hb.2⟩ (Kp.setCell W _ v (fun _ => hb.2))
def wd0 : Wd := ⟨fun _ => none, .slice none 0 0, .slice none 0 0, .slice none 0 0, .slice none 0 0, [], [], [], []⟩
def mp0 (W : World) : Col → Pc := fun d => if d = (0, 0) then objP W.heap.size (wldC wd0) 30 else if d = (9, 0) then outP W else if d = (3, 0) ∨ d = (3, 1) then rowP 32 1 (.slice none 0 0) 0 [] else if d = (3, 2) ∨ d = (3, 3) then rowP 40 1 (.slice none 0 0) 0 [] else noP
theorem nil_rowX (e : Nat) (F : Nat → Prop) (W : World) : (rowP e 1 (.slice none 0 0) 0 []).h F W := ⟨⟨rfl, .inl ⟨rfl, rfl⟩⟩, fun k e => by simp [Value.ownBlock] at e⟩
theorem stt_init (W : World) : Stt (W.alloc (.cells (wldC wd0) 30)) (mp0 W) := by
  refine ⟨fun k => if k < W.heap.size then (9, 0) else (0, 0), fun d => ?_⟩
  unfold mp0
  split
  · rename_i h; subst h
    exact ⟨heap_alloc_new W _, if_neg (Nat.lt_irrefl _)⟩
  split
  · rename_i h; subst h
    exact ⟨(Below.refl _ _).alloc (Nat.le_refl _) _, fun k hk => if_pos hk⟩
  split
  · exact nil_rowX _ _ _
  split
  · exact nil_rowX _ _ _
  · trivial
theorem inv_init (W : World) : Inv W.heap.size wd0 (mp0 W) :=
  ⟨rfl, fun i _ => by simp [mp0, wd0, segO], fun i _ => by simp [mp0, wd0, refO], by simp [mp0, wd0], by simp [mp0, wd0], by simp [mp0, wd0], by simp [mp0, wd0], fun j v zs h => by simp [wd0] at h, fun j v zs h => by simp [wd0] at h, fun j v zs h => by simp [wd0] at h, fun j v zs h => by simp [wd0] at h⟩
theorem wf_init : WfA wd0 0 := ⟨rfl, rfl, fun x h => by simp [wd0] at h, fun x h => by simp [wd0] at h, Nat.le_refl _, Nat.le_refl _⟩
theorem mp0_8 (W : World) (j : Nat) : mp0 W (8, j) = noP := by simp [mp0]
theorem mp0_9 (W : World) : mp0 W (9, 0) = outP W := by simp [mp0]
/-- what is held between two steps -/
def Mid (o : Nat) (w0 : World) (n : Nat) (w : World) : Prop := ∃ A M, Stt w M ∧ Inv o A M ∧ WfA A n ∧ M (9, 0) = outP w0 ∧ ∀ j, M (8, j) = noP
theorem mid_init (W : World) : Mid W.heap.size W 0 (W.alloc (.cells #[.pointer none, .pointer none, .pointer none, .pointer none, .pointer none, .pointer none, .pointer none, .pointer none, .slice none 0 0, .slice none 0 0, .slice none 0 0, .slice none 0 0] 30)) :=
  ⟨wd0, mp0 W, stt_init W, inv_init W, wf_init, mp0_9 W, mp0_8 W⟩
theorem mid_of {o n : Nat} {w0 w' : World} {M : Col → Pc} (h9 : M (9, 0) = outP w0) (h8 : ∀ j, M (8, j) = noP) (h : Aft o M n w') : Mid o w0 n w' := by
  obtain ⟨A', M', q1, q2, q3, q4⟩ := h
  exact ⟨A', M', q1, q2, q4, (q3 0).2.trans h9, fun j => (q3 j).1.trans (h8 j)⟩
theorem make_ok (s : Stp) (hs : StpOk s) (hd : ¬ s.d = 1) : MakeOk s := fun o n A M i j W _ hi hj hS hI hA hn h8 _ _ _ => make_mid o n A M i j hi hj s W hS hI hA hn h8 hs hd
/-- a step from between two steps -/
theorem step_mid (o n : Nat) (s : Stp) (w0 W : World) (h : Mid o w0 n W) (hn : n + 1 < 5800000000000) (hs : StpQ s) (hmk : MakeOk s) (hr0 : Reads w0 s.da s.dz w0.heap.size) (hT : TabA w0) (h1w : 1 < w0.heap.size) :
    Calls Tryd.prog 5 #[.pointer (some ⟨o, 0, none⟩), .agg #[.int .u8 s.d, .int .u8 s.a, .int .u8 s.b, .int .u32 s.at_, .int .u32 s.v, .int .i64 s.n, .bool s.on, .slice s.da s.dz.length s.dc]] W fun e w' => e = .returned (.bool true) ∧ Hid (Mid o w0 (n + 2) w') := by
  obtain ⟨A, M, q1, q2, q3, q4, q5⟩ := h
  exact (step_any o n A M s W q1 q2 q3 hn (fun j _ => q5 j) hs hmk w0 q4 hr0 hT h1w).mono fun e w' ⟨he, hq⟩ => ⟨he, mid_of q4 q5 hq.out⟩
/-- a step while the step lies in a block of the caller's -/
theorem step_loc (o n : Nat) (s : Stp) (w0 W : World) (A : Wd) (M : Col → Pc) (hS : Stt W M) (hI : Inv o A M) (hA : WfA A n) (h9 : M (9, 0) = outP w0) (h8 : ∀ j, 1 ≤ j → M (8, j) = noP) (hn : n + 1 < 5800000000000) (hs : StpQ s) (hmk : MakeOk s) (hr0 : Reads w0 s.da s.dz w0.heap.size) (hT : TabA w0) (h1w : 1 < w0.heap.size) :
    Calls Tryd.prog 5 #[.pointer (some ⟨o, 0, none⟩), .agg #[.int .u8 s.d, .int .u8 s.a, .int .u8 s.b, .int .u32 s.at_, .int .u32 s.v, .int .i64 s.n, .bool s.on, .slice s.da s.dz.length s.dc]] W fun e w' => e = .returned (.bool true) ∧ Hid (Mid o w0 (n + 2) w') :=
  (step_any o n A M s W hS hI hA hn h8 hs hmk w0 h9 hr0 hT h1w).mono fun e w' ⟨he, hq⟩ => ⟨he, by
    obtain ⟨A', M', q1, q2, q3, q4⟩ := hq.out
    refine ⟨A', upd M' (8, 0) noP, stt_forget (8, 0) q1 (upd_eq _ _ _) (fun d hd => upd_ne hd), inv_far q2, q4, (upd_ne (by simp)).trans ((q3 0).2.trans h9), fun j => ?_⟩
    by_cases e : j = 0
    · subst e; exact upd_eq _ _ _
    · exact (upd_ne (by simp [e])).trans ((q3 j).1.trans (h8 j (by omega)))⟩
end Go.Proofs.YtnjglagfpghbjaaDoor
namespace Go.Proofs.YtnjglagfpghbjaaDoor
open Go.RowKit Go.WideShapes
set_option maxRecDepth 100000

theorem mid_out {o n : Nat} {w0 w : World} (h : Mid o w0 n w) : ∃ A M, Stt w M ∧ Inv o A M ∧ WfA A n ∧ M (9, 0) = outP w0 ∧ ∀ j, M (8, j) = noP := h
theorem log0_1 (o : Nat) (A : Wd) (M : Col → Pc) (W : World) (hS : Stt W M) (hI : Inv o A M) :
    Calls Tryd.prog 8 #[haveV (A.s 0), .bool true] W fun e w' => e = .returned (.tuple #[]) ∧ Hid (Stt w' (upd M (1, 0) (segO (mapS (lgG true) (A.s 0))))) ∧ w'.cell? ⟨o, 4, none⟩ = some (wantV (A.s 0)) :=
  (stt_call (c := (1, 0)) (hI.seg 0 (by decide)) hS (fun F h hB => lg_h (A.s 0) true F W h hB)).mono fun e w' ⟨he, hq⟩ => ⟨he, hq, (stt_hv hq.out ((upd_ne (by simp)).trans hI.obj) 0 (by decide)).2⟩
theorem log0_2 (o n : Nat) (w0 : World) (A : Wd) (M : Col → Pc) (W : World) (hI : Inv o A M) (hA : WfA A n) (h9 : M (9, 0) = outP w0) (h8 : ∀ j, M (8, j) = noP) (hS : Stt W (upd M (1, 0) (segO (mapS (lgG true) (A.s 0))))) :
    Calls Tryd.prog 9 #[wantV (A.s 0), .bool true] W fun e w' => e = .returned (.tuple #[]) ∧ Hid (Mid o w0 n w') :=
  (stt_call (c := (2, 0)) (p := refO (A.s 0)) (p' := refO (mapS (lgG true) (A.s 0))) ((upd_ne (by simp)).trans (hI.ref 0 (by decide))) hS (fun F h hB => lg_w (A.s 0) true F W h hB)).mono fun e w' ⟨he, hq⟩ => ⟨he, by
    obtain ⟨q1, q2⟩ := inv_slot (i := 0) (S := mapS (lgG true) (A.s 0)) (M' := upd (upd M (1, 0) (segO (mapS (lgG true) (A.s 0)))) (2, 0) (refO (mapS (lgG true) (A.s 0)))) hI (mapS_have _ _).1 (mapS_have _ _).2 (by simp [upd]) (by simp [upd]) (fun d h1 h2 => by simp [upd, h1, h2])
    exact ⟨_, _, hq.out, q1, hA.slot _ _, (q2 0).2.trans h9, fun j => (q2 j).1.trans (h8 j)⟩⟩
theorem sto0_1 (o : Nat) (A : Wd) (M : Col → Pc) (W : World) (hS : Stt W M) (hI : Inv o A M) :
    Calls Tryd.prog 13 #[haveV (A.s 0), .int .u32 5, .int .u32 7] W fun e w' => e = .returned (.tuple #[]) ∧ Hid (Stt w' (upd M (1, 0) (segO (mapS (stG 5 1 7) (A.s 0))))) ∧ w'.cell? ⟨o, 4, none⟩ = some (wantV (A.s 0)) :=
  (stt_call (c := (1, 0)) (hI.seg 0 (by decide)) hS (fun F h hB => st1_h (A.s 0) 5 7 F W h hB (by decide) (by decide))).mono fun e w' ⟨he, hq⟩ => ⟨he, hq, (stt_hv hq.out ((upd_ne (by simp)).trans hI.obj) 0 (by decide)).2⟩
theorem sto0_2 (o n : Nat) (w0 : World) (A : Wd) (M : Col → Pc) (W : World) (hI : Inv o A M) (hA : WfA A n) (h9 : M (9, 0) = outP w0) (h8 : ∀ j, M (8, j) = noP) (hS : Stt W (upd M (1, 0) (segO (mapS (stG 5 1 7) (A.s 0))))) :
    Calls Tryd.prog 14 #[wantV (A.s 0), .int .u32 5, .int .u32 7, .int .i64 1] W fun e w' => e = .returned (.tuple #[]) ∧ Hid (Mid o w0 n w') :=
  (stt_call (c := (2, 0)) (p := refO (A.s 0)) (p' := refO (mapS (stG 5 1 7) (A.s 0))) ((upd_ne (by simp)).trans (hI.ref 0 (by decide))) hS (fun F h hB => st1_w (A.s 0) 5 7 F W h hB (by decide) (by decide))).mono fun e w' ⟨he, hq⟩ => ⟨he, by
    obtain ⟨q1, q2⟩ := inv_slot (i := 0) (S := mapS (stG 5 1 7) (A.s 0)) (M' := upd (upd M (1, 0) (segO (mapS (stG 5 1 7) (A.s 0)))) (2, 0) (refO (mapS (stG 5 1 7) (A.s 0)))) hI (mapS_have _ _).1 (mapS_have _ _).2 (by simp [upd]) (by simp [upd]) (fun d h1 h2 => by simp [upd, h1, h2])
    exact ⟨_, _, hq.out, q1, hA.slot _ _, (q2 0).2.trans h9, fun j => (q2 j).1.trans (h8 j)⟩⟩
theorem tch0_1 (o : Nat) (A : Wd) (M : Col → Pc) (W : World) (hS : Stt W M) (hI : Inv o A M) :
    Calls Tryd.prog 11 #[haveV (A.s 0)] W fun e w' => ∃ v, e = .returned v ∧ Hid (Stt w' (upd (upd M (1, 0) (segO (mapS tcG (A.s 0)))) (8, 7) (rowT v (tcD (A.s 0))))) ∧ w'.cell? ⟨o, 0, none⟩ = some (haveV (A.s 0)) ∧ w'.cell? ⟨o, 4, none⟩ = some (wantV (A.s 0)) :=
  (stt_call2 (c := (1, 0)) (c2 := (8, 7)) (hI.seg 0 (by decide)) hS (by simp) (fun F h hB => tc_h (A.s 0) F W h hB)).mono fun e w' ⟨v, he, hq⟩ => ⟨v, he, hq, stt_hv hq.out ((upd_ne (by simp)).trans ((upd_ne (by simp)).trans hI.obj)) 0 (by decide)⟩
theorem tch0_l {o : Nat} {A : Wd} {M : Col → Pc} {W : World} (hS : Stt W M) (hI : Inv o A M) : (tcD (A.s 0)).length ≤ 65536 := let ⟨_, hF⟩ := stt_get hS (hI.seg 0 (by decide)); tcD_len hF
theorem tch0_2 (o : Nat) (A : Wd) (M : Col → Pc) (W : World) (v : Value) (hI : Inv o A M) (hS : Stt W (upd (upd M (1, 0) (segO (mapS tcG (A.s 0)))) (8, 7) (rowT v (tcD (A.s 0))))) :
    Calls Tryd.prog 12 #[wantV (A.s 0)] W fun e w' => ∃ u, e = .returned u ∧ Hid (Stt w' (upd (upd (upd (upd M (1, 0) (segO (mapS tcG (A.s 0)))) (8, 7) (rowT v (tcD (A.s 0)))) (2, 0) (refO (mapS tcG (A.s 0)))) (8, 8) (rowT u (tcD (A.s 0))))) ∧ w'.cell? ⟨o, 0, none⟩ = some (haveV (A.s 0)) ∧ w'.cell? ⟨o, 4, none⟩ = some (wantV (A.s 0)) :=
  (stt_call2 (c := (2, 0)) (c2 := (8, 8)) ((upd_ne (by simp)).trans ((upd_ne (by simp)).trans (hI.ref 0 (by decide)))) hS (by simp) (fun F h hB => tc_w (A.s 0) F W h hB)).mono fun e w' ⟨u, he, hq⟩ => ⟨u, he, hq, stt_hv hq.out ((upd_ne (by simp)).trans ((upd_ne (by simp)).trans ((upd_ne (by simp)).trans ((upd_ne (by simp)).trans hI.obj)))) 0 (by decide)⟩
theorem tch0_3 (o n : Nat) (w0 : World) (A : Wd) (M : Col → Pc) (W : World) (v u : Value) (hI : Inv o A M) (hA : WfA A n) (h9 : M (9, 0) = outP w0) (h8 : ∀ j, M (8, j) = noP) (hl : (tcD (A.s 0)).length ≤ 65536) (hS : Stt W (upd (upd (upd (upd M (1, 0) (segO (mapS tcG (A.s 0)))) (8, 7) (rowT v (tcD (A.s 0)))) (2, 0) (refO (mapS tcG (A.s 0)))) (8, 8) (rowT u (tcD (A.s 0))))) :
    Calls Tryd.prog 10 #[v, u] W fun e w' => e = .returned (.bool true) ∧ Hid (Mid o w0 n w') ∧ w'.cell? ⟨o, 0, none⟩ = some (haveV (A.s 0)) ∧ w'.cell? ⟨o, 4, none⟩ = some (wantV (A.s 0)) := by
  have r7 := stt_row hS (((upd_ne (by simp)).trans ((upd_ne (by simp)).trans (upd_eq _ _ _)) : _ = rowT v (tcD (A.s 0))))
  have r8 := stt_row hS ((upd_eq _ _ _ : _ = rowT u (tcD (A.s 0))))
  obtain ⟨t1, k1, rfl⟩ := own_slice r7
  obtain ⟨t2, k2, rfl⟩ := own_slice r8
  obtain ⟨q1, q2⟩ := inv_slot (i := 0) (S := mapS tcG (A.s 0)) (M' := upd (upd M (1, 0) (segO (mapS tcG (A.s 0)))) (2, 0) (refO (mapS tcG (A.s 0)))) hI (mapS_have _ _).1 (mapS_have _ _).2 (by simp [upd]) (by simp [upd]) (fun d h1 h2 => by simp [upd, h1, h2])
  refine (touches_same (tcD (A.s 0)) t1 t2 k1 k2 W hl r7 r8).mono fun e w' ⟨he, m, hw⟩ => ⟨he, ?_⟩
  have h2 := stt_drewN m hS
  rw [← hw] at h2
  refine ⟨⟨_, _, stt_forget (8, 8) (stt_forget (8, 7) (M' := upd (upd (upd M (1, 0) (segO (mapS tcG (A.s 0)))) (2, 0) (refO (mapS tcG (A.s 0)))) (8, 8) (rowT (.slice t2 (tcD (A.s 0)).length k2) (tcD (A.s 0)))) h2 (by simp [upd, h8]) (fun d hd => by simp [upd, hd])) (by simp [upd, h8]) (fun d hd => by simp [upd, hd]), q1, hA.slot _ _, (q2 0).2.trans h9, fun j => (q2 j).1.trans (h8 j)⟩, ?_⟩
  exact stt_hv h2 ((upd_ne (by simp)).trans ((upd_ne (by simp)).trans ((upd_ne (by simp)).trans ((upd_ne (by simp)).trans hI.obj)))) 0 (by decide)
end Go.Proofs.YtnjglagfpghbjaaDoor
namespace Go.Proofs.YtnjglagfpghbjaaDoor
open Go.RowKit Go.WideShapes
set_option maxRecDepth 100000

theorem stpq_new (N : Int) (h : -9223372036854775808 ≤ N ∧ N ≤ 9223372036854775807) : StpQ ⟨0, 0, 0, 0, 0, N, false, none, 0, []⟩ :=
  ⟨⟨by simp, by simp, by simp, h.1, h.2, by simp, fun z hz => by simp at hz⟩, by simp, by simp, by simp⟩
theorem stpr_reads {w : World} {so : Option Addr} {L : List Stp} {B : Nat} (h : StpsR w so L B) (j : Nat) (hj : j < L.length) : Reads w L[j].da L[j].dz B := by
  obtain ⟨_, _, _, _, _, h2⟩ := h j hj
  exact h2
theorem stand_mid (o n : Nat) (w0 W : World) (h : Mid o w0 n W) : Calls Tryd.prog 6 #[.pointer (some ⟨o, 0, none⟩)] W fun e w' => e = .returned (.bool true) ∧ Hid (Mid o w0 n w') := by
  obtain ⟨A, M, q1, q2, q3, q4, q5⟩ := h
  exact (stand_any o A M W q1 q2 (q5 7) (q5 8)).mono fun e w' ⟨he, hq⟩ => ⟨he, A, M, hq.out, q2, q3, q4, q5⟩
set_option maxHeartbeats 4000000 in
theorem memlogs_any (so : Option Addr) (sc : Nat) (L : List Stp) (W : World) (hT : TabA W) (h1 : 1 < W.heap.size) (hL : StpsR W so L W.heap.size) (hok : ∀ s ∈ L, StpQ s) (hn : L.length ≤ 2600000000000) :
    Calls Tryd.prog 4 #[.slice so L.length sc] W fun e w' => e = .returned (.bool true) ∧ Below W.heap.size W w' := by
  have HF : Hid (∀ W', Mid W.heap.size W 0 W' → Calls Tryd.prog 5 #[.pointer (some ⟨W.heap.size, 0, none⟩), .agg #[.int .u8 0, .int .u8 0, .int .u8 0, .int .u32 0, .int .u32 0, .int .i64 9, .bool false, .slice none 0 0]] W' fun e w' => e = .returned (.bool true) ∧ Hid (Mid W.heap.size W 2 w')) := fun W' h =>
    step_mid W.heap.size 0 ⟨0, 0, 0, 0, 0, 9, false, none, 0, []⟩ W W' h (by decide) (stpq_new 9 (by decide)) (make_ok _ (stpq_new 9 (by decide)).ok (by decide)) (Reads.nil _ _ _) hT h1
  have HL := hidS hL
  have HOK := hidS hok
  have HN := hidS hn
  have HT := hidS hT
  have H1 := hidS h1
  have HI0 := hidS (mid_init W)
  have HM1 := hidS (fun (A : Wd) M W' h1 h2 => log0_1 W.heap.size A M W' h1 h2)
  have HM2 := hidS (fun n (A : Wd) M W' h1 h2 h3 h4 h5 => log0_2 W.heap.size n W A M W' h1 h2 h3 h4 h5)
  have HCV := hidS (fun (A : Wd) M W' (h : Stt W' M) (hI : Inv W.heap.size A M) => stt_hv h hI.obj 0 (by decide))
  clear hT h1 hL hok hn
  go_enter Tryd.func4, Tryd.ntmps4
  go_wp2_with (first
    | (go_at_call 5; with_reducible refine (HF.out _ HI0.out).mono ?_; rintro e w1 ⟨rfl, HQ1⟩; obtain ⟨A1, M1, p1, p2, p3, p4, p5⟩ := mid_out HQ1.out; obtain ⟨hv, wv⟩ := HCV.out _ _ _ p1 p2; have P1 := hidS p1; have P2 := hidS p2; have P3 := hidS p3; have P4 := hidS p4; have P5 := hidS p5; clear p1 p2 p3 p4 p5 HQ1)
    | (go_at_call 8; with_reducible refine (HM1.out _ _ _ P1.out P2.out).mono ?_; rintro e w2 ⟨rfl, HQ2, wv2⟩)
    | (go_at_call 9; with_reducible refine (HM2.out _ _ _ _ P2.out P3.out P4.out P5.out HQ2.out).mono ?_; rintro e w3 ⟨rfl, HQ3⟩)
    | fail)
  clear HI0 HM1 HM2 HF P1 P2 P3 P4 P5 HQ2 hv wv wv2
  have HLEN := hidS (show (L.length : Int) ≤ 9223372036854775807 by have := HN.out; omega)
  go_loopw [20] (fun i wr => ∃ k : Nat, k ≤ L.length ∧ i = .int .i64 k ∧ Mid W.heap.size W (2 + 2 * k) wr) (fun i _ => L.length - (intOf i).toNat)
  case atStart => exact ⟨0, Nat.zero_le _, rfl, HQ3.out⟩
  case round =>
    obtain ⟨k, hk, rfl, hmid⟩ := hrel
    obtain ⟨A, M, p1, p2, p3, p4, p5⟩ := mid_out hmid
    clear hmid
    by_cases hlt : k < L.length
    · have hltI : (k : Int) < (L.length : Int) := by omega
      have hnI := HLEN.out
      have hbl := stt_out p1 p4
      obtain ⟨b1, off, rfl, hb1, hat, hda⟩ := (HL.out.below hbl) k hlt
      have hda0 := stpr_reads HL.out k hlt
      have HDA := hidS hda0
      have HSQ := hidS (HOK.out _ (List.getElem_mem hlt))
      clear hda hda0 hbl
      generalize L[k] = s at *
      obtain ⟨e0, e1, e2, e3, e4, e5, e6, e7⟩ := hat
      have P1 := hidS p1
      have P2 := hidS p2
      have P3 := hidS p3
      have P4 := hidS p4
      have P5 := hidS p5
      clear p1 p2 p3 p4 p5
      have HS6 : Hid (Calls Tryd.prog 5 #[.pointer (some ⟨W.heap.size, 0, none⟩), .agg #[.int .u8 6, .int .u8 0, .int .u8 s.b, .int .u32 s.at_, .int .u32 s.v, .int .i64 s.n, .bool s.on, .slice s.da s.dz.length s.dc]] (wr.alloc (.cells #[.int .u8 6, .int .u8 0, .int .u8 s.b, .int .u32 s.at_, .int .u32 s.v, .int .i64 s.n, .bool s.on, .slice s.da s.dz.length s.dc] 34)) fun e w' => e = .returned (.bool true) ∧ Hid (Mid W.heap.size W (2 + 2 * k + 2) w')) := by
        have hq : StpQ ⟨6, 0, s.b, s.at_, s.v, s.n, s.on, s.da, s.dc, s.dz⟩ := ⟨⟨(by decide : 6 ≤ 255), HSQ.out.ok.at_, HSQ.out.ok.v, HSQ.out.ok.n0, HSQ.out.ok.n1, HSQ.out.ok.dc, HSQ.out.ok.wf⟩, Nat.zero_le _, HSQ.out.b, HSQ.out.dl⟩
        exact step_loc W.heap.size (2 + 2 * k) ⟨6, 0, s.b, s.at_, s.v, s.n, s.on, s.da, s.dc, s.dz⟩ W _ A (upd M (8, 0) (objP wr.heap.size (stpC ⟨6, 0, s.b, s.at_, s.v, s.n, s.on, s.da, s.dc, s.dz⟩) 34)) (stt_stp (8, 0) ⟨6, 0, s.b, s.at_, s.v, s.n, s.on, s.da, s.dc, s.dz⟩ P1.out) (inv_far P2.out) P3.out ((upd_ne (by simp)).trans P4.out) (fun j hj => (upd_ne (by simp; omega)).trans (P5.out j)) (by have := HN.out; omega) hq (make_ok _ hq.ok (by decide : ¬ 6 = 1)) HDA.out HT.out H1.out
      have HS12 : Hid (Calls Tryd.prog 5 #[.pointer (some ⟨W.heap.size, 0, none⟩), .agg #[.int .u8 12, .int .u8 0, .int .u8 s.b, .int .u32 s.at_, .int .u32 s.v, .int .i64 s.n, .bool s.on, .slice s.da s.dz.length s.dc]] (wr.alloc (.cells #[.int .u8 12, .int .u8 0, .int .u8 s.b, .int .u32 s.at_, .int .u32 s.v, .int .i64 s.n, .bool s.on, .slice s.da s.dz.length s.dc] 34)) fun e w' => e = .returned (.bool true) ∧ Hid (Mid W.heap.size W (2 + 2 * k + 2) w')) := by
        have hq : StpQ ⟨12, 0, s.b, s.at_, s.v, s.n, s.on, s.da, s.dc, s.dz⟩ := ⟨⟨(by decide : 12 ≤ 255), HSQ.out.ok.at_, HSQ.out.ok.v, HSQ.out.ok.n0, HSQ.out.ok.n1, HSQ.out.ok.dc, HSQ.out.ok.wf⟩, Nat.zero_le _, HSQ.out.b, HSQ.out.dl⟩
        exact step_loc W.heap.size (2 + 2 * k) ⟨12, 0, s.b, s.at_, s.v, s.n, s.on, s.da, s.dc, s.dz⟩ W _ A (upd M (8, 0) (objP wr.heap.size (stpC ⟨12, 0, s.b, s.at_, s.v, s.n, s.on, s.da, s.dc, s.dz⟩) 34)) (stt_stp (8, 0) ⟨12, 0, s.b, s.at_, s.v, s.n, s.on, s.da, s.dc, s.dz⟩ P1.out) (inv_far P2.out) P3.out ((upd_ne (by simp)).trans P4.out) (fun j hj => (upd_ne (by simp; omega)).trans (P5.out j)) (by have := HN.out; omega) hq (make_ok _ hq.ok (by decide : ¬ 12 = 1)) HDA.out HT.out H1.out
      have HSd : Hid (¬ s.d = 1 → Calls Tryd.prog 5 #[.pointer (some ⟨W.heap.size, 0, none⟩), .agg #[.int .u8 s.d, .int .u8 0, .int .u8 s.b, .int .u32 s.at_, .int .u32 s.v, .int .i64 s.n, .bool s.on, .slice s.da s.dz.length s.dc]] (wr.alloc (.cells #[.int .u8 s.d, .int .u8 0, .int .u8 s.b, .int .u32 s.at_, .int .u32 s.v, .int .i64 s.n, .bool s.on, .slice s.da s.dz.length s.dc] 34)) fun e w' => e = .returned (.bool true) ∧ Hid (Mid W.heap.size W (2 + 2 * k + 2) w')) := fun hd => by
        have hq : StpQ ⟨s.d, 0, s.b, s.at_, s.v, s.n, s.on, s.da, s.dc, s.dz⟩ := ⟨⟨HSQ.out.ok.d, HSQ.out.ok.at_, HSQ.out.ok.v, HSQ.out.ok.n0, HSQ.out.ok.n1, HSQ.out.ok.dc, HSQ.out.ok.wf⟩, Nat.zero_le _, HSQ.out.b, HSQ.out.dl⟩
        exact step_loc W.heap.size (2 + 2 * k) ⟨s.d, 0, s.b, s.at_, s.v, s.n, s.on, s.da, s.dc, s.dz⟩ W _ A (upd M (8, 0) (objP wr.heap.size (stpC ⟨s.d, 0, s.b, s.at_, s.v, s.n, s.on, s.da, s.dc, s.dz⟩) 34)) (stt_stp (8, 0) ⟨s.d, 0, s.b, s.at_, s.v, s.n, s.on, s.da, s.dc, s.dz⟩ P1.out) (inv_far P2.out) P3.out ((upd_ne (by simp)).trans P4.out) (fun j hj => (upd_ne (by simp; omega)).trans (P5.out j)) (by have := HN.out; omega) hq (make_ok _ hq.ok hd) HDA.out HT.out H1.out
      have HT1 := hidS (fun (A : Wd) M W' h1 h2 => tch0_1 W.heap.size A M W' h1 h2)
      have HT2 := hidS (fun (A : Wd) M W' v h1 h2 => tch0_2 W.heap.size A M W' v h1 h2)
      have HT3 := hidS (fun n (A : Wd) M W' v u h1 h2 h3 h4 h5 h6 => tch0_3 W.heap.size n W A M W' v u h1 h2 h3 h4 h5 h6)
      have HTL := hidS (fun (A : Wd) M W' (h1 : Stt W' M) (h2 : Inv W.heap.size A M) => tch0_l h1 h2)
      clear P1 P2 P3 P4 P5 HSQ HDA
      go_wp2_with (first
        | (go_at_call 5; with_reducible refine (HS6.out).mono ?_; rintro e w4 ⟨rfl, HQ4⟩; obtain ⟨A4, M4, p1, p2, p3, p4, p5⟩ := mid_out HQ4.out; obtain ⟨hv, wv⟩ := HCV.out _ _ _ p1 p2; have hl4 := hidS (HTL.out _ _ _ p1 p2); have P1 := hidS p1; have P2 := hidS p2; have P3 := hidS p3; have P4 := hidS p4; have P5 := hidS p5; clear p1 p2 p3 p4 p5 HQ4)
        | (go_at_call 5; with_reducible refine (HS12.out).mono ?_; rintro e w4 ⟨rfl, HQ4⟩; obtain ⟨A4, M4, p1, p2, p3, p4, p5⟩ := mid_out HQ4.out; obtain ⟨hv, wv⟩ := HCV.out _ _ _ p1 p2; have hl4 := hidS (HTL.out _ _ _ p1 p2); have P1 := hidS p1; have P2 := hidS p2; have P3 := hidS p3; have P4 := hidS p4; have P5 := hidS p5; clear p1 p2 p3 p4 p5 HQ4)
        | (go_at_call 5; with_reducible refine (HSd.out (by omega)).mono ?_; rintro e w4 ⟨rfl, HQ4⟩; obtain ⟨A4, M4, p1, p2, p3, p4, p5⟩ := mid_out HQ4.out; obtain ⟨hv, wv⟩ := HCV.out _ _ _ p1 p2; have hl4 := hidS (HTL.out _ _ _ p1 p2); have P1 := hidS p1; have P2 := hidS p2; have P3 := hidS p3; have P4 := hidS p4; have P5 := hidS p5; clear p1 p2 p3 p4 p5 HQ4)
        | fail)
      all_goals (clear HS6 HS12 HSd e0 e1 e2 e3 e4 e5 e6 e7)
      all_goals (go_region_held3 (fun w' => w'.cell? ⟨W.heap.size, 0, none⟩ = some (haveV (A4.s 0)) ∧ w'.cell? ⟨W.heap.size, 4, none⟩ = some (wantV (A4.s 0))) ((first | exact ⟨hv, wv⟩ | exact hc7 | exact hc6 | exact hc5)) (first
        | (go_at_call 11; with_reducible refine (HT1.out _ _ _ (by (repeat (first | exact P1.out | with_reducible refine stt_drew ?_))) P2.out).mono ?_; rintro e w5 ⟨v5, rfl, HQ5, hc5⟩)
        | (go_at_call 12; with_reducible refine (HT2.out _ _ _ _ P2.out HQ5.out).mono ?_; rintro e w6 ⟨v6, rfl, HQ6, hc6⟩)
        | (go_at_call 10; with_reducible refine (HT3.out _ _ _ _ _ _ P2.out P3.out P4.out P5.out hl4.out HQ6.out).mono ?_; rintro e w7 ⟨rfl, HQ7, hc7⟩)
        | fail))
      all_goals (go_wp2_with fail)
      all_goals go_roundw
      all_goals first
        | exact ⟨k + 1, by omega, by go_num, HQ7.out⟩
        | (simp [intOf]; omega)
    · have hltI : ¬ (k : Int) < (L.length : Int) := by omega
      obtain ⟨hv, wv⟩ := HCV.out _ _ _ p1 p2
      have P1 := hidS p1
      have P2 := hidS p2
      have P3 := hidS p3
      have P4 := hidS p4
      have P5 := hidS p5
      clear p1 p2 p3 p4 p5
      have HS1 := hidS (fun (A : Wd) M W' h1 h2 => sto0_1 W.heap.size A M W' h1 h2)
      have HS2 := hidS (fun n (A : Wd) M W' h1 h2 h3 h4 h5 => sto0_2 W.heap.size n W A M W' h1 h2 h3 h4 h5)
      have HT1 := hidS (fun (A : Wd) M W' h1 h2 => tch0_1 W.heap.size A M W' h1 h2)
      have HT2 := hidS (fun (A : Wd) M W' v h1 h2 => tch0_2 W.heap.size A M W' v h1 h2)
      have HT3 := hidS (fun n (A : Wd) M W' v u h1 h2 h3 h4 h5 h6 => tch0_3 W.heap.size n W A M W' v u h1 h2 h3 h4 h5 h6)
      have HTL := hidS (fun (A : Wd) M W' (h1 : Stt W' M) (h2 : Inv W.heap.size A M) => tch0_l h1 h2)
      have HST := hidS (fun n W' (h : Mid W.heap.size W n W') => stand_mid W.heap.size n W W' h)
      go_wp2_with (first
        | (go_at_call 13; with_reducible refine (HS1.out _ _ _ P1.out P2.out).mono ?_; rintro e w4 ⟨rfl, HQ4, wv4⟩)
        | (go_at_call 14; with_reducible refine (HS2.out _ _ _ _ P2.out P3.out P4.out P5.out HQ4.out).mono ?_; rintro e w5 ⟨rfl, HQ5⟩; obtain ⟨A5, M5, p1, p2, p3, p4, p5⟩ := mid_out HQ5.out; obtain ⟨hv5, wv5⟩ := HCV.out _ _ _ p1 p2; have hl5 := hidS (HTL.out _ _ _ p1 p2); have R1 := hidS p1; have R2 := hidS p2; have R3 := hidS p3; have R4 := hidS p4; have R5 := hidS p5; clear p1 p2 p3 p4 p5 HQ5)
        | (go_at_call 11; with_reducible refine (HT1.out _ _ _ R1.out R2.out).mono ?_; rintro e w6 ⟨v6, rfl, HQ6, hc6, wv6⟩)
        | (go_at_call 12; with_reducible refine (HT2.out _ _ _ _ R2.out HQ6.out).mono ?_; rintro e w7 ⟨v7, rfl, HQ7, hc7⟩)
        | (go_at_call 10; with_reducible refine (HT3.out _ _ _ _ _ _ R2.out R3.out R4.out R5.out hl5.out HQ7.out).mono ?_; rintro e w8 ⟨rfl, HQ8, hc8⟩)
        | (go_at_call 6; with_reducible refine (HST.out _ _ HQ8.out).mono ?_; rintro e w9 ⟨rfl, HQ9⟩)
        | fail)
      go_ret
      obtain ⟨A9, M9, z1, z2, z3, z4, z5⟩ := mid_out HQ9.out
      exact ⟨rfl, stt_out z1 z4⟩
end Go.Proofs.YtnjglagfpghbjaaDoor
namespace Go.Proofs.YtnjglagfpghbjaaDoor
open Go.ChangeShapes Go.WideShapes Go.ChangeAt Go.RowKit Go.Joins Go.Deep
set_option maxRecDepth 100000

theorem weightsAll_mq {H : Type} {P : Program} {e : TypeId} {d : DataW H} {L : List (DataW H)} (hd : d ∈ L) {m : Nat} (hm : m ∈ d.weights P e) : m ∈ DataW.weightsAll P e L := by
  induction L with
  | nil => cases hd
  | cons x L ih =>
    simp only [DataW.weightsAll, List.mem_append]
    rcases List.mem_cons.1 hd with rfl | h
    · exact .inl hm
    · exact .inr (ih h)
theorem Tryd.cells8q : Tryd.prog.cellsOf 34 = 8 := by kernel_rfl
theorem elem8q {H : Type} {enc : TypeId × Value → H} {P : Program} {w : World} {base : Nat} {spare : Nat → Bool} {held : Bool} {e : TypeId} {f0 f1 f2 f3 f4 f5 f6 f7 : Field} {n : Nat} {cs : List Value} {x : DataW H × List MemPlace} (he : P.underlying e = some (.struct #[f0, f1, f2, f3, f4, f5, f6, f7])) (hone : oneCellFields P #[f0, f1, f2, f3, f4, f5, f6, f7] = true) (hl : cs.length = 8) (h : DataW.trod enc P w base spare held n e cs = some x) :
    ∃ (v0 v1 v2 v3 v4 v5 v6 v7 : Value) (y0 y1 y2 y3 y4 y5 y6 y7 : DataW H × List MemPlace) (k : Nat), cs = [v0, v1, v2, v3, v4, v5, v6, v7] ∧ (x.1 = .agg [y0.1, y1.1, y2.1, y3.1, y4.1, y5.1, y6.1, y7.1] ∧ ∀ z ∈ y7.2, z ∈ x.2) ∧ DataW.trod enc P w base spare held k f0.type [v0] = some y0 ∧ DataW.trod enc P w base spare held k f1.type [v1] = some y1 ∧ DataW.trod enc P w base spare held k f2.type [v2] = some y2 ∧ DataW.trod enc P w base spare held k f3.type [v3] = some y3 ∧ DataW.trod enc P w base spare held k f4.type [v4] = some y4 ∧ DataW.trod enc P w base spare held k f5.type [v5] = some y5 ∧ DataW.trod enc P w base spare held k f6.type [v6] = some y6 ∧ DataW.trod enc P w base spare held k f7.type [v7] = some y7 := by
  obtain ⟨xs, k, _, rfl, _, hlen, hf⟩ := DataW.trod_struct he h
  match xs, hlen, cs, hl with
  | [y0, y1, y2, y3, y4, y5, y6, y7], _, [v0, v1, v2, v3, v4, v5, v6, v7], _ =>
    have h0 := hf 0 f0 rfl
    obtain ⟨o0, k0⟩ := hone_of hone 0 f0 rfl
    rw [o0, k0] at h0
    have h1 := hf 1 f1 rfl
    obtain ⟨o1, k1⟩ := hone_of hone 1 f1 rfl
    rw [o1, k1] at h1
    have h2 := hf 2 f2 rfl
    obtain ⟨o2, k2⟩ := hone_of hone 2 f2 rfl
    rw [o2, k2] at h2
    have h3 := hf 3 f3 rfl
    obtain ⟨o3, k3⟩ := hone_of hone 3 f3 rfl
    rw [o3, k3] at h3
    have h4 := hf 4 f4 rfl
    obtain ⟨o4, k4⟩ := hone_of hone 4 f4 rfl
    rw [o4, k4] at h4
    have h5 := hf 5 f5 rfl
    obtain ⟨o5, k5⟩ := hone_of hone 5 f5 rfl
    rw [o5, k5] at h5
    have h6 := hf 6 f6 rfl
    obtain ⟨o6, k6⟩ := hone_of hone 6 f6 rfl
    rw [o6, k6] at h6
    have h7 := hf 7 f7 rfl
    obtain ⟨o7, k7⟩ := hone_of hone 7 f7 rfl
    rw [o7, k7] at h7
    exact ⟨v0, v1, v2, v3, v4, v5, v6, v7, y0, y1, y2, y3, y4, y5, y6, y7, k, rfl, ⟨rfl, fun z hz => by simp [hz]⟩, by simpa using h0, by simpa using h1, by simpa using h2, by simpa using h3, by simpa using h4, by simpa using h5, by simpa using h6, by simpa using h7⟩
theorem nat_ofq {z : Int} {m : Int} (h : 0 ≤ z ∧ z ≤ m) : ∃ n : Nat, z = n ∧ (n : Int) ≤ m := by
  obtain ⟨n, rfl⟩ := Int.eq_ofNat_of_zero_le h.1
  exact ⟨n, rfl, h.2⟩
theorem step_openq {H : Type} {enc : TypeId × Value → H} {W : World} {n b off i : Nat} {cs : List Value} {x : DataW H × List MemPlace} (h1 : W.cells? 0 ((⟨b, off, none⟩ : Addr).add (i * 8)) 8 = some cs) (h : DataW.trod enc Tryd.prog W 0 (fun _ => true) true n 34 cs = some x) (hlt : ∀ z ∈ x.2, z.block < W.heap.size) (hw : ∀ m ∈ x.1.weights Tryd.prog 34, m ≤ reachBytes) :
    ∃ s : Stp, StpAt W b (off + i * 8) s ∧ StpQ s ∧ Reads W s.da s.dz W.heap.size := by
  obtain ⟨_, hlen, hcell⟩ := World.cells?_some h1
  obtain ⟨v0, v1, v2, v3, v4, v5, v6, v7, y0, y1, y2, y3, y4, y5, y6, y7, k, rfl, ⟨hx1, hp⟩, t0, t1, t2, t3, t4, t5, t6, t7⟩ := elem8q Tryd.underlying34 (by kernel_rfl) hlen h
  have hc : ∀ j, j < 8 → W.cell? ⟨b, off + i * 8 + j, none⟩ = [v0, v1, v2, v3, v4, v5, v6, v7][j]? := fun j hj => by
    have := hcell j (by omega)
    rw [Go.Deep.add_add, Go.WideShapes.add_plain] at this
    rw [Nat.add_assoc, this]
  obtain ⟨z0, e0, _, w0⟩ := DataW.trod_int Tryd.underlying5 t0
  obtain ⟨z1, e1, _, w1⟩ := DataW.trod_int Tryd.underlying5 t1
  obtain ⟨z2, e2, _, w2⟩ := DataW.trod_int Tryd.underlying5 t2
  obtain ⟨z3, e3, _, w3⟩ := DataW.trod_int Tryd.underlying31 t3
  obtain ⟨z4, e4, _, w4⟩ := DataW.trod_int Tryd.underlying31 t4
  obtain ⟨z5, e5, _, w5⟩ := DataW.trod_int Tryd.underlying3 t5
  obtain ⟨z6, e6, _⟩ := DataW.trod_bool Tryd.underlying4 t6
  obtain ⟨ao, cap, zs, e7, hcp, hwf, hr, hdd⟩ := bytes_cells (d := y7.1) (p := y7.2) t7 (fun z hz => hlt z (hp z hz))
  simp only [List.cons.injEq, and_true] at e0 e1 e2 e3 e4 e5 e6 e7
  subst e0 e1 e2 e3 e4 e5 e6 e7
  obtain ⟨n0, rfl, b0⟩ := nat_ofq (byte_wf w0)
  obtain ⟨n1, rfl, b1⟩ := nat_ofq (byte_wf w1)
  obtain ⟨n2, rfl, b2⟩ := nat_ofq (byte_wf w2)
  obtain ⟨n3, rfl, b3⟩ := nat_ofq (word_wf w3)
  obtain ⟨n4, rfl, b4⟩ := nat_ofq (word_wf w4)
  have b5 := int_wf w5
  refine ⟨⟨n0, n1, n2, n3, n4, z5, z6, ao, cap, zs⟩, ⟨(hc 0 (by decide)).trans rfl, (hc 1 (by decide)).trans rfl, (hc 2 (by decide)).trans rfl, (hc 3 (by decide)).trans rfl, (hc 4 (by decide)).trans rfl, (hc 5 (by decide)).trans rfl, (hc 6 (by decide)).trans rfl, (hc 7 (by decide)).trans rfl⟩, ⟨⟨by simp only; omega, by simp only; omega, by simp only; omega, b5.1, b5.2, hcp, hwf⟩, by simp only; omega, by simp only; omega, ?_⟩, hr⟩
  simp only
  rcases hdd with ⟨_, rfl⟩ | ⟨sp, hd⟩
  · exact Nat.zero_le _
  · have hm : (zs.length + sp.length) * Tryd.prog.bytesOf 5 ∈ x.1.weights Tryd.prog 34 := by
      rw [hx1]
      unfold DataW.weights
      rw [Tryd.underlying34]
      refine DataW.weights_mem_each (j := 7) (t := 32) (d := y7.1) rfl rfl _ ?_
      rw [hd]
      simp [DataW.weights, Tryd.underlying32, lits]
    have := hw _ hm
    rw [show Tryd.prog.bytesOf 5 = 1 by kernel_rfl] at this
    unfold reachBytes at this
    omega
theorem steps_openq {H : Type} {enc : TypeId × Value → H} {W : World} {a0 : Option Addr} {len cap : Nat} {d : DataW H} {p : List MemPlace}
    (h : DataW.Trod enc Tryd.prog W 0 (fun _ => true) true 22 (.slice a0 len cap) d p) (hlt : ∀ x ∈ p, x.block < W.heap.size) (hw : ∀ m ∈ d.weights Tryd.prog 22, m ≤ reachBytes) :
    ∃ L : List Stp, L.length = len ∧ StpsR W a0 L W.heap.size ∧ (∀ s ∈ L, StpQ s) ∧ L.length ≤ 2600000000000 := by
  obtain ⟨fuel, hf⟩ := h
  rcases Go.Deep.open_slice Tryd.underlying22 hf with ⟨hcs, hx⟩ | ⟨a, len', cap', m, n, D, Pl, hcs, _, hl, hm, hmm, hx, hel⟩
  · simp [Value.cells] at hcs
    obtain ⟨rfl, rfl, rfl⟩ := hcs
    exact ⟨[], rfl, fun j hj => by simp at hj, fun s hs => by simp at hs, by simp⟩
  · simp only [Prod.mk.injEq] at hx
    obtain ⟨rfl, rfl⟩ := hx
    simp [Value.cells] at hcs
    obtain ⟨rfl, rfl, rfl⟩ := hcs
    simp only [if_true] at hmm
    subst hmm
    rw [Tryd.cells8q] at hel hlt
    have hwe : ∀ i, i < len → ∀ m ∈ (D i).weights Tryd.prog 34, m ≤ reachBytes := fun i hi m hm => hw m (by
      simp only [DataW.weights, Tryd.underlying22]
      exact List.mem_cons_of_mem _ (List.mem_append_left _ (weightsAll_mq (List.mem_map.2 ⟨i, List.mem_range.2 hi, rfl⟩) hm)))
    have hwl : len * 56 ≤ reachBytes := by
      have hw2 := hw
      simp only [DataW.weights, Tryd.underlying22] at hw2
      have := hw2 _ List.mem_cons_self
      rw [show Tryd.prog.bytesOf 34 = 56 by kernel_rfl] at this
      simp at this
      omega
    by_cases hz : len = 0
    · subst hz
      exact ⟨[], rfl, fun j hj => by simp at hj, fun s hs => by simp at hs, by simp⟩
    obtain ⟨b, off, spot⟩ := a
    obtain ⟨cs0, g0, _⟩ := hel 0 (by omega)
    have hspot : spot = none := by
      obtain ⟨_, hl0, hc0⟩ := World.cells?_some g0
      have := hc0 0 (by omega)
      rw [List.getElem?_eq_getElem (by omega)] at this
      simpa [Addr.add] using World.cell?_spot this
    subst hspot
    have hbW : b < W.heap.size := hlt (.cell b off) (List.mem_append_left _ (MemPlace.mem_row.2 ⟨0, by omega, by simp⟩))
    have each : ∀ i, i < len → ∃ s : Stp, StpAt W b (off + i * 8) s ∧ StpQ s ∧ Reads W s.da s.dz W.heap.size := fun i hi => by
      obtain ⟨cs', g1, g2⟩ := hel i (by omega)
      exact step_openq g1 g2 (fun z hz => hlt z (List.mem_append_right _ (List.mem_flatMap.2 ⟨i, List.mem_range.2 (by omega), hz⟩))) (hwe i hi)
    obtain ⟨f, hfx⟩ : ∃ f : Nat → Stp, ∀ i, i < len → StpAt W b (off + i * 8) (f i) ∧ StpQ (f i) ∧ Reads W (f i).da (f i).dz W.heap.size :=
      ⟨fun i => if hi : i < len then (each i hi).choose else ⟨0, 0, 0, 0, 0, 0, false, none, 0, []⟩, fun i hi => by simp only [hi, dite_true]; exact (each i hi).choose_spec⟩
    refine ⟨(List.range len).map f, by simp, ?_, ?_, by unfold reachBytes at hwl; simp; omega⟩
    · intro j hj
      have hj' : j < len := by simpa using hj
      have e : ((List.range len).map f)[j] = f j := by simp
      rw [e]
      exact ⟨b, off, rfl, hbW, (hfx j hj').1, (hfx j hj').2.2⟩
    · intro s hs
      obtain ⟨i, hi, rfl⟩ := List.mem_map.1 hs
      exact (hfx i (List.mem_range.1 hi)).2.1
end Go.Proofs.YtnjglagfpghbjaaDoor
namespace Go.Proofs.YtnjglagfpghbjaaDoor
open Go.ChangeShapes Go.WideShapes Go.ChangeAt Go.RowKit
set_option maxRecDepth 100000

theorem tab_reads {P : Program} {W : World} {name : String} {k : IntKind} {zs : List Int} {g : Nat} {t e : TypeId} {n : Nat}
    (hg : P.globalNamed name = some g) (hty : (P.globals[g]?).map (·.type) = some t) (ht : P.underlying t = some (.array n e)) (he : P.underlying e = some (.int k)) (hce : P.cellsOf e = 1) (hct : P.cellsOf t = n)
    (h : Lib.VarReads P W name (Lib.tabData k zs)) : Lib.TabIs P W name k zs := by
  obtain ⟨g', t', cs, fuel, p, hg', ht', hvar, hd⟩ := h
  obtain rfl := Option.some.inj (hg.symm.trans hg')
  obtain rfl := Option.some.inj (hty.symm.trans ht')
  unfold Lib.TabIs
  rw [hvar, ← Lib.cells_of_tab ht he hce hct hd]
abbrev laid2 : List (String × DataW Unit) := [("math/bits.deBruijn32tab", Rows.laid_math_bits_deBruijn32tab), ("math/bits.deBruijn64tab", Rows.laid_math_bits_deBruijn64tab)]
theorem cell_pos {w : World} {i : Nat} {v : Value} (h : w.cell? ⟨1, i, none⟩ = some v) : 1 < w.heap.size := by
  by_cases hp : 1 < w.heap.size
  · exact hp
  · have : w.heap[1]? = none := Array.getElem?_eq_none (by omega)
    simp [World.cell?, this] at h
theorem tab_laid {W : World} (h : laidMetH Tryd.prog laid2 W) : TabA W := by
  rw [MakeChecks.laidMetH_plain _ _ _ (by kernel_rfl)] at h
  have r1 : Lib.VarReads Tryd.prog W "math/bits.deBruijn64tab" (Lib.tabData .u8 [0, 1, 56, 2, 57, 49, 28, 3, 61, 58, 42, 50, 38, 29, 17, 4, 62, 47, 59, 36, 45, 43, 51, 22, 53, 39, 33, 30, 24, 18, 12, 5, 63, 55, 48, 27, 60, 41, 37, 16, 46, 35, 44, 21, 52, 32, 23, 11, 54, 26, 40, 15, 34, 20, 31, 10, 25, 14, 19, 9, 13, 8, 7, 6]) := Lib.laidMet.reads h (.tail _ (.head _))
  have t1 := tab_reads (g := 1) (t := 93) (e := 5) (n := 64) (by kernel_rfl) (by kernel_rfl) Tryd.underlying93 Tryd.underlying5 (by kernel_rfl) (by kernel_rfl) r1
  exact ⟨t1.cell (g := 1) (by kernel_rfl) 61 (by decide), t1.cell (g := 1) (by kernel_rfl) 59 (by decide), t1.cell (g := 1) (by kernel_rfl) 55 (by decide), t1.cell (g := 1) (by kernel_rfl) 47 (by decide), t1.cell (g := 1) (by kernel_rfl) 30 (by decide), t1.cell (g := 1) (by kernel_rfl) 60 (by decide), t1.cell (g := 1) (by kernel_rfl) 57 (by decide), t1.cell (g := 1) (by kernel_rfl) 51 (by decide), t1.cell (g := 1) (by kernel_rfl) 39 (by decide)⟩
theorem memlogs_lifted (os : Os) (started : os.Started) (H : Type) (enc : TypeId × Value → H) :
    ReturnsInHanded {} Tryd.checked os 4 .any (fun w args => (Rows.memLogsSpec.pre enc Tryd.prog Tryd.f4 [] false w args ∧ laidMetH Tryd.prog laid2 w) ∧ sizedMet enc Tryd.prog Tryd.f4 (OpenSpec.ofChange Rows.memLogsSpec) false w args)
      (Rows.memLogsSpec.post enc Tryd.prog Tryd.f4 false true false false) := by
  refine returnsInHanded_of_change_and (C := Tryd.checked) (X := fun w _ => laidMetH Tryd.prog laid2 w) (fun _ _ _ hh h => h.of_heap hh) Tryd.own started (by kernel_rfl) Tryd.func4
    (ChangeSpec.witness_shaped (enc := enc) (C := Tryd.checked) (os := os) (X := fun w _ => laidMetH Tryd.prog laid2 w) false (World.laidAll Tryd.prog os laid2) #[.slice none 0 0] 8 (World.laidAll_os _ _ _)
      (World.shaped_of_ZipB (by kernel_rfl) (by kernel_rfl)) (by kernel_rfl) (by kernel_rfl) (by kernel_rfl)
      (by rw [MakeChecks.laidMetH_plain _ _ _ (by kernel_rfl)]; exact laidMet_laidAll _ (by kernel_rfl) (by kernel_rfl))) ?_
  intro W base args ds gs before hval0 hW _ hsz0 hL _
  have hsz : (DataW.weightsEach Tryd.prog (Tryd.f4.params.toList ++ Rows.memLogsSpec.plain.varTypes Tryd.prog) (ds ++ gs)).all (· ≤ reachBytes) = true := hsz0
  have hW' := hW
  obtain ⟨p, q, hA0, hV, rfl, _, _⟩ := hW
  have hval : ∀ (j : Nat) t v, Tryd.f4.params[j]? = some t → args[j]? = some v → Value.okWide Tryd.prog W .any base t v := hval0
  have hA : DataW.TrodAll enc Tryd.prog W 0 (fun _ => true) true Tryd.f4.params.toList args.toList ds p := hA0
  rw [Tryd.params4] at hA hval hsz
  obtain ⟨v0, vs0, d0, ds0, p0, q0, hargs, rfl, rfl, h0, r0⟩ := trodAll_cons hA
  obtain ⟨rfl, rfl, rfl⟩ := trodAll_nil r0
  obtain rfl : args = #[v0] := by cases args; simp_all
  obtain ⟨rfl, rfl⟩ := trodVars_none hV
  obtain ⟨a0, len0, cap0, rfl⟩ := okWide_slice Tryd.underlying22 (hval 0 22 v0 rfl rfl)
  clear hA0 hval0 hsz0
  simp only [List.append_nil] at hW' hsz
  have hlt0 : ∀ x ∈ p0, x.block < W.heap.size := fun x hx => by simpa using hW'.lt x (by simp [hx])
  have hw0 : ∀ m ∈ d0.weights Tryd.prog 22, m ≤ reachBytes := fun m hm => by
    have := List.all_eq_true.1 hsz _ (DataW.weights_mem_each (j := 0) (t := 22) (d := d0) rfl rfl m hm)
    simpa using this
  obtain ⟨L, rfl, g1, g2, g3⟩ := steps_openq h0 hlt0 hw0
  have hT := tab_laid hL
  refine (memlogs_any a0 cap0 L W hT (cell_pos hT.t8) g1 g2 g3).mono fun e W' ⟨he, hnx⟩ => ?_
  subst he
  have hback0 : DataW.Trod enc Tryd.prog W' 0 (fun b => decide (b < W.heap.size)) true 22 (.slice a0 L.length cap0) d0 p0 :=
    Below.trod Tryd.laidOut (by kernel_rfl) (of_decide_eq_true (by kernel_rfl)) h0 hnx hlt0
  refine ⟨_, rfl, _, _, _, [], (p0 ++ []), [], hW', ?_, ?_, rfl, hnx.frame _, fun h => by cases h⟩
  · exact trodAll_cons_mk (shut_bool Tryd.underlying4 _) trodAll_mk0
  · exact trodAll_cons_mk hback0 trodAll_mk0
theorem memlogs_row : Rows.MemLogsSaid :=
  OpenClaim.holds_of_wide 4 Tryd.f4 rfl rfl rfl rfl rfl rfl rfl ⟨rfl, rfl, rfl, rfl, rfl⟩ rfl rfl rfl rfl rfl (by kernel_rfl) Tryd.func4 (by kernel_rfl)
    (of_decide_eq_true (by kernel_rfl)) (by unfold Func.isWrapper; first | (rw [if_pos (by decide +kernel)]; kernel_rfl) | (rw [if_neg (by decide +kernel)]; exact ⟨rfl, rfl⟩))
    (fun os started H enc _ => memlogs_lifted os started H enc)
theorem memlogs_holds : Rows.MemLogsCardSaid :=
  Claim7.holds_tied_plain_at .later [] [.data, .data] true (true, "de986c267998a7e1c17991007bbe58b634d83a9f70109dc04a3819843e274912") false
    memlogs_row (fun _ h => by cases h) (by kernel_rfl) (fun _ h => by cases h) memLogs_row_tie rfl ⟨rfl, rfl⟩ (by kernel_rfl) rfl
    (fun f fn hf hfn => by
      obtain rfl : f = 4 := Option.some.inj ((show Tryd.prog.funcNamed "playpen/playpenlaw09.MemLogs" = some 4 by kernel_rfl).symm.trans hf) |>.symm
      obtain rfl : fn = Tryd.f4 := (Option.some.inj (Tryd.func4.symm.trans hfn)).symm
      exact ⟨by kernel_rfl, fun j t ht => by
        rw [Tryd.params4] at ht
        have hm : t ∈ [22] := by simpa using Array.mem_of_getElem? ht
        have hall : ([22].all fun u => !Tryd.prog.wantsStandIn u) = true := by kernel_rfl
        exact (show Tryd.prog.wantsStandIn t = false by simpa using List.all_eq_true.1 hall t hm)⟩)
    (by kernel_rfl)
end Go.Proofs.YtnjglagfpghbjaaDoor
