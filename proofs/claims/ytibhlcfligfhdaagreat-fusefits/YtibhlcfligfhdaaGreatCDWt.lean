import Derived.Test.YtibhlcfligfhdaaGreatCSStD
import Derived.Deep.RegionHeld3
namespace Go.Proofs.YtibhlcfligfhdaaGreat
open Go.RowKit Go.WideShapes
set_option maxRecDepth 100000
theorem infoDW : ∃ i : TypeInfo, Tryz.prog.info? 23 = some i ∧ i.zero = some (.int .u32 0) ∧ i.size = 1 ∧ i.bytes = 4 := by
 have h : (Tryz.prog.info? 23).map (fun i => (i.zero, i.size, i.bytes)) = some (some (.int .u32 0), 1, 4) := by kernel_rfl
 cases hi : Tryz.prog.info? 23 with
 | none => rw [hi] at h; simp at h
 | some i =>
   rw [hi] at h
   simp only [Option.map_some, Option.some.injEq, Prod.mk.injEq] at h
   exact ⟨i, rfl, h.1, h.2.1, h.2.2⟩
theorem takeD (J : List Nat) (k : Nat) (h : k < J.length) : J.take (k + 1) = J.take k ++ [J.getD k 0] := by
 rw [List.take_add_one, List.getD_eq_getElem?_getD, List.getElem?_eq_getElem h]; rfl
theorem wvD_snoc (l : List Nat) (x : Nat) : wvD (l ++ [x]) = wvD l ++ [.int .u32 (x : Int)] := by simp [wvD]
theorem oneD_cells (x : Nat) (w : World) {ty : TypeId} : ∀ j u, ([.int .u32 (x : Int)] : List Value)[j]? = some u → (w.alloc (.cells #[.int .u32 (x : Int)] ty)).cell? ((⟨w.heap.size, 0, none⟩ : Addr).add j) = some u := by
 intro j u hj
 match j, hj with
 | 0, hj => simp at hj; subst hj; simp [Addr.add]
set_option maxHeartbeats 2000000 in
theorem with_any (ao : Option Addr) (cap n x : Nat) (ws : List Nat) (w : World) (hn : n ≤ ws.length) (hl : ws.length ≤ 64) (hr : WoR w ao ws w.heap.size) :
   Calls Tryz.prog 83 #[.slice ao ws.length cap, .int .i64 (n : Int), .int .u32 (x : Int)] w fun e w' => ∃ v, e = .returned v ∧ w'.ownsRow w.heap.size 23 1 v (n + 1) (wvD (ws.take n ++ [x])) ∧ Below w.heap.size w w' := by
 obtain ⟨i0, hi, hz0, hz1, hz2⟩ := infoDW
 go_enter Tryz.func83, Tryz.ntmps83
 go_wp2
 go_loopw [7, 8] (fun u v wr => ∃ k : Nat, v = .int .i64 k ∧ k ≤ n ∧ wr.ownsRow w.heap.size 23 1 u k (wvD (ws.take k)) ∧ Below w.heap.size w wr)
   (fun _ v _ => n - (intOf v).toNat)
 case atStart => exact ⟨0, rfl, Nat.zero_le _, World.ownsRow_nil _ _ _ _, Below.refl _ _⟩
 case round =>
   obtain ⟨k, rfl, hk, hown, hb⟩ := hrel
   by_cases hlt : k < n
   · have hltI : (k : Int) < (n : Int) := by omega
     have hltL : (k : Int) < (ws.length : Int) := by omega
     obtain ⟨b, off, rfl, hbj, hc⟩ := (hr.below hb) (by omega)
     have v0 := hc k (by omega)
     have HTK := dhid (takeD ws k (by omega))
     generalize ws.getD k 0 = z at v0 HTK
     have hB := hb.size
     clear hc
     go_wp2_with (at_builtin; refine wpList_append_own _ rfl _ _ 96 rfl w.heap.size 23 i0 (.int .u32 0) 1 4 Tryz.underlying96 hi hz0 hz1 hz2 rfl (by decide) _ _ _ rfl (hown.alloc _) ⟨_, 0, none⟩ 1 1 [.int .u32 z] rfl rfl ?c1 ?c2 ?c3 ?c4 ?c5 ?_)
     case c1 =>
       intro j u hj
       match j, hj with
       | 0, hj => simp at hj; subst hj; simp [Addr.add]
     case c2 => first | rfl | (intro u hu; simp at hu; subst hu; rfl)
     case c3 => unfold maxLen; omega
     case c4 => omega
     case c5 => first | omega | (simp; omega)
     intro v' w1 hown' hgrow _
     have R2 : Below w.heap.size w w1 := grown_below hb hB hown hgrow
     have R1 : w1.ownsRow w.heap.size 23 1 v' (k + 1) (wvD (ws.take (k + 1))) := by
       rw [HTK.out, wvD_snoc]
       exact hown'
     clear hown' hgrow hown
     go_wp2
     go_roundw
     case rel => exact ⟨k + 1, by go_num, by omega, R1, R2⟩
     case measure => simp [intOf]; omega
   · have hltI : ¬ (k : Int) < (n : Int) := by omega
     have hkn : Hid (k = n) := dhid (by omega)
     have hB := hb.size
     clear hlt
     go_wp2_with (at_builtin; refine wpList_append_own _ rfl _ _ 96 rfl w.heap.size 23 i0 (.int .u32 0) 1 4 Tryz.underlying96 hi hz0 hz1 hz2 rfl (by decide) _ _ _ rfl (hown.alloc _) ⟨_, 0, none⟩ 1 1 [.int .u32 (x : Int)] rfl rfl (oneD_cells x wr) ?c2 ?c3 ?c4 ?c5 ?_)
     case c2 => first | rfl | (intro u hu; simp at hu; subst hu; rfl)
     case c3 => unfold maxLen; omega
     case c4 => omega
     case c5 => first | omega | (simp; omega)
     intro v' w1 hown' hgrow _
     have R2 : Below w.heap.size w w1 := grown_below hb hB hown hgrow
     rw [← wvD_snoc] at hown'
     have R1 := dhid hown'
     clear hown' hgrow hown
     go_wp2
     go_ret
     rw [← hkn.out]
     exact ⟨_, rfl, R1.out, R2⟩
end Go.Proofs.YtibhlcfligfhdaaGreat
namespace Go.Proofs.YtibhlcfligfhdaaGreat
open Go.RowKit Go.WideShapes
set_option maxRecDepth 100000
theorem kn_rest {op : Nat} (h1 : ¬ op = 1) (h8 : ¬ op = 8) (h10 : ¬ op = 10) (h11 : ¬ op = 11) : kn op = (decide (unE op = 0) || (decide (binE op 1 = 0) || decide (opKi op = 2))) := by
 simp [kn, h1, h8, h10, h11]
theorem ne_i {op k : Nat} (h : ¬ op = k) : ((op : Int) == (k : Int)) = false := by rw [beq_eq_false_iff_ne]; omega
set_option maxHeartbeats 2000000 in
theorem known_any (op : Nat) (w : World) (hop : op < 256) :
   Calls Tryz.prog 58 #[.int .u8 (op : Int)] w fun e w' => e = .returned (.bool (kn op)) ∧ Below w.heap.size w w' := by
 by_cases h1 : op = 1
 · subst h1
   rw [show kn 1 = true by decide +kernel]
   go_enter Tryz.func58, Tryz.ntmps58
   go_wp2
   go_ret
   exact ⟨rfl, Below.refl _ _⟩
 by_cases h8 : op = 8
 · subst h8
   rw [show kn 8 = true by decide +kernel]
   go_enter Tryz.func58, Tryz.ntmps58
   go_wp2
   go_ret
   exact ⟨rfl, Below.refl _ _⟩
 by_cases h10 : op = 10
 · subst h10
   rw [show kn 10 = true by decide +kernel]
   go_enter Tryz.func58, Tryz.ntmps58
   go_wp2
   go_ret
   exact ⟨rfl, Below.refl _ _⟩
 by_cases h11 : op = 11
 · subst h11
   rw [show kn 11 = true by decide +kernel]
   go_enter Tryz.func58, Tryz.ntmps58
   go_wp2
   go_ret
   exact ⟨rfl, Below.refl _ _⟩
 have d1 : ((op : Int) == 1) = false := ne_i h1
 have d8 : ((op : Int) == 8) = false := ne_i h8
 have d10 : ((op : Int) == 10) = false := ne_i h10
 have d11 : ((op : Int) == 11) = false := ne_i h11
 rw [kn_rest h1 h8 h10 h11]
 clear h1 h8 h10 h11
 have HU := dhid (fun w' => isun_any op w')
 have HB := dhid (fun w' => isbin_any op w')
 have HC := dhid (fun w' => iscmp_any op w' hop)
 generalize decide (unE op = 0) = bu at *
 generalize decide (binE op 1 = 0) = bb at *
 generalize decide (opKi op = 2) = bc at *
 cases bu
 · cases bb
   · go_enter Tryz.func58, Tryz.ntmps58
     go_wp2_with (first
       | (go_at_call 68; refine (HU.out _).mono ?_; rintro e w1 ⟨rfl, hb1⟩)
       | (go_at_call 69; refine (HB.out _).mono ?_; rintro e w2 ⟨rfl, hb2⟩)
       | (go_at_call 70; refine (HC.out _).mono ?_; rintro e w3 ⟨rfl, hb3⟩))
     go_ret
     exact ⟨rfl, (hb1.trans (hb2.mono hb1.size)).trans (hb3.mono (Nat.le_trans hb1.size hb2.size))⟩
   · go_enter Tryz.func58, Tryz.ntmps58
     go_wp2_with (first
       | (go_at_call 68; refine (HU.out _).mono ?_; rintro e w1 ⟨rfl, hb1⟩)
       | (go_at_call 69; refine (HB.out _).mono ?_; rintro e w2 ⟨rfl, hb2⟩)
       | (go_at_call 70; refine (HC.out _).mono ?_; rintro e w3 ⟨rfl, hb3⟩))
     go_ret
     exact ⟨rfl, hb1.trans (hb2.mono hb1.size)⟩
 · go_enter Tryz.func58, Tryz.ntmps58
   go_wp2_with (first
     | (go_at_call 68; refine (HU.out _).mono ?_; rintro e w1 ⟨rfl, hb1⟩)
     | (go_at_call 69; refine (HB.out _).mono ?_; rintro e w2 ⟨rfl, hb2⟩)
     | (go_at_call 70; refine (HC.out _).mono ?_; rintro e w3 ⟨rfl, hb3⟩))
   go_ret
   exact ⟨rfl, hb1⟩
end Go.Proofs.YtibhlcfligfhdaaGreat
namespace Go.Proofs.YtibhlcfligfhdaaGreat
open Go.RowKit Go.WideShapes
set_option maxRecDepth 100000
def onD (ws : List Nat) (op arg : Nat) : Option (List Nat) :=
 if op = 1 then some ws
 else if op = 8 then some (ws ++ [arg])
 else if op = 10 then (if 1 ≤ ws.length then some ws.dropLast else none)
 else if op = 11 then (if 1 ≤ ws.length then some (ws ++ [ws.getLastD 0]) else none)
 else if unE op = 0 then (if 1 ≤ ws.length then some (ws.dropLast ++ [unV op (ws.getLastD 0)]) else none)
 else if binE op 1 = 0 then (if 2 ≤ ws.length ∧ binE op (ws.getLastD 0) = 0 then some (ws.dropLast.dropLast ++ [binV op (ws.dropLast.getLastD 0) (ws.getLastD 0)]) else none)
 else none
def capD : Option (List Nat) → Option (List Nat)
 | none => none
 | some r => if r.length ≤ 64 then some r else none
theorem doD_on {ws : List Nat} {op arg : Nat} (hl : ws.length ≤ 64) : doD ws op arg = capD (onD ws op arg) := by
 unfold doD onD
 by_cases h1 : op = 1
 · simp [h1, capD, hl]
 by_cases h8 : op = 8
 · simp [h8, capD]
 by_cases h10 : op = 10
 · subst h10
   show (if 1 ≤ ws.length then some ws.dropLast else none) = capD (if 1 ≤ ws.length then some ws.dropLast else none)
   by_cases hw : 1 ≤ ws.length
   · rw [if_pos hw]; show _ = if _ then _ else _; rw [if_pos (by simp; omega)]
   · rw [if_neg hw]; rfl
 by_cases h11 : op = 11
 · subst h11
   show (if 1 ≤ ws.length ∧ ws.length + 1 ≤ 64 then some (ws ++ [ws.getLastD 0]) else none) = capD (if 1 ≤ ws.length then some (ws ++ [ws.getLastD 0]) else none)
   by_cases hw : 1 ≤ ws.length
   · rw [if_pos hw]; show _ = if _ then _ else _
     simp only [hw, true_and, List.length_append, List.length_singleton]
   · rw [if_neg hw, if_neg (fun e => hw e.1)]; rfl
 simp only [h1, h8, h10, h11, if_false]
 by_cases hu : unE op = 0
 · simp only [hu, if_true]
   by_cases hw : 1 ≤ ws.length
   · rw [if_pos hw]; show _ = if _ then _ else _; rw [if_pos (by simp; omega)]
   · rw [if_neg hw]; rfl
 simp only [hu, if_false]
 by_cases hb : binE op 1 = 0
 · simp only [hb, if_true]
   by_cases hw : 2 ≤ ws.length ∧ binE op (ws.getLastD 0) = 0
   · rw [if_pos hw]; show _ = if _ then _ else _; rw [if_pos (by simp; omega)]
   · rw [if_neg hw]; rfl
 · simp only [hb, if_false]; rfl
def OnP (o : Option (List Nat)) (w w' : World) (e : Ending) : Prop :=
 (∃ ao cap n, o = none ∧ e = .returned (.tuple #[.slice ao n cap, .bool false]) ∧ Below w.heap.size w w')
 ∨ ∃ ao cap M, o = some M ∧ e = .returned (.tuple #[.slice ao (M : List Nat).length cap, .bool true]) ∧ M.length ≤ cap ∧ WoR w' ao M w'.heap.size ∧ Below w.heap.size w w'
theorem with_on (ao : Option Addr) (cap n x : Nat) (ws M : List Nat) (hM : ws.take n ++ [x] = M) (w : World) (hn : n ≤ ws.length) (hl : ws.length ≤ 64) (hr : WoR w ao ws w.heap.size) :
   Calls Tryz.prog 83 #[.slice ao ws.length cap, .int .i64 (n : Int), .int .u32 (x : Int)] w fun e w' => ∃ bo c, e = .returned (.slice bo M.length c) ∧ Hid (M.length ≤ c ∧ WoR w' bo M w'.heap.size) ∧ Below w.heap.size w w' := by
 refine (with_any ao cap n x ws w hn hl hr).mono ?_
 rintro e w' ⟨v, rfl, hown, hb⟩
 have hlen : M.length = n + 1 := by rw [← hM]; simp; omega
 rw [hM, ← hlen] at hown
 obtain ⟨bo, c, rfl, h1, h2⟩ := own_wor hown
 exact ⟨bo, c, rfl, dhid ⟨h1, h2⟩, hb⟩
theorem last_at {ws : List Nat} {k : Nat} (h : ws.length = k + 1) : ws.getLastD 0 = ws.getD k 0 ∧ ws.dropLast = ws.take k := by
 constructor
 · rw [List.getLastD_eq_getLast?, List.getLast?_eq_getElem?, List.getD_eq_getElem?_getD, h]; rfl
 · rw [List.dropLast_eq_take, h]; rfl
theorem last_at2 {ws : List Nat} {k : Nat} (h : ws.length = k + 2) : ws.dropLast.getLastD 0 = ws.getD k 0 ∧ ws.dropLast.dropLast = ws.take k := by
 have hd : ws.dropLast = ws.take (k + 1) := (last_at h).2
 have hl : (ws.take (k + 1)).length = k + 1 := by simp; omega
 rw [hd]
 refine ⟨(last_at hl).1.trans ?_, (last_at hl).2.trans ?_⟩
 · rw [List.getD_eq_getElem?_getD, List.getElem?_take_of_lt (by omega), List.getD_eq_getElem?_getD]
 · rw [List.take_take, Nat.min_eq_left (by omega)]
theorem WoR.take {w : World} {ao : Option Addr} {ws : List Nat} {B : Nat} (h : WoR w ao ws B) (k : Nat) : WoR w ao (ws.take k) B := by
 intro hl
 rw [List.length_take] at hl
 obtain ⟨b, off, e, hlt, hc⟩ := h (by omega)
 refine ⟨b, off, e, hlt, fun j hj => ?_⟩
 rw [List.length_take] at hj
 rw [hc j (by omega), List.getD_eq_getElem?_getD, List.getD_eq_getElem?_getD, List.getElem?_take_of_lt (by omega)]
end Go.Proofs.YtibhlcfligfhdaaGreat
namespace Go.Proofs.YtibhlcfligfhdaaGreat
open Go.RowKit Go.WideShapes
set_option maxRecDepth 100000
theorem onD_none_un {ws : List Nat} {op arg : Nat} (h1 : ¬ op = 1) (h8 : ¬ op = 8) (h10 : ¬ op = 10) (h11 : ¬ op = 11) : onD ws op arg = if unE op = 0 then (if 1 ≤ ws.length then some (ws.dropLast ++ [unV op (ws.getLastD 0)]) else none)
 else if binE op 1 = 0 then (if 2 ≤ ws.length ∧ binE op (ws.getLastD 0) = 0 then some (ws.dropLast.dropLast ++ [binV op (ws.dropLast.getLastD 0) (ws.getLastD 0)]) else none)
 else none := by simp only [onD, h1, h8, h10, h11, if_false]
set_option maxHeartbeats 4000000 in
theorem one_any (ao : Option Addr) (cap op arg : Nat) (ws : List Nat) (w : World) (hop : op < 256) (hcap : ws.length ≤ cap) (hl : ws.length ≤ 64) (hws : ∀ x ∈ ws, x < 4294967296) (hr : WoR w ao ws w.heap.size) :
   Calls Tryz.prog 72 #[.slice ao ws.length cap, .agg #[.int .u8 (op : Int), .int .u32 (arg : Int)]] w fun e w' => OnP (onD ws op arg) w w' e := by
 have hbd : Below w.heap.size w w := Below.refl _ _
 by_cases h1 : op = 1
 · subst h1
   rw [show onD ws 1 arg = some ws from rfl]
   have HR := dhid (fun o => WoR.mono (hr.below (hbd.alloc (Nat.le_refl _) o)) (C := (w.alloc o).heap.size) (by simp))
   clear hr
   go_enter Tryz.func72, Tryz.ntmps72
   go_wp2
   go_ret2
   exact .inr ⟨_, _, ws, rfl, rfl, hcap, HR.out _, hbd.alloc (Nat.le_refl _) _⟩
 by_cases h8 : op = 8
 · subst h8
   rw [show onD ws 8 arg = some (ws ++ [arg]) from rfl]
   have HW := dhid (fun o => with_on ao cap ws.length arg ws (ws ++ [arg]) (by rw [List.take_length]) (w.alloc o) (Nat.le_refl _) hl (WoR.mono (hr.below (hbd.alloc (Nat.le_refl _) o)) (by simp)))
   generalize ws ++ [arg] = M at HW
   clear hr
   go_enter Tryz.func72, Tryz.ntmps72
   go_wp2_with (go_at_call 83; with_reducible refine (HW.out _).mono ?_; rintro e w1 ⟨bo, c, rfl, h1, hb1⟩)
   go_ret2
   exact .inr ⟨_, _, M, rfl, rfl, h1.out.1, h1.out.2, (hbd.alloc (Nat.le_refl _) _).trans (hb1.mono (by simp))⟩
 by_cases h10 : op = 10
 · subst h10
   rw [show onD ws 10 arg = if 1 ≤ ws.length then some ws.dropLast else none from rfl]
   by_cases hw : 1 ≤ ws.length
   · obtain ⟨k, hk⟩ : ∃ k, ws.length = k + 1 := ⟨ws.length - 1, by omega⟩
     rw [if_pos hw, (last_at hk).2]
     have HR := dhid (fun o => WoR.mono ((hr.take k).below (hbd.alloc (Nat.le_refl _) o)) (C := (w.alloc o).heap.size) (by simp))
     have hkl : (ws.take k).length = k := by simp; omega
     clear hr hws
     generalize ws.take k = M at *
     have hkc : k + 1 ≤ cap := by omega
     have hk64 : k < 64 := by omega
     rw [hk]
     clear hk hcap hl hw
     have t1 : ¬ ((k : Int) + 1 < 1) := by omega
     have t2 : (k : Int) ≤ (cap : Int) := by omega
     have t3 : (0 : Int) ≤ (k : Int) := by omega
     go_enter Tryz.func72, Tryz.ntmps72
     go_wp2
     go_ret2
     refine .inr ⟨_, cap, M, rfl, ?_, (by omega), HR.out _, hbd.alloc (Nat.le_refl _) _⟩
     rw [hkl]; rfl
   · rw [if_neg hw]
     have h0 : ws.length = 0 := by omega
     rw [h0]
     go_enter Tryz.func72, Tryz.ntmps72
     go_wp2
     go_ret2
     exact .inl ⟨_, _, _, rfl, rfl, hbd.alloc (Nat.le_refl _) _⟩
 by_cases h11 : op = 11
 · subst h11
   rw [show onD ws 11 arg = if 1 ≤ ws.length then some (ws ++ [ws.getLastD 0]) else none from rfl]
   by_cases hw : 1 ≤ ws.length
   · obtain ⟨k, hk⟩ : ∃ k, ws.length = k + 1 := ⟨ws.length - 1, by omega⟩
     rw [if_pos hw, (last_at hk).1]
     obtain ⟨b, off, rfl, hbl, hc⟩ := hr hw
     have c0 := hc k (by omega)
     have hne : ¬ b = w.heap.size := by omega
     have HW := dhid (fun o => with_on (some ⟨b, off, none⟩) cap ws.length (ws.getD k 0) ws (ws ++ [ws.getD k 0]) (by rw [List.take_length]) (w.alloc o) (Nat.le_refl _) hl (WoR.mono (hr.below (hbd.alloc (Nat.le_refl _) o)) (by simp)))
     generalize ws ++ [ws.getD k 0] = M at HW
     generalize ws.getD k 0 = x at *
     clear hr hws hc
     have hkc : k + 1 ≤ cap := by omega
     have hk64 : k < 64 := by omega
     rw [hk, show ((k + 1 : Nat) : Int) = (k : Int) + 1 from rfl] at HW
     rw [hk]
     clear hk hcap hl
     have t1 : ¬ ((k : Int) + 1 < 1) := by omega
     have t3 : (0 : Int) ≤ (k : Int) := by omega
     clear hw
     go_enter Tryz.func72, Tryz.ntmps72
     go_wp2_with (go_at_call 83; with_reducible refine (HW.out _).mono ?_; rintro e w1 ⟨bo, c, rfl, h1, hb1⟩)
     go_ret2
     exact .inr ⟨_, _, M, rfl, rfl, h1.out.1, h1.out.2, (hbd.alloc (Nat.le_refl _) _).trans (hb1.mono (by simp))⟩
   · rw [if_neg hw]
     have h0 : ws.length = 0 := by omega
     rw [h0]
     go_enter Tryz.func72, Tryz.ntmps72
     go_wp2
     go_ret2
     exact .inl ⟨_, _, _, rfl, rfl, hbd.alloc (Nat.le_refl _) _⟩
 rw [onD_none_un h1 h8 h10 h11]
 have d1 : ((op : Int) == 1) = false := ne_i h1
 have d8 : ((op : Int) == 8) = false := ne_i h8
 have d10 : ((op : Int) == 10) = false := ne_i h10
 have d11 : ((op : Int) == 11) = false := ne_i h11
 clear h1 h8 h10 h11
 have HU := dhid (fun w' => isun_any op w')
 have HB := dhid (fun w' => isbin_any op w')
 have HA := dhid (fun o => hbd.alloc (Nat.le_refl _) o)
 by_cases hu : unE op = 0
 · rw [if_pos hu]
   rw [show decide (unE op = 0) = true by simp [hu]] at HU
   by_cases hw : 1 ≤ ws.length
   · obtain ⟨k, hk⟩ : ∃ k, ws.length = k + 1 := ⟨ws.length - 1, by omega⟩
     rw [if_pos hw, (last_at hk).1, (last_at hk).2]
     obtain ⟨b, off, rfl, hbl, hc⟩ := hr hw
     have c0 := hc k (by omega)
     have hx : ws.getD k 0 < 4294967296 := hws _ (by rw [List.getD_eq_getElem?_getD, List.getElem?_eq_getElem (by omega)]; simp)
     have HX := dhid (fun w' => ru_any op (ws.getD k 0) w' hx)
     rw [hu] at HX
     have HW := dhid (fun w' (hh : Below w.heap.size w w') => with_on (some ⟨b, off, none⟩) cap k (unV op (ws.getD k 0)) ws (ws.take k ++ [unV op (ws.getD k 0)]) rfl w' (by omega) hl (WoR.mono (hr.below hh) hh.size))
     generalize ws.take k ++ [unV op (ws.getD k 0)] = M at HW
     generalize unV op (ws.getD k 0) = y at *
     have HS := dhid (fun V (hh : Below w.heap.size w V) => (hh.cell (p := ⟨b, off + k, none⟩) hbl).trans c0)
     generalize ws.getD k 0 = x at *
     clear hr hws hc c0
     have hkc : k + 1 ≤ cap := by omega
     have hk64 : k < 64 := by omega
     rw [hk] at HW ⊢
     clear hk hcap hl
     have t1 : ¬ ((k : Int) + 1 < 1) := by omega
     have t3 : (0 : Int) ≤ (k : Int) := by omega
     have t4 : (k : Int) < (k : Int) + 1 := by omega
     have hwk : IntKind.i64.wrap (k : Int) = (k : Int) := by rw [IntKind.wrap_i64]; omega
     clear hw hu hop
     go_enter Tryz.func72, Tryz.ntmps72
     go_wp2_with (first
       | (go_at_call 68; with_reducible refine (HU.out _).mono ?_; rintro e w1 ⟨rfl, hb1⟩
          have o1 := dhid ((hb1.block w.heap.size (by simp)).trans (heap_alloc_new w _))
          have R1 := dhid ((HA.out _).trans (hb1.mono (by simp)))))
     have HS1 := dhid (fun V (hh : Below w1.heap.size w1 V) => And.intro (obj_cell ((hh.block w.heap.size (Array.getElem?_eq_some_iff.1 o1.out).1).trans o1.out) 0) (HS.out V (R1.out.trans (hh.mono R1.out.size))))
     simp only [List.getElem?_toArray, List.getElem?_cons_zero] at HS1
     have R0 : Hid (Below w1.heap.size w1 w1.drew) := dhid (Below.drew (Below.refl _ _))
     clear HS HU HB hb1 o1
     go_region_held3 (fun V => V.cell? ⟨w.heap.size, 0, none⟩ = some (.int .u8 (op : Int)) ∧ V.cell? ⟨b, off + k, none⟩ = some (.int .u32 (x : Int))) (first | exact HS1.out _ R0.out | exact HS1.out _ (Below.refl _ _) | exact HS1.out _ (R0.out.trans (hb2.mono R0.out.size))) (first
       | (go_at_call 78; with_reducible refine (HX.out _).mono ?_; rintro e w2 ⟨rfl, hb2⟩))
     have R2 := dhid (R1.out.trans ((R0.out.trans (hb2.mono R0.out.size)).mono R1.out.size))
     go_wp2_with (go_at_call 83; with_reducible refine (HW.out _ R2.out).mono ?_; rintro e w3 ⟨bo, c, rfl, h1, hb3⟩)
     go_ret2
     exact .inr ⟨_, _, M, rfl, rfl, h1.out.1, h1.out.2, R2.out.trans (hb3.mono R2.out.size)⟩
   · rw [if_neg hw]
     have h0 : ws.length = 0 := by omega
     rw [h0]
     clear hw hu hop HB
     go_enter Tryz.func72, Tryz.ntmps72
     go_wp2_with (first
       | (go_at_call 68; with_reducible refine (HU.out _).mono ?_; rintro e w1 ⟨rfl, hb1⟩
          have R1 := dhid ((HA.out _).trans (hb1.mono (by simp)))))
     go_ret2
     exact .inl ⟨_, _, _, rfl, rfl, R1.out⟩
 rw [if_neg hu]
 rw [show decide (unE op = 0) = false by simp [hu]] at HU
 by_cases hb : binE op 1 = 0
 · rw [if_pos hb]
   rw [show decide (binE op 1 = 0) = true by simp [hb]] at HB
   by_cases hw : 2 ≤ ws.length
   · obtain ⟨k, hk⟩ : ∃ k, ws.length = k + 2 := ⟨ws.length - 2, by omega⟩
     have hk1 : ws.length = (k + 1) + 1 := hk
     rw [(last_at hk1).1, (last_at2 hk).1, (last_at2 hk).2]
     obtain ⟨b, off, rfl, hbl, hc⟩ := hr (by omega)
     have c0 := hc k (by omega)
     have c1 := hc (k + 1) (by omega)
     have hx : ws.getD k 0 < 4294967296 := hws _ (by rw [List.getD_eq_getElem?_getD, List.getElem?_eq_getElem (by omega)]; simp)
     have hy : ws.getD (k + 1) 0 < 4294967296 := hws _ (by rw [List.getD_eq_getElem?_getD, List.getElem?_eq_getElem (by omega)]; simp)
     have HX := dhid (fun w' => rb_any op (ws.getD k 0) (ws.getD (k + 1) 0) w' hx hy)
     have HW := dhid (fun w' (hh : Below w.heap.size w w') => with_on (some ⟨b, off, none⟩) cap k (binV op (ws.getD k 0) (ws.getD (k + 1) 0)) ws (ws.take k ++ [binV op (ws.getD k 0) (ws.getD (k + 1) 0)]) rfl w' (by omega) hl (WoR.mono (hr.below hh) hh.size))
     generalize ws.take k ++ [binV op (ws.getD k 0) (ws.getD (k + 1) 0)] = M at *
     generalize binV op (ws.getD k 0) (ws.getD (k + 1) 0) = z at *
     have HS := dhid (fun V (hh : Below w.heap.size w V) => And.intro ((hh.cell (p := ⟨b, off + k, none⟩) hbl).trans c0) ((hh.cell (p := ⟨b, off + (k + 1), none⟩) hbl).trans c1))
     generalize ws.getD k 0 = x at *
     generalize ws.getD (k + 1) 0 = y at *
     clear hr hws hc c0 c1
     have hkc : k + 2 ≤ cap := by omega
     have hk64 : k < 63 := by omega
     rw [show (if 2 ≤ ws.length ∧ binE op y = 0 then some M else none) = (if binE op y = 0 then some M else none) by simp [hw]]
     obtain ⟨o, hO⟩ : ∃ o, o = (if binE op y = 0 then some M else none) := ⟨_, rfl⟩
     rw [← hO]
     replace hO := dhid hO
     rw [hk] at HW ⊢
     clear hk hk1 hcap hl
     have t1 : ¬ ((k : Int) + 2 < 2) := by omega
     have t3 : (0 : Int) ≤ (k : Int) := by omega
     have t4 : (k : Int) < (k : Int) + 2 := by omega
     have t5 : (k : Int) + 1 < (k : Int) + 2 := by omega
     have t6 : (0 : Int) ≤ (k : Int) + 1 := by omega
     have hwk : IntKind.i64.wrap (k : Int) = (k : Int) := by rw [IntKind.wrap_i64]; omega
     have hwk1 : IntKind.i64.wrap ((k : Int) + 2 - 1) = (k : Int) + 1 := by rw [IntKind.wrap_i64]; omega
     have hwk2 : IntKind.i64.wrap ((k : Int) + 1) = (k : Int) + 1 := by rw [IntKind.wrap_i64]; omega
     have t7 : ((k : Int) + 1).toNat = k + 1 := by omega
     have t8 : ((k : Int) + 2 - 1) = (k : Int) + 1 := by omega
     clear hw hu hop hb
     go_enter Tryz.func72, Tryz.ntmps72
     go_wp2_with (first
       | (go_at_call 68; with_reducible refine (HU.out _).mono ?_; rintro e w0 ⟨rfl, hb0⟩
          have o0 := dhid ((hb0.block w.heap.size (by simp)).trans (heap_alloc_new w _))
          have e0 := obj_cell o0.out 0
          simp only [List.getElem?_toArray, List.getElem?_cons_zero] at e0
          have R0 := dhid ((HA.out _).trans (hb0.mono (by simp))))
       | (go_at_call 69; with_reducible refine (HB.out _).mono ?_; rintro e w1 ⟨rfl, hb1⟩
          have o1 := dhid ((hb1.block w.heap.size (Array.getElem?_eq_some_iff.1 o0.out).1).trans o0.out)
          have R1 := dhid (R0.out.trans (hb1.mono R0.out.size))))
     have HS1 := dhid (fun V (hh : Below w1.heap.size w1 V) => And.intro (obj_cell ((hh.block w.heap.size (Array.getElem?_eq_some_iff.1 o1.out).1).trans o1.out) 0) (HS.out V (R1.out.trans (hh.mono R1.out.size))))
     simp only [List.getElem?_toArray, List.getElem?_cons_zero] at HS1
     have R0' : Hid (Below w1.heap.size w1 w1.drew) := dhid (Below.drew (Below.refl _ _))
     clear HS HU HB hb1 o1 hb0 o0 R0 e0
     go_region_held3 (fun V => V.cell? ⟨w.heap.size, 0, none⟩ = some (.int .u8 (op : Int)) ∧ V.cell? ⟨b, off + k, none⟩ = some (.int .u32 (x : Int)) ∧ V.cell? ⟨b, off + (k + 1), none⟩ = some (.int .u32 (y : Int))) (first | exact HS1.out _ R0'.out | exact HS1.out _ (Below.refl _ _) | exact HS1.out _ (R0'.out.trans (hb2.mono R0'.out.size))) (first
       | (go_at_call 79; with_reducible refine (HX.out _).mono ?_; rintro e w2 ⟨rfl, hb2⟩))
     have R2 := dhid (R1.out.trans ((R0'.out.trans (hb2.mono R0'.out.size)).mono R1.out.size))
     by_cases hE : binE op y = 0
     · have hO1 : o = some M := by rw [hO.out, if_pos hE]
       have dE : ((binE op y : Int) == 0) = true := by rw [hE]; rfl
       clear hE hO
       replace hO1 := dhid hO1
       generalize binE op y = er at *
       go_wp2_with (go_at_call 83; with_reducible refine (HW.out _ R2.out).mono ?_; rintro e w3 ⟨bo, c, rfl, h1, hb3⟩)
       go_ret2
       exact .inr ⟨_, _, M, hO1.out, rfl, h1.out.1, h1.out.2, R2.out.trans (hb3.mono R2.out.size)⟩
     · have hO1 : o = none := by rw [hO.out, if_neg hE]
       have dE : ((binE op y : Int) == 0) = false := by rw [beq_eq_false_iff_ne]; exact hE
       clear hE hO
       replace hO1 := dhid hO1
       generalize binE op y = er at *
       go_wp2_with (go_at_call 83; with_reducible refine (HW.out _ R2.out).mono ?_; rintro e w3 ⟨bo, c, rfl, h1, hb3⟩)
       go_ret2
       exact .inl ⟨_, _, _, hO1.out, rfl, R2.out.trans (hb3.mono R2.out.size)⟩
   · rw [if_neg (fun e => hw e.1)]
     have t0 : (ws.length : Int) < 2 := by omega
     clear hw hu hop hr hws
     generalize ws.length = n at *
     go_enter Tryz.func72, Tryz.ntmps72
     go_wp2_with (first
       | (go_at_call 68; with_reducible refine (HU.out _).mono ?_; rintro e w1 ⟨rfl, hb1⟩
          have o1 := dhid ((hb1.block w.heap.size (by simp)).trans (heap_alloc_new w _))
          have e0 := obj_cell o1.out 0
          simp only [List.getElem?_toArray, List.getElem?_cons_zero] at e0
          have R1 := dhid ((HA.out _).trans (hb1.mono (by simp))))
       | (go_at_call 69; with_reducible refine (HB.out _).mono ?_; rintro e w2 ⟨rfl, hb2⟩
          have R2 := dhid (R1.out.trans (hb2.mono R1.out.size))))
     go_ret2
     exact .inl ⟨_, _, _, rfl, rfl, R2.out⟩
 · rw [if_neg hb]
   rw [show decide (binE op 1 = 0) = false by simp [hb]] at HB
   clear hb hu hop hr hws
   go_enter Tryz.func72, Tryz.ntmps72
   go_wp2_with (first
     | (go_at_call 68; with_reducible refine (HU.out _).mono ?_; rintro e w1 ⟨rfl, hb1⟩
        have o1 := dhid ((hb1.block w.heap.size (by simp)).trans (heap_alloc_new w _))
        have e0 := obj_cell o1.out 0
        simp only [List.getElem?_toArray, List.getElem?_cons_zero] at e0
        have R1 := dhid ((HA.out _).trans (hb1.mono (by simp))))
     | (go_at_call 69; with_reducible refine (HB.out _).mono ?_; rintro e w2 ⟨rfl, hb2⟩
        have R2 := dhid (R1.out.trans (hb2.mono R1.out.size))))
   go_ret2
   exact .inl ⟨_, _, _, rfl, rfl, R2.out⟩
end Go.Proofs.YtibhlcfligfhdaaGreat
