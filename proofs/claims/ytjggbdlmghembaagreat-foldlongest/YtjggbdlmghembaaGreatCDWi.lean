import Derived.Test.YtjggbdlmghembaaGreatCDRn
import Derived.Test.YtjggbdlmghembaaGreatABRc
import Derived.Test.YtjggbdlmghembaaGreatCAURx
import Derived.Test.YtjggbdlmghembaaGreatCSStE
import Derived.Laws.AppendOwnNone
import Derived.Test.YtjggbdlmghembaaGreatRows
import Derived.WalkKit
import Derived.Laws.BitsAllLaws
import Derived.Deep.QuietTactic
import Derived.BigQuiet
import Derived.WalkSmall
namespace Go.Proofs.YtjggbdlmghembaaGreat
open Go.RowKit Go.WideShapes
set_option maxRecDepth 100000

theorem dec_nought (e : Int) : (e == 0) = decide (e = 0) := by
  by_cases h : e = 0
  · subst h; rfl
  · rw [decide_eq_false h, beq_eq_false_iff_ne]; exact h
theorem isun_any (op : Nat) (w : World) :
    Calls Tryz.prog 24 #[.int .u8 (op : Int)] w fun e w' => e = .returned (.bool (decide (unE op = 0))) ∧ Below w.heap.size w w' := by
  have H := dhid (fun w' => ru_any op 0 w' (by decide))
  rw [← dec_nought]
  generalize unE op = er at *
  go_enter Tryz.func24, Tryz.ntmps24
  go_wp2_with (go_at_call 36; refine (H.out _).mono ?_; rintro e w1 ⟨rfl, hb1⟩)
  go_ret
  exact ⟨rfl, hb1⟩
theorem isbin_any (op : Nat) (w : World) :
    Calls Tryz.prog 25 #[.int .u8 (op : Int)] w fun e w' => e = .returned (.bool (decide (binE op 1 = 0))) ∧ Below w.heap.size w w' := by
  have H := dhid (fun w' => rb_any op 1 1 w' (by decide) (by decide))
  rw [← dec_nought]
  generalize binE op 1 = er at *
  go_enter Tryz.func25, Tryz.ntmps25
  go_wp2_with (go_at_call 37; refine (H.out _).mono ?_; rintro e w1 ⟨rfl, hb1⟩)
  go_ret
  exact ⟨rfl, hb1⟩
theorem hoE_kind : ∀ op, op < 256 → decide (hoE op = 0) = decide (opKi op = 2) := by decide +kernel
theorem iscmp_any (op : Nat) (w : World) (hop : op < 256) :
    Calls Tryz.prog 26 #[.int .u8 (op : Int)] w fun e w' => e = .returned (.bool (decide (opKi op = 2))) ∧ Below w.heap.size w w' := by
  have H := dhid (fun w' => rh_any op 0 0 w' (by decide) (by decide))
  rw [← hoE_kind op hop, ← dec_nought]
  generalize hoE op = er at *
  go_enter Tryz.func26, Tryz.ntmps26
  go_wp2_with (go_at_call 27; refine (H.out _).mono ?_; rintro e w1 ⟨rfl, hb1⟩)
  go_ret
  exact ⟨rfl, hb1⟩
/-- words that are read -/
def WoR (w : World) (ao : Option Addr) (ws : List Nat) (B : Nat) : Prop :=
  0 < ws.length → ∃ b off, ao = some ⟨b, off, none⟩ ∧ b < B ∧ ∀ j, j < ws.length → w.cell? ⟨b, off + j, none⟩ = some (.int .u32 ((ws.getD j 0 : Nat) : Int))
theorem WoR.below {w w' : World} {ao : Option Addr} {ws : List Nat} {B : Nat} (h : WoR w ao ws B) (hb : Below B w w') : WoR w' ao ws B := by
  intro hl
  obtain ⟨b, off, e, hlt, hc⟩ := h hl
  exact ⟨b, off, e, hlt, fun j hj => (hb.cell (p := ⟨b, off + j, none⟩) hlt).trans (hc j hj)⟩
theorem WoR.mono {w : World} {ao : Option Addr} {ws : List Nat} {B C : Nat} (h : WoR w ao ws B) (hb : B ≤ C) : WoR w ao ws C := by
  intro hl
  obtain ⟨b, off, e, hlt, hc⟩ := h hl
  exact ⟨b, off, e, Nat.lt_of_lt_of_le hlt hb, hc⟩
def wvD (ws : List Nat) : List Value := ws.map fun (z : Nat) => Value.int .u32 (z : Int)
theorem own_wor {w : World} {B : Nat} {v : Value} {ws : List Nat} (h : w.ownsRow B 23 1 v ws.length (wvD ws)) : ∃ ao cap, v = .slice ao ws.length cap ∧ ws.length ≤ cap ∧ WoR w ao ws w.heap.size := by
  rcases h.2 with ⟨rfl, h0⟩ | ⟨g, cap, cur, rfl, hh⟩
  · exact ⟨none, 0, by rw [h0], by omega, fun hp => absurd hp (by omega)⟩
  · refine ⟨some ⟨g, 0, none⟩, cap, rfl, hh.2.2.1, fun _ => ⟨g, 0, rfl, (h.lt g rfl).2, fun j hj => ?_⟩⟩
    have c0 : (wvD ws)[j]? = some (.int .u32 ((ws.getD j 0 : Nat) : Int)) := by
      simp [wvD, List.getD, List.getElem?_eq_getElem hj]
    have a0 := h.cells (g := g) rfl _ _ c0
    rw [Go.WideShapes.add_plain] at a0
    exact a0
end Go.Proofs.YtjggbdlmghembaaGreat
namespace Go.Proofs.YtjggbdlmghembaaGreat
open Go.RowKit
set_option maxRecDepth 100000

theorem Tryz.info5 : (Tryz.prog.info? 5).map (fun i => (i.zero, i.size, i.bytes)) = some (some (.int .u8 0), 1, 1) := by kernel_rfl

/-- bytes as values -/
def bv (L : List Int) : List Value := L.map (Value.int .u8)
theorem bv_append (L M : List Int) : bv (L ++ M) = bv L ++ bv M := by simp [bv]
theorem bv_len (L : List Int) : (bv L).length = L.length := by simp [bv]
theorem bv_one (x : Int) : bv [x] = [.int .u8 x] := rfl

/-- what a slice of bytes that is read holds -/
def Reads (w : World) (ao : Option Addr) (zs : List Int) (B : Nat) : Prop :=
  0 < zs.length → ∃ b off, ao = some ⟨b, off, none⟩ ∧ b < B ∧ ∀ j, j < zs.length → w.cell? ⟨b, off + j, none⟩ = some (.int .u8 (zs.getD j 0))

theorem Reads.below {w w' : World} {ao : Option Addr} {zs : List Int} {B : Nat} (h : Reads w ao zs B) (hb : Below B w w') : Reads w' ao zs B := by
  intro hl
  obtain ⟨b, off, e, hlt, hc⟩ := h hl
  exact ⟨b, off, e, hlt, fun j hj => (hb.cell (p := ⟨b, off + j, none⟩) hlt).trans (hc j hj)⟩
theorem Reads.mono {w : World} {ao : Option Addr} {zs : List Int} {B C : Nat} (h : Reads w ao zs B) (hb : B ≤ C) : Reads w ao zs C := by
  intro hl
  obtain ⟨b, off, e, hlt, hc⟩ := h hl
  exact ⟨b, off, e, Nat.lt_of_lt_of_le hlt hb, hc⟩
theorem Reads.nil (w : World) (ao : Option Addr) (B : Nat) : Reads w ao [] B := fun h => by simp at h

theorem take_snoc (zs : List Int) (k : Nat) (h : k < zs.length) : zs.take (k + 1) = zs.take k ++ [zs.getD k 0] := by
  rw [List.take_succ_eq_append_getElem h]
  simp [List.getD, List.getElem?_eq_getElem h]
theorem getD_mem {zs : List Int} {k : Nat} (h : k < zs.length) : zs.getD k 0 ∈ zs := by
  simp [List.getD, List.getElem?_eq_getElem h]

theorem own_snoc {w1 : World} {B : Nat} {v' : Value} {L M : List Int} {n : Nat} {x : Int} (hM : M = L ++ [x])
    (h : w1.ownsRow B 5 1 v' (n + 1) (bv L ++ [.int .u8 x])) : w1.ownsRow B 5 1 v' (n + 1) (bv M) := by
  rw [hM, bv_append]; exact h
theorem grown_below {B e sz : Nat} {a w w' : World} {xs : List Value} {v : Value} {n : Nat} {o : Obj} (h : Below B a w) (hB : B ≤ w.heap.size) (hown : w.ownsRow B e sz v n xs) (hg : (w.alloc o).grownBy w' v.ownBlock) : Below B a w' :=
  (h.alloc hB o).grown hg (by simp; omega) (fun k e => (hown.lt k e).1)
theorem own_cell {w1 : World} {B g n cap : Nat} {L : List Int} (h : w1.ownsRow B 5 1 (.slice (some ⟨g, 0, none⟩) n cap) L.length (bv L)) {i : Nat} (hi : i < L.length) : w1.cell? ⟨g, 0 + i, none⟩ = some (.int .u8 (L.getD i 0)) := by
  have := h.cells (g := g) rfl i (.int .u8 (L.getD i 0)) (by simp [bv, List.getD, List.getElem?_eq_getElem hi])
  have hadd : (⟨g, 0, none⟩ : Addr).add i = ⟨g, 0 + i, none⟩ := by unfold Addr.add; split <;> simp_all
  rw [← hadd]; exact this
theorem own_reads {w : World} {B : Nat} {v : Value} {zs : List Int} (h : w.ownsRow B 5 1 v zs.length (bv zs)) : ∃ ao cap, v = .slice ao zs.length cap ∧ Reads w ao zs w.heap.size := by
  have h' := h
  have hlt := h.lt
  rcases h.2 with ⟨rfl, hz⟩ | ⟨g, cap, cur, rfl, _⟩
  · have hl : zs.length = 0 := by simpa using hz
    exact ⟨none, 0, by rw [hl], fun hp => by omega⟩
  · exact ⟨_, cap, rfl, fun _ => ⟨g, 0, rfl, (hlt g rfl).2, fun j hj => own_cell h' hj⟩⟩
theorem ret_int {k : IntKind} {a b : Int} (h : a = b) : Ending.returned (.int k a) = .returned (.int k b) := by rw [h]
theorem below_drewN {B : Nat} {a w : World} (h : Below B a w) (n : Nat) : Below B a (w.drewN n) := h.trans ⟨rfl, rfl, rfl, Nat.le_refl _, fun _ _ => rfl⟩
end Go.Proofs.YtjggbdlmghembaaGreat
namespace Go.Proofs.YtjggbdlmghembaaGreat
open Go.RowKit Go.WideShapes
set_option maxRecDepth 100000

theorem infoDW : ∃ i : TypeInfo, Tryz.prog.info? 23 = some i ∧ i.zero = some (.int .u32 0) ∧ i.size = 1 ∧ i.bytes = 4 := by
  have h : (Tryz.prog.info? 23).map (fun i => (i.zero, i.size, i.bytes)) = some (some (.int .u32 0), 1, 4) := by kernel_rfl
  cases hi : Tryz.prog.info? 23 with
  | none => rw [hi] at h; simp at h
  | some i =>
    rw [hi] at h
    simp only [Option.map_some, Option.some.injEq, Prod.mk.injEq] at h
    exact ⟨i, rfl, h.1, h.2.1, h.2.2⟩
theorem takeD (J : List Nat) (k : Nat) (h : k < J.length) : J.take (k + 1) = J.take k ++ [J.getD k 0] := by
  rw [List.take_add_one, List.getD_eq_getElem?_getD, List.getElem?_eq_getElem h]; rfl
theorem wvD_snoc (l : List Nat) (x : Nat) : wvD (l ++ [x]) = wvD l ++ [.int .u32 (x : Int)] := by simp [wvD]
theorem oneD_cells (x : Nat) (w : World) {ty : TypeId} : ∀ j u, ([.int .u32 (x : Int)] : List Value)[j]? = some u → (w.alloc (.cells #[.int .u32 (x : Int)] ty)).cell? ((⟨w.heap.size, 0, none⟩ : Addr).add j) = some u := by
  intro j u hj
  match j, hj with
  | 0, hj => simp at hj; subst hj; simp [Addr.add]
set_option maxHeartbeats 2000000 in
theorem with_any (ao : Option Addr) (cap n x : Nat) (ws : List Nat) (w : World) (hn : n ≤ ws.length) (hl : ws.length ≤ 64) (hr : WoR w ao ws w.heap.size) :
    Calls Tryz.prog 41 #[.slice ao ws.length cap, .int .i64 (n : Int), .int .u32 (x : Int)] w fun e w' => ∃ v, e = .returned v ∧ w'.ownsRow w.heap.size 23 1 v (n + 1) (wvD (ws.take n ++ [x])) ∧ Below w.heap.size w w' := by
  obtain ⟨i0, hi, hz0, hz1, hz2⟩ := infoDW
  go_enter Tryz.func41, Tryz.ntmps41
  go_wp2
  go_loopw [7, 8] (fun u v wr => ∃ k : Nat, v = .int .i64 k ∧ k ≤ n ∧ wr.ownsRow w.heap.size 23 1 u k (wvD (ws.take k)) ∧ Below w.heap.size w wr)
    (fun _ v _ => n - (intOf v).toNat)
  case atStart => exact ⟨0, rfl, Nat.zero_le _, World.ownsRow_nil _ _ _ _, Below.refl _ _⟩
  case round =>
    obtain ⟨k, rfl, hk, hown, hb⟩ := hrel
    by_cases hlt : k < n
    · have hltI : (k : Int) < (n : Int) := by omega
      have hltL : (k : Int) < (ws.length : Int) := by omega
      obtain ⟨b, off, rfl, hbj, hc⟩ := (hr.below hb) (by omega)
      have v0 := hc k (by omega)
      have HTK := dhid (takeD ws k (by omega))
      generalize ws.getD k 0 = z at v0 HTK
      have hB := hb.size
      clear hc
      go_wp2_with (at_builtin; refine wpList_append_own _ rfl _ _ 59 rfl w.heap.size 23 i0 (.int .u32 0) 1 4 Tryz.underlying59 hi hz0 hz1 hz2 rfl (by decide) _ _ _ rfl (hown.alloc _) ⟨_, 0, none⟩ 1 1 [.int .u32 z] rfl rfl ?c1 ?c2 ?c3 ?c4 ?c5 ?_)
      case c1 =>
        intro j u hj
        match j, hj with
        | 0, hj => simp at hj; subst hj; simp [Addr.add]
      case c2 => first | rfl | (intro u hu; simp at hu; subst hu; rfl)
      case c3 => unfold maxLen; omega
      case c4 => omega
      case c5 => first | omega | (simp; omega)
      intro v' w1 hown' hgrow _
      have R2 : Below w.heap.size w w1 := grown_below hb hB hown hgrow
      have R1 : w1.ownsRow w.heap.size 23 1 v' (k + 1) (wvD (ws.take (k + 1))) := by
        rw [HTK.out, wvD_snoc]
        exact hown'
      clear hown' hgrow hown
      go_wp2
      go_roundw
      case rel => exact ⟨k + 1, by go_num, by omega, R1, R2⟩
      case measure => simp [intOf]; omega
    · have hltI : ¬ (k : Int) < (n : Int) := by omega
      have hkn : Hid (k = n) := dhid (by omega)
      have hB := hb.size
      clear hlt
      go_wp2_with (at_builtin; refine wpList_append_own _ rfl _ _ 59 rfl w.heap.size 23 i0 (.int .u32 0) 1 4 Tryz.underlying59 hi hz0 hz1 hz2 rfl (by decide) _ _ _ rfl (hown.alloc _) ⟨_, 0, none⟩ 1 1 [.int .u32 (x : Int)] rfl rfl (oneD_cells x wr) ?c2 ?c3 ?c4 ?c5 ?_)
      case c2 => first | rfl | (intro u hu; simp at hu; subst hu; rfl)
      case c3 => unfold maxLen; omega
      case c4 => omega
      case c5 => first | omega | (simp; omega)
      intro v' w1 hown' hgrow _
      have R2 : Below w.heap.size w w1 := grown_below hb hB hown hgrow
      rw [← wvD_snoc] at hown'
      have R1 := dhid hown'
      clear hown' hgrow hown
      go_wp2
      go_ret
      rw [← hkn.out]
      exact ⟨_, rfl, R1.out, R2⟩
end Go.Proofs.YtjggbdlmghembaaGreat
namespace Go.Proofs.YtjggbdlmghembaaGreat
open Go.RowKit Go.WideShapes
set_option maxRecDepth 100000

theorem kn_rest {op : Nat} (h1 : ¬ op = 1) (h8 : ¬ op = 8) (h10 : ¬ op = 10) (h11 : ¬ op = 11) : kn op = (decide (unE op = 0) || (decide (binE op 1 = 0) || decide (opKi op = 2))) := by
  simp [kn, h1, h8, h10, h11]
theorem ne_i {op k : Nat} (h : ¬ op = k) : ((op : Int) == (k : Int)) = false := by rw [beq_eq_false_iff_ne]; omega
set_option maxHeartbeats 2000000 in
theorem known_any (op : Nat) (w : World) (hop : op < 256) :
    Calls Tryz.prog 14 #[.int .u8 (op : Int)] w fun e w' => e = .returned (.bool (kn op)) ∧ Below w.heap.size w w' := by
  by_cases h1 : op = 1
  · subst h1
    rw [show kn 1 = true by decide +kernel]
    go_enter Tryz.func14, Tryz.ntmps14
    go_wp2
    go_ret
    exact ⟨rfl, Below.refl _ _⟩
  by_cases h8 : op = 8
  · subst h8
    rw [show kn 8 = true by decide +kernel]
    go_enter Tryz.func14, Tryz.ntmps14
    go_wp2
    go_ret
    exact ⟨rfl, Below.refl _ _⟩
  by_cases h10 : op = 10
  · subst h10
    rw [show kn 10 = true by decide +kernel]
    go_enter Tryz.func14, Tryz.ntmps14
    go_wp2
    go_ret
    exact ⟨rfl, Below.refl _ _⟩
  by_cases h11 : op = 11
  · subst h11
    rw [show kn 11 = true by decide +kernel]
    go_enter Tryz.func14, Tryz.ntmps14
    go_wp2
    go_ret
    exact ⟨rfl, Below.refl _ _⟩
  have d1 : ((op : Int) == 1) = false := ne_i h1
  have d8 : ((op : Int) == 8) = false := ne_i h8
  have d10 : ((op : Int) == 10) = false := ne_i h10
  have d11 : ((op : Int) == 11) = false := ne_i h11
  rw [kn_rest h1 h8 h10 h11]
  clear h1 h8 h10 h11
  have HU := dhid (fun w' => isun_any op w')
  have HB := dhid (fun w' => isbin_any op w')
  have HC := dhid (fun w' => iscmp_any op w' hop)
  generalize decide (unE op = 0) = bu at *
  generalize decide (binE op 1 = 0) = bb at *
  generalize decide (opKi op = 2) = bc at *
  cases bu
  · cases bb
    · go_enter Tryz.func14, Tryz.ntmps14
      go_wp2_with (first
        | (go_at_call 24; refine (HU.out _).mono ?_; rintro e w1 ⟨rfl, hb1⟩)
        | (go_at_call 25; refine (HB.out _).mono ?_; rintro e w2 ⟨rfl, hb2⟩)
        | (go_at_call 26; refine (HC.out _).mono ?_; rintro e w3 ⟨rfl, hb3⟩))
      go_ret
      exact ⟨rfl, (hb1.trans (hb2.mono hb1.size)).trans (hb3.mono (Nat.le_trans hb1.size hb2.size))⟩
    · go_enter Tryz.func14, Tryz.ntmps14
      go_wp2_with (first
        | (go_at_call 24; refine (HU.out _).mono ?_; rintro e w1 ⟨rfl, hb1⟩)
        | (go_at_call 25; refine (HB.out _).mono ?_; rintro e w2 ⟨rfl, hb2⟩)
        | (go_at_call 26; refine (HC.out _).mono ?_; rintro e w3 ⟨rfl, hb3⟩))
      go_ret
      exact ⟨rfl, hb1.trans (hb2.mono hb1.size)⟩
  · go_enter Tryz.func14, Tryz.ntmps14
    go_wp2_with (first
      | (go_at_call 24; refine (HU.out _).mono ?_; rintro e w1 ⟨rfl, hb1⟩)
      | (go_at_call 25; refine (HB.out _).mono ?_; rintro e w2 ⟨rfl, hb2⟩)
      | (go_at_call 26; refine (HC.out _).mono ?_; rintro e w3 ⟨rfl, hb3⟩))
    go_ret
    exact ⟨rfl, hb1⟩
end Go.Proofs.YtjggbdlmghembaaGreat
namespace Go.Proofs.YtjggbdlmghembaaGreat
open Go.RowKit Go.WideShapes
set_option maxRecDepth 100000

/-- what the document's one makes of the words, how many they are left aside -/
def onD (ws : List Nat) (op arg : Nat) : Option (List Nat) :=
  if op = 1 then some ws
  else if op = 8 then some (ws ++ [arg])
  else if op = 10 then (if 1 ≤ ws.length then some ws.dropLast else none)
  else if op = 11 then (if 1 ≤ ws.length then some (ws ++ [ws.getLastD 0]) else none)
  else if unE op = 0 then (if 1 ≤ ws.length then some (ws.dropLast ++ [unV op (ws.getLastD 0)]) else none)
  else if binE op 1 = 0 then (if 2 ≤ ws.length ∧ binE op (ws.getLastD 0) = 0 then some (ws.dropLast.dropLast ++ [binV op (ws.dropLast.getLastD 0) (ws.getLastD 0)]) else none)
  else none
def capD : Option (List Nat) → Option (List Nat)
  | none => none
  | some r => if r.length ≤ 64 then some r else none
theorem doD_on {ws : List Nat} {op arg : Nat} (hl : ws.length ≤ 64) : doD ws op arg = capD (onD ws op arg) := by
  unfold doD onD
  by_cases h1 : op = 1
  · simp [h1, capD, hl]
  by_cases h8 : op = 8
  · simp [h8, capD]
  by_cases h10 : op = 10
  · subst h10
    show (if 1 ≤ ws.length then some ws.dropLast else none) = capD (if 1 ≤ ws.length then some ws.dropLast else none)
    by_cases hw : 1 ≤ ws.length
    · rw [if_pos hw]; show _ = if _ then _ else _; rw [if_pos (by simp; omega)]
    · rw [if_neg hw]; rfl
  by_cases h11 : op = 11
  · subst h11
    show (if 1 ≤ ws.length ∧ ws.length + 1 ≤ 64 then some (ws ++ [ws.getLastD 0]) else none) = capD (if 1 ≤ ws.length then some (ws ++ [ws.getLastD 0]) else none)
    by_cases hw : 1 ≤ ws.length
    · rw [if_pos hw]; show _ = if _ then _ else _
      simp only [hw, true_and, List.length_append, List.length_singleton]
    · rw [if_neg hw, if_neg (fun e => hw e.1)]; rfl
  simp only [h1, h8, h10, h11, if_false]
  by_cases hu : unE op = 0
  · simp only [hu, if_true]
    by_cases hw : 1 ≤ ws.length
    · rw [if_pos hw]; show _ = if _ then _ else _; rw [if_pos (by simp; omega)]
    · rw [if_neg hw]; rfl
  simp only [hu, if_false]
  by_cases hb : binE op 1 = 0
  · simp only [hb, if_true]
    by_cases hw : 2 ≤ ws.length ∧ binE op (ws.getLastD 0) = 0
    · rw [if_pos hw]; show _ = if _ then _ else _; rw [if_pos (by simp; omega)]
    · rw [if_neg hw]; rfl
  · simp only [hb, if_false]; rfl
def OnP (o : Option (List Nat)) (w w' : World) (e : Ending) : Prop :=
  (∃ ao cap n, o = none ∧ e = .returned (.tuple #[.slice ao n cap, .bool false]) ∧ Below w.heap.size w w')
  ∨ ∃ ao cap M, o = some M ∧ e = .returned (.tuple #[.slice ao (M : List Nat).length cap, .bool true]) ∧ M.length ≤ cap ∧ WoR w' ao M w'.heap.size ∧ Below w.heap.size w w'
/-- with, its answer as words that are read -/
theorem with_on (ao : Option Addr) (cap n x : Nat) (ws M : List Nat) (hM : ws.take n ++ [x] = M) (w : World) (hn : n ≤ ws.length) (hl : ws.length ≤ 64) (hr : WoR w ao ws w.heap.size) :
    Calls Tryz.prog 41 #[.slice ao ws.length cap, .int .i64 (n : Int), .int .u32 (x : Int)] w fun e w' => ∃ bo c, e = .returned (.slice bo M.length c) ∧ Hid (M.length ≤ c ∧ WoR w' bo M w'.heap.size) ∧ Below w.heap.size w w' := by
  refine (with_any ao cap n x ws w hn hl hr).mono ?_
  rintro e w' ⟨v, rfl, hown, hb⟩
  have hlen : M.length = n + 1 := by rw [← hM]; simp; omega
  rw [hM, ← hlen] at hown
  obtain ⟨bo, c, rfl, h1, h2⟩ := own_wor hown
  exact ⟨bo, c, rfl, dhid ⟨h1, h2⟩, hb⟩
theorem last_at {ws : List Nat} {k : Nat} (h : ws.length = k + 1) : ws.getLastD 0 = ws.getD k 0 ∧ ws.dropLast = ws.take k := by
  constructor
  · rw [List.getLastD_eq_getLast?, List.getLast?_eq_getElem?, List.getD_eq_getElem?_getD, h]; rfl
  · rw [List.dropLast_eq_take, h]; rfl
theorem last_at2 {ws : List Nat} {k : Nat} (h : ws.length = k + 2) : ws.dropLast.getLastD 0 = ws.getD k 0 ∧ ws.dropLast.dropLast = ws.take k := by
  have hd : ws.dropLast = ws.take (k + 1) := (last_at h).2
  have hl : (ws.take (k + 1)).length = k + 1 := by simp; omega
  rw [hd]
  refine ⟨(last_at hl).1.trans ?_, (last_at hl).2.trans ?_⟩
  · rw [List.getD_eq_getElem?_getD, List.getElem?_take_of_lt (by omega), List.getD_eq_getElem?_getD]
  · rw [List.take_take, Nat.min_eq_left (by omega)]
theorem WoR.take {w : World} {ao : Option Addr} {ws : List Nat} {B : Nat} (h : WoR w ao ws B) (k : Nat) : WoR w ao (ws.take k) B := by
  intro hl
  rw [List.length_take] at hl
  obtain ⟨b, off, e, hlt, hc⟩ := h (by omega)
  refine ⟨b, off, e, hlt, fun j hj => ?_⟩
  rw [List.length_take] at hj
  rw [hc j (by omega), List.getD_eq_getElem?_getD, List.getD_eq_getElem?_getD, List.getElem?_take_of_lt (by omega)]
end Go.Proofs.YtjggbdlmghembaaGreat
