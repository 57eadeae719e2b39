import Derived.Test.YtonmoidalkcmoaaCPKp
import Derived.Test.YtonmoidalkcmoaaCDRo
import Derived.Maps.AppendAt
import Derived.Deep.AppendLies
namespace Go.Proofs.Ytonmoidalkcmoaa
set_option maxHeartbeats 4000000
open Go.RowKit Go.WideShapes
set_option maxRecDepth 100000
/-- the small machine in memory: its fields -/
def btV (D : List Nat) : List Value := D.map fun (z : Nat) => Value.int .u8 (z : Int)
def plL (sp : Nat) (ov : Value) (D : List Nat) (pc : Nat) (bad : Bool) : List Value := .int .u32 (sp : Int) :: ov :: (btV D ++ [.int .u32 (pc : Int), .bool bad])
def plC (sp : Nat) (ov : Value) (D : List Nat) (pc : Nat) (bad : Bool) : Array Value := (plL sp ov D pc bad).toArray
theorem btV_len (D : List Nat) : (btV D).length = D.length := by simp [btV]
theorem btV_get {D : List Nat} {k : Nat} (h : k < D.length) : (btV D)[k]? = some (.int .u8 ((D.getD k 0 : Nat) : Int)) := by
  simp [btV, List.getD_eq_getElem?_getD, List.getElem?_eq_getElem h]
theorem btV_set (D : List Nat) (k x : Nat) : (btV D).set k (.int .u8 (x : Int)) = btV (D.set k x) := by simp [btV, List.map_set]
theorem plC_0 (sp : Nat) (ov : Value) (D : List Nat) (pc : Nat) (bad : Bool) : (plC sp ov D pc bad)[0]? = some (.int .u32 (sp : Int)) := rfl
theorem plC_1 (sp : Nat) (ov : Value) (D : List Nat) (pc : Nat) (bad : Bool) : (plC sp ov D pc bad)[1]? = some ov := rfl
theorem plC_d (sp : Nat) (ov : Value) {D : List Nat} (pc : Nat) (bad : Bool) {k : Nat} (h : k < D.length) : (plC sp ov D pc bad)[2 + k]? = some (.int .u8 ((D.getD k 0 : Nat) : Int)) := by
  rw [plC, List.getElem?_toArray, plL, show 2 + k = k + 1 + 1 by omega, List.getElem?_cons_succ, List.getElem?_cons_succ, List.getElem?_append_left (by rw [btV_len]; exact h), btV_get h]
theorem plC_pc (sp : Nat) (ov : Value) {D : List Nat} (pc : Nat) (bad : Bool) (h : D.length = 256) : (plC sp ov D pc bad)[258]? = some (.int .u32 (pc : Int)) := by
  rw [plC, List.getElem?_toArray, plL, show 258 = 256 + 1 + 1 by omega, List.getElem?_cons_succ, List.getElem?_cons_succ, List.getElem?_append_right (by rw [btV_len]; omega), btV_len, h]
  rfl
theorem plC_bd (sp : Nat) (ov : Value) {D : List Nat} (pc : Nat) (bad : Bool) (h : D.length = 256) : (plC sp ov D pc bad)[259]? = some (.bool bad) := by
  rw [plC, List.getElem?_toArray, plL, show 259 = 257 + 1 + 1 by omega, List.getElem?_cons_succ, List.getElem?_cons_succ, List.getElem?_append_right (by rw [btV_len]; omega), btV_len, h]
  rfl
theorem plS_1 (sp : Nat) (ov v : Value) (D : List Nat) (pc : Nat) (bad : Bool) : (plC sp ov D pc bad).setIfInBounds 1 v = plC sp v D pc bad := by
  simp [plC, plL]
theorem plS_d (sp : Nat) (ov : Value) {D : List Nat} (pc : Nat) (bad : Bool) {k : Nat} (x : Nat) (h : k < D.length) : (plC sp ov D pc bad).setIfInBounds (2 + k) (.int .u8 (x : Int)) = plC sp ov (D.set k x) pc bad := by
  rw [plC, List.setIfInBounds_toArray, plL, show 2 + k = k + 1 + 1 by omega, List.set_cons_succ, List.set_cons_succ, List.set_append_left _ _ (by rw [btV_len]; exact h), btV_set]
  rfl
theorem plS_pc (sp : Nat) (ov : Value) {D : List Nat} (pc pc' : Nat) (bad : Bool) (h : D.length = 256) : (plC sp ov D pc bad).setIfInBounds 258 (.int .u32 (pc' : Int)) = plC sp ov D pc' bad := by
  rw [plC, List.setIfInBounds_toArray, plL, show 258 = 256 + 1 + 1 by omega, List.set_cons_succ, List.set_cons_succ, List.set_append_right _ _ (by rw [btV_len]; omega), btV_len, h]
  rfl
theorem plS_bd (sp : Nat) (ov : Value) {D : List Nat} (pc : Nat) (bad bad' : Bool) (h : D.length = 256) : (plC sp ov D pc bad).setIfInBounds 259 (.bool bad') = plC sp ov D pc bad' := by
  rw [plC, List.setIfInBounds_toArray, plL, show 259 = 257 + 1 + 1 by omega, List.set_cons_succ, List.set_cons_succ, List.set_append_right _ _ (by rw [btV_len]; omega), btV_len, h]
  rfl
def dv (J : List Nat) : List Value := J.map fun (z : Nat) => Value.int .u32 (z : Int)
theorem dv_snoc (J : List Nat) (x : Nat) : dv (J ++ [x]) = dv J ++ [.int .u32 (x : Int)] := by simp [dv]
theorem dv_take (l : List Nat) (n : Nat) : (dv l).take n = dv (l.take n) := by simp [dv, List.map_take]
theorem Try.infoD : (Try.prog.info? 23).map (fun i => (i.zero, i.size, i.bytes)) = some (some (.int .u32 0), 1, 4) := by kernel_rfl
theorem own_short {w : World} {B e n N cap : Nat} {go : Option Addr} {xs : List Value} (h : w.ownsRow B e 1 (.slice go N cap) N xs) (hn : n ≤ N) : w.ownsRow B e 1 (.slice go n cap) n (xs.take n) := by
  refine ⟨by rw [List.length_take, h.1]; omega, ?_⟩
  rcases h.2 with ⟨e1, e2⟩ | ⟨g, c, cur, e1, hb, hg, hc, hm, hs, ht⟩
  · left
    have hz : n = 0 := by omega
    subst hz
    simp only [Value.slice.injEq] at e1
    obtain ⟨rfl, _, rfl⟩ := e1
    exact ⟨rfl, rfl⟩
  · right
    simp only [Value.slice.injEq] at e1
    obtain ⟨rfl, _, rfl⟩ := e1
    refine ⟨g, cap, cur, rfl, hb, hg, by omega, hm, hs, ?_⟩
    rw [← ht, Nat.mul_one, List.take_take, Nat.mul_one, Nat.min_eq_left hn]
abbrev rowO (go : Option Addr) (N cap : Nat) (full : List Nat) : Pc := rowP 23 1 (.slice go N cap) N (dv full)
abbrev plP (pm sp : Nat) (ov : Value) (D : List Nat) (pc : Nat) (bad : Bool) : Pc := objP pm (plC sp ov D pc bad) 41
theorem ppush_any (x pm sp n N cap v : Nat) (D : List Nat) (pc : Nat) (bad : Bool) (go : Option Addr) (full : List Nat) (W : World) (M : Col → Pc) (hS : Stt W M) (h0 : M (x, 0) = plP pm sp (.slice go n cap) D pc bad) (h1 : M (x, 1) = rowO go N cap full) (hn : n ≤ N) (hb : n ≤ 35184372088800) :
    Calls Try.prog 16 #[.pointer (some ⟨pm, 0, none⟩), .int .u32 v] W fun e w' => e = .returned (.tuple #[]) ∧ ∃ go' cap', Hid (Stt w' (upd (upd M (x, 1) (rowO go' (n + 1) cap' (full.take n ++ [v]))) (x, 0) (plP pm sp (.slice go' (n + 1) cap') D pc bad))) := by
  obtain ⟨i0, hi, hz0, hz1, hz2⟩ := info_parts Try.infoD
  have c8 : W.cell? ⟨pm, 1, none⟩ = some (.slice go n cap) := stt_cell hS h0 1 _ rfl
  have hrow := own_short (stt_row hS h1) hn
  rw [dv_take] at hrow
  have HOW := hidS (hrow.alloc (.cells #[.int .u32 (v : Int)] 23))
  have HST := hidS (stt_below hS ((Below.refl _ _).alloc (Nat.le_refl _) (.cells #[.int .u32 (v : Int)] 23)))
  have hnews : ∀ (j : Nat) (u : Value), [Value.int .u32 (v : Int)][j]? = some u → (W.alloc (.cells #[.int .u32 (v : Int)] 23)).cell? ((⟨W.heap.size, 0, none⟩ : Addr).add j) = some u := fun j u hj => by
    have hj0 : j = 0 := by
      have := (List.getElem?_eq_some_iff.1 hj).1
      simp at this
      exact this
    subst hj0
    rw [show (⟨W.heap.size, 0, none⟩ : Addr).add 0 = ⟨W.heap.size, 0, none⟩ by unfold Addr.add; split <;> simp_all, obj_cell (heap_alloc_last W _) 0]
    simpa using hj
  have HNW := hidS hnews
  clear hrow hS hnews
  go_enter Try.func16, Try.ntmps16
  go_wp2_with (at_builtin; refine wpList_append_own_at _ rfl _ _ 24 rfl 0 23 i0 (.int .u32 0) 1 4 Try.underlying24 hi hz0 hz1 hz2 rfl (by decide) _ n _ rfl HOW.out ⟨W.heap.size, 0, none⟩ 1 1 [.int .u32 (v : Int)] rfl rfl HNW.out ?q1 ?q2 ?q3 (Nat.zero_le _) ?_)
  case q1 => intro u hu; simp only [List.mem_singleton] at hu; subst hu; rfl
  case q2 => unfold maxLen; omega
  case q3 => omega
  intro v' w2 own2 hgr _ hblk
  obtain ⟨g', cap', rfl⟩ : ∃ g' cap', v' = .slice (some ⟨g', 0, none⟩) (n + 1) cap' := by
    rcases own2.2 with ⟨_, hz⟩ | ⟨g', cap', cur, e1, _⟩
    · omega
    · exact ⟨g', cap', e1⟩
  have hob : (Value.slice go n cap).ownBlock = (Value.slice go N cap).ownBlock := by cases go <;> rfl
  rw [hob] at hgr hblk
  rw [← dv_snoc] at own2
  have HS2 := hidS (stt_grow HST.out h1 (Below.refl _ _) own2 hgr (hblk.imp (fun e => e.symm.trans rfl) (fun e => by simp only [Value.ownBlock, Option.some.injEq] at e; rw [e]; simp)))
  have h02 : upd M (x, 1) (rowO (some ⟨g', 0, none⟩) (n + 1) cap' (full.take n ++ [v])) (x, 0) = plP pm sp (.slice go n cap) D pc bad := (upd_ne (by simp)).trans h0
  have d8 : w2.cell? ⟨pm, 1, none⟩ = some (.slice go n cap) := stt_cell HS2.out h02 1 _ rfl
  have z8 : w2.frozen? ⟨pm, 1, none⟩ = false := obj_frozen (stt_obj HS2.out h02) 1
  have HF := hidS (stt_set HS2.out h02 (.slice (some ⟨g', 0, none⟩) (n + 1) cap') (i := 1) (plS_1 _ _ _ _ _ _))
  clear HS2 h02 hgr own2 hblk hob HNW HOW HST c8
  go_wp2
  first | go_end0 | refine bodyPost_ret (results_none rfl _ _ _) rfl ?_
  exact ⟨rfl, _, _, HF⟩
theorem ppop_any (x pm sp n N cap : Nat) (D : List Nat) (pc : Nat) (bad : Bool) (go : Option Addr) (full : List Nat) (W : World) (M : Col → Pc) (hS : Stt W M) (h0 : M (x, 0) = plP pm sp (.slice go (n + 1) cap) D pc bad) (h1 : M (x, 1) = rowO go N cap full) (hn : n + 1 ≤ N) (hb : n ≤ 35184372088800) :
    Calls Try.prog 7 #[.pointer (some ⟨pm, 0, none⟩)] W fun e w' => e = .returned (.int .u32 (full.getD n 0 : Nat)) ∧ Hid (Stt w' (upd M (x, 0) (plP pm sp (.slice go n cap) D pc bad))) := by
  have c8 : W.cell? ⟨pm, 1, none⟩ = some (.slice go (n + 1) cap) := stt_cell hS h0 1 _ rfl
  have z8 : W.frozen? ⟨pm, 1, none⟩ = false := obj_frozen (stt_obj hS h0) 1
  have hrow := stt_row hS h1
  have hfl : full.length = N := by have := hrow.1; simpa [dv] using this
  obtain ⟨g, rfl, hcap, hlt⟩ : ∃ g, go = some ⟨g, 0, none⟩ ∧ N ≤ cap ∧ cap ≤ maxLen := by
    rcases hrow.2 with ⟨_, hz⟩ | ⟨g, c, cur, e1, _, _, hc, hm, _⟩
    · omega
    · simp only [Value.slice.injEq] at e1
      obtain ⟨rfl, _, rfl⟩ := e1
      exact ⟨g, rfl, hc, hm⟩
  have cg : W.cell? ⟨g, n, none⟩ = some (.int .u32 (full.getD n 0 : Nat)) := by
    rw [hrow.cellAt n (by omega)]
    simp [dv, show n < full.length by omega]
  generalize full.getD n 0 = t at *
  have HF := hidS (stt_set hS h0 (.slice (some ⟨g, 0, none⟩) n cap) (i := 1) (plS_1 _ _ _ _ _ _))
  have e1 : wrap64 ((n : Int) + 1 - 1) = n := by unfold wrap64; omega
  have e2 : wrap64 (((n : Nat) : Int) + 1) = (n : Int) + 1 := by unfold wrap64; omega
  have hI : (n : Int) < (n : Int) + 1 := by omega
  have hnz : ¬ ((n : Int) + 1 = 0) := by omega
  have hc1 : ¬ (cap : Int) < (n : Int) := by omega
  clear hS hrow h0 h1 hfl
  go_enter Try.func7, Try.ntmps7
  go_wp2
  go_ret
  exact ⟨rfl, HF⟩
/-- the small machine with its operand stack -/
def PlO (W : World) (M : Col → Pc) (x pm sp : Nat) (m : Pm) : Prop :=
  Stt W M ∧ m.dat.length = 256 ∧ ∃ go cap full, M (x, 0) = plP pm sp (.slice go m.ops.length cap) m.dat m.pc m.bad ∧ M (x, 1) = rowO go full.length cap full ∧ m.ops.length ≤ full.length ∧ full.take m.ops.length = m.ops
def Kx (x : Nat) (M M' : Col → Pc) : Prop := ∀ d, d ≠ (x, 0) → d ≠ (x, 1) → M' d = M d
theorem Kx.refl (x : Nat) (M : Col → Pc) : Kx x M M := fun _ _ _ => rfl
theorem Kx.trans {x : Nat} {A B C : Col → Pc} (h : Kx x A B) (k : Kx x B C) : Kx x A C := fun d h0 h1 => (k d h0 h1).trans (h d h0 h1)
theorem xpush {W : World} {M : Col → Pc} {x pm sp : Nat} {m : Pm} (h : Hid (PlO W M x pm sp m)) (v : Nat) (hb : m.ops.length ≤ 35184372088800) :
    Calls Try.prog 16 #[.pointer (some ⟨pm, 0, none⟩), .int .u32 v] W fun e w' => e = .returned (.tuple #[]) ∧ ∃ M', Hid (PlO w' M' x pm sp ⟨m.ops ++ [v], m.dat, m.pc, m.bad⟩) ∧ Kx x M M' := by
  obtain ⟨hS, hd, go, cap, full, h0, h1, hn, ht⟩ := h.out
  refine (ppush_any x pm sp m.ops.length full.length cap v m.dat m.pc m.bad go full W M hS h0 h1 hn hb).mono ?_
  rintro e w' ⟨rfl, go', cap', hS'⟩
  refine ⟨rfl, _, hidS ⟨hS'.out, hd, go', cap', m.ops ++ [v], ?_, ?_, Nat.le_refl _, List.take_length⟩, fun d d0 d1 => by rw [upd_ne d0, upd_ne d1]⟩
  · rw [upd_eq, List.length_append]; rfl
  · rw [upd_ne (by simp), upd_eq, ht, List.length_append]; rfl
theorem xpop {W : World} {M : Col → Pc} {x pm sp : Nat} {m : Pm} (h : Hid (PlO W M x pm sp m)) (hp : 0 < m.ops.length) (hb : m.ops.length ≤ 35184372088800) :
    Calls Try.prog 7 #[.pointer (some ⟨pm, 0, none⟩)] W fun e w' => e = .returned (.int .u32 (m.ops.getLastD 0 : Nat)) ∧ ∃ M', Hid (PlO w' M' x pm sp ⟨m.ops.dropLast, m.dat, m.pc, m.bad⟩) ∧ Kx x M M' := by
  obtain ⟨hS, hd, go, cap, full, h0, h1, hn, ht⟩ := h.out
  obtain ⟨n, hnn⟩ : ∃ n, m.ops.length = n + 1 := ⟨m.ops.length - 1, by omega⟩
  rw [hnn] at h0 hn hb
  have hlast : full.getD n 0 = m.ops.getLastD 0 := by
    have h2 : m.ops[n]? = full[n]? := by
      rw [← ht, hnn, List.getElem?_take]
      simp
    rw [List.getD_eq_getElem?_getD, ← h2, List.getLastD_eq_getLast?, List.getLast?_eq_getElem?, hnn]
    rfl
  refine (ppop_any x pm sp n full.length cap m.dat m.pc m.bad go full W M hS h0 h1 hn (by omega)).mono ?_
  rintro e w' ⟨rfl, hS'⟩
  rw [hlast]
  refine ⟨rfl, _, hidS ⟨hS'.out, hd, go, cap, full, ?_, ?_, ?_, ?_⟩, fun d d0 _ => upd_ne d0⟩
  · rw [upd_eq, List.length_dropLast, hnn]; rfl
  · rw [upd_ne (by simp)]; exact h1
  · rw [List.length_dropLast, hnn]; omega
  · rw [List.length_dropLast, hnn, Nat.add_sub_cancel, List.dropLast_eq_take, ← ht, hnn, List.length_take, List.take_take]
    congr 1
    omega
theorem ldL_lt (D : List Nat) (at_ : Nat) : ∀ n w, w < 4294967296 → ldL D at_ n w < 4294967296
  | 0, w, h => h
  | n + 1, w, _ => ldL_lt D at_ n _ (Nat.mod_lt _ (by decide))
theorem pload_any (pm at_ n : Nat) (D : List Nat) (W : World) (hD : ∀ k, k < 256 → W.cell? ⟨pm, 2 + k, none⟩ = some (.int .u8 ((D.getD k 0 : Nat) : Int))) (hn : n ≤ 4) (hDb : ∀ k, D.getD k 0 < 256) :
    Calls Try.prog 18 #[.pointer (some ⟨pm, 0, none⟩), .int .u32 (at_ : Int), .int .i64 (n : Int)] W fun e w' => e = .returned (.int .u32 (ldV D at_ n : Nat)) ∧ ∃ m, w' = W.drewN m := by
  have HD := dhid hD
  have HDB := dhid hDb
  clear hD hDb
  go_enter Try.func18, Try.ntmps18
  go_wp2
  go_loopw [7, 8] (fun w i wr => ∃ k x m : Nat, k ≤ n ∧ i = .int .i64 ((k : Int) - 1) ∧ w = .int .u32 (x : Int) ∧ x < 4294967296 ∧ wr = W.drewN m ∧ ldL D at_ k x = ldV D at_ n)
    (fun _ i _ => (intOf i + 1).toNat)
  case atStart => exact ⟨n, 0, 0, Nat.le_refl _, rfl, rfl, by decide, rfl, rfl⟩
  case round =>
    obtain ⟨k, x, m, hk, rfl, rfl, hx, hw2, hl⟩ := hrel
    have HL := dhid hl
    by_cases h0 : k = 0
    · subst h0
      clear hl
      have hlt : ¬ (0 : Int) ≤ ((0 : Nat) : Int) - 1 := by omega
      have HW2 := dhid hw2
      clear hw2
      go_wp2
      go_ret
      exact ⟨by rw [← HL.out]; rfl, m, HW2.out⟩
    · obtain ⟨j, rfl⟩ : ∃ j, k = j + 1 := ⟨k - 1, by omega⟩
      clear hl
      have hlt : (0 : Int) ≤ ((j + 1 : Nat) : Int) - 1 := by omega
      have hck : wr.cell? ⟨pm, 2 + (at_ + j) % 256, none⟩ = some (.int .u8 ((D.getD ((at_ + j) % 256) 0 : Nat) : Int)) := by rw [hw2]; exact HD.out _ (Nat.mod_lt _ (by decide))
      have HW2 := dhid hw2
      have HB := dhid (HDB.out ((at_ + j) % 256))
      clear hw2
      generalize hd : D.getD ((at_ + j) % 256) 0 = d at *
      go_wp2
      refine ⟨⟨j, (x * 256 + d) % 4294967296, m, by omega, rfl, ?_, Nat.mod_lt _ (by decide), HW2.out, ?_⟩, by simp only [intOf]; omega⟩
      · congr 1
        omega
      · rw [← HL.out, ← hd]; rfl
theorem size_any (op : Nat) (w : World) (hop : op < 256) :
    Calls Try.prog 19 #[.int .u8 (op : Int)] w fun e w' => e = .returned (.int .i64 (szM op : Nat)) ∧ w' = w := by
  unfold szM
  go_enter Try.func19, Try.ntmps19
  by_cases h1 : op = 29
  · subst h1; go_wp2; go_ret; exact ⟨rfl, rfl⟩
  by_cases h2 : op = 32
  · subst h2; go_wp2; go_ret; exact ⟨rfl, rfl⟩
  by_cases h3 : op = 30
  · subst h3; go_wp2; go_ret; exact ⟨rfl, rfl⟩
  by_cases h4 : op = 33
  · subst h4; go_wp2; go_ret; exact ⟨rfl, rfl⟩
  have i1 : ¬ (op : Int) = 29 := by omega
  have i2 : ¬ (op : Int) = 32 := by omega
  have i3 : ¬ (op : Int) = 30 := by omega
  have i4 : ¬ (op : Int) = 33 := by omega
  rw [if_neg (by omega), if_neg (by omega)]
  go_wp2
  go_ret
  exact ⟨rfl, rfl⟩
theorem pstore_any (x pm sp at_ v n : Nat) (ov : Value) (D : List Nat) (pc : Nat) (bad : Bool) (W : World) (M : Col → Pc) (hS : Stt W M) (hD : D.length = 256) (h0 : M (x, 0) = plP pm sp ov D pc bad) (hv : v < 4294967296) (hn : n ≤ 4) :
    Calls Try.prog 17 #[.pointer (some ⟨pm, 0, none⟩), .int .u32 (at_ : Int), .int .u32 (v : Int), .int .i64 (n : Int)] W fun e w' => e = .returned (.tuple #[]) ∧ Hid (Stt w' (upd M (x, 0) (plP pm sp ov (stV n D at_ v) pc bad))) := by
  have HS := dhid hS
  clear hS
  go_enter Try.func17, Try.ntmps17
  go_wp2
  go_loopw [2, 8] (fun w i wr => ∃ k y : Nat, ∃ E : List Nat, k ≤ n ∧ i = .int .i64 (k : Int) ∧ w = .int .u32 (y : Int) ∧ y < 4294967296 ∧ E.length = 256 ∧ Hid (Stt wr (upd M (x, 0) (plP pm sp ov E pc bad))) ∧ stV (n - k) E (at_ + k) y = stV n D at_ v)
    (fun _ i _ => (n : Int) - intOf i |>.toNat)
  case atStart => exact ⟨0, v, D, Nat.zero_le _, rfl, rfl, hv, hD, by rw [upd_self h0]; exact HS, rfl⟩
  case round =>
    obtain ⟨k, y, E, hk, rfl, rfl, hy, hE, hS2, hl⟩ := hrel
    have HL := dhid hl
    have HS2 := hS2
    clear hl hS2
    by_cases h1 : k < n
    · have hlt : (k : Int) < (n : Int) := by omega
      have hck : wr.cell? ⟨pm, 2 + (at_ + k) % 256, none⟩ = some (.int .u8 ((E.getD ((at_ + k) % 256) 0 : Nat) : Int)) := stt_cell HS2.out (upd_eq _ _ _) _ _ (plC_d _ _ _ _ (by rw [hE]; exact Nat.mod_lt _ (by decide)))
      have hcf : wr.frozen? ⟨pm, 2 + (at_ + k) % 256, none⟩ = false := obj_frozen (stt_obj HS2.out (upd_eq _ _ _)) _
      have HN := dhid (stt_set HS2.out (upd_eq _ _ _) (.int .u8 ((y % 256 : Nat) : Int)) (plS_d sp ov pc bad (y % 256) (k := (at_ + k) % 256) (by rw [hE]; exact Nat.mod_lt _ (by decide))))
      clear HS2
      generalize E.getD ((at_ + k) % 256) 0 = d at *
      go_wp2
      refine ⟨⟨k + 1, y / 256, E.set ((at_ + k) % 256) (y % 256), by omega, rfl, rfl, by omega, by rw [List.length_set]; exact hE, ?_, ?_⟩, by simp only [intOf]; omega⟩
      · have := HN.out
        rw [upd_twice] at this
        exact this
      · rw [← HL.out, show n - k = (n - (k + 1)) + 1 by omega]; rfl
    · have hlt : ¬ (k : Int) < (n : Int) := by omega
      go_wp2
      first | go_end0 | refine bodyPost_ret (results_none rfl _ _ _) rfl ?_
      obtain rfl : k = n := by omega
      have e := HL.out
      rw [Nat.sub_self] at e
      exact ⟨rfl, by rw [← e]; exact HS2⟩
end Go.Proofs.Ytonmoidalkcmoaa
