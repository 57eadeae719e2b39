import Derived.Test.YtonmoidalkcmoaaCZMc
import Derived.Test.YtonmoidalkcmoaaCZMv
import Derived.Test.YtonmoidalkcmoaaCZMg4
import Derived.Test.YtonmoidalkcmoaaCZMg6
import Derived.Test.YtonmoidalkcmoaaCZMg9
import Derived.Test.YtonmoidalkcmoaaCZMg11
import Derived.Test.YtonmoidalkcmoaaCZMg12
import Derived.Test.YtonmoidalkcmoaaCZMg13
import Derived.Test.YtonmoidalkcmoaaCZMg14
import Derived.Test.YtonmoidalkcmoaaCZMg15
namespace Go.Proofs.Ytonmoidalkcmoaa
open Go.RowKit Go.WideShapes
set_option maxRecDepth 100000
set_option linter.unusedVariables false
set_option linter.unusedSimpArgs false
theorem mod_w (x : Nat) : x % 4294967296 < 4294967296 := Nat.mod_lt _ (by decide)
theorem Bd.mk3 {m : Pm} (h : Bd m) (o D : List Nat) (pc : Nat) (b : Bool) (h1 : ∀ x ∈ o, x < 4294967296) (h2 : ∀ k, D.getD k 0 < 256) (h3 : pc < 4294967296) : Bd ⟨o, D, pc, b⟩ := ⟨h1, h2, h3⟩
theorem snoc_bd {o : List Nat} {v : Nat} (h : ∀ x ∈ o, x < 4294967296) (hv : v < 4294967296) : ∀ x ∈ o ++ [v], x < 4294967296 := fun x hx => by
  rcases List.mem_append.1 hx with hx | hx
  · exact h x hx
  · rw [List.mem_singleton.1 hx]; exact hv
theorem drop_bd {o : List Nat} (h : ∀ x ∈ o, x < 4294967296) : ∀ x ∈ o.dropLast, x < 4294967296 := fun x hx => h x (List.dropLast_subset _ hx)
theorem last_bd {o : List Nat} (h : ∀ x ∈ o, x < 4294967296) : o.getLastD 0 < 4294967296 := (Bd.mk (m := ⟨o, [], 0, false⟩) h (fun k => by simp) (show (0 : Nat) < 4294967296 by decide)).last
theorem ite_lt {c : Prop} [Decidable c] {x y n : Nat} (h1 : x < n) (h2 : y < n) : (if c then x else y) < n := by split <;> assumption
/-- words and bytes stay what they may be -/
theorem tkV_bd {sp : Nat} {p : Nat × Nat} {m : Pm} (h : Bd m) (hp : p.2 < 4294967296) : Bd (tkV sp p m) := by
  obtain ⟨h1, h2, h3⟩ := h
  have d1 := drop_bd h1
  have d2 := drop_bd d1
  have b1 := last_bd h1
  have b2 := last_bd d1
  unfold tkV
  by_cases c0 : p.1 = 1
  · rw [if_pos c0]; exact ⟨h1, h2, mod_w _⟩
  rw [if_neg c0]
  by_cases c1 : p.1 = 6
  · rw [if_pos c1]; exact ⟨h1, h2, hp⟩
  rw [if_neg c1]
  by_cases c2 : p.1 = 8
  · rw [if_pos c2]; exact ⟨snoc_bd h1 hp, h2, mod_w _⟩
  rw [if_neg c2]
  by_cases c3 : p.1 = 9
  · rw [if_pos c3]; exact ⟨snoc_bd h1 (mod_w _), h2, mod_w _⟩
  rw [if_neg c3]
  by_cases c4 : p.1 = 10
  · rw [if_pos c4]; exact ⟨d1, h2, mod_w _⟩
  rw [if_neg c4]
  by_cases c5 : p.1 = 11
  · rw [if_pos c5]; exact ⟨snoc_bd (snoc_bd d1 b1) b1, h2, mod_w _⟩
  rw [if_neg c5]
  by_cases c6 : p.1 = 12
  · rw [if_pos c6]; exact ⟨d1, stV_bd _ _ _ _ h2, mod_w _⟩
  rw [if_neg c6]
  by_cases c7 : 29 ≤ p.1 ∧ p.1 ≤ 31
  · rw [if_pos c7]; exact ⟨snoc_bd d1 (ldV_lt _ _ _), h2, mod_w _⟩
  rw [if_neg c7]
  by_cases c8 : 32 ≤ p.1 ∧ p.1 ≤ 34
  · rw [if_pos c8]; exact ⟨d2, stV_bd _ _ _ _ h2, mod_w _⟩
  rw [if_neg c8]
  by_cases c9 : opKi p.1 = 2
  · rw [if_pos c9]; exact ⟨d2, h2, ite_lt hp (mod_w _)⟩
  rw [if_neg c9]
  by_cases c10 : opKi p.1 = 1 ∧ opTa p.1 = 1 ∧ opGi p.1 = 1
  · rw [if_pos c10]; exact ⟨snoc_bd d1 (unV_lt _ _ b1), h2, mod_w _⟩
  rw [if_neg c10]
  by_cases c11 : opKi p.1 = 1 ∧ opTa p.1 = 2 ∧ opGi p.1 = 1
  · rw [if_pos c11]; exact ⟨snoc_bd d2 (binV_lt _ _ _ b2 b1), h2, mod_w _⟩
  rw [if_neg c11]
  exact ⟨h1, h2, mod_w _⟩
theorem doD_bd {ws ws' : List Nat} {op arg : Nat} (hd : doD ws op arg = some ws') (hw : ∀ x ∈ ws, x < 4294967296) (ha : arg < 4294967296) : ∀ x ∈ ws', x < 4294967296 := by
  have d1 := drop_bd hw
  have b1 := last_bd hw
  unfold doD at hd
  split at hd
  · cases hd; exact hw
  split at hd
  · split at hd
    · cases hd; exact snoc_bd hw ha
    · cases hd
  split at hd
  · split at hd
    · cases hd; exact d1
    · cases hd
  split at hd
  · split at hd
    · cases hd; exact snoc_bd hw b1
    · cases hd
  split at hd
  · split at hd
    · cases hd; exact snoc_bd d1 (unV_lt _ _ b1)
    · cases hd
  split at hd
  · split at hd
    · cases hd; exact snoc_bd (drop_bd d1) (binV_lt _ _ _ (last_bd d1) b1)
    · cases hd
  · cases hd
theorem plR_bd : ∀ (A : List (Nat × Nat)) (ws ws' : List Nat), plR A ws = some ws' → Wfc A → (∀ x ∈ ws, x < 4294967296) → ∀ x ∈ ws', x < 4294967296
  | [], ws, ws', h, _, hw => by cases h; exact hw
  | p :: r, ws, ws', h, hwf, hw => by
    unfold plR at h
    split at h
    · cases hd : doD ws p.1 p.2 with
      | none => rw [hd] at h; cases h
      | some wt =>
        rw [hd] at h
        exact plR_bd r wt ws' h (fun q hq => hwf q (by simp [hq])) (doD_bd hd hw (hwf p (by simp)).2)
    · cases h
theorem cnO_bd {M : List (Nat × Nat)} {v : Nat} (hwf : Wfc M) (h : cnO M = some v) : v < 4294967296 :=
  plR_bd _ _ _ (plD_word _ _ _ (cnO_some.1 h).2.2) hwf (by simp) v (by simp)
/-- the fields of a thing -/
def FzB (f : Fz) : Prop := f.op < 256 ∧ (f.kind = 5 ∨ f.kind = 6 ∨ f.kind = 7 ∨ f.kind = 10 → f.a < 4294967296) ∧ (f.kind = 15 → f.b < 4294967296)
theorem wfc_take {M : List (Nat × Nat)} (h : Wfc M) (n : Nat) : Wfc (M.take n) := fun p hp => h p (List.mem_of_mem_take hp)
theorem wfc_drop2 {M : List (Nat × Nat)} (h : Wfc M) (n : Nat) : Wfc (M.drop n) := fun p hp => h p (List.mem_of_mem_drop hp)
theorem fzb_main {L : List (Nat × Nat)} {a e : Nat} (hwf : Wfc L) (hae : a < e ∧ e ≤ L.length) (hE : flE L a e = 0) (hk : 2 ≤ (flV L a e).len) : FzB (flV L a e) := by
  have hM : flV L a e = bst ((L.drop a).take (e - a)) a 15 := by unfold flV; rw [if_pos hE]
  have hwM : Wfc ((L.drop a).take (e - a)) := wfc_sub hwf a (e - a)
  have hlM : ((L.drop a).take (e - a)).length = e - a := by rw [List.length_take, List.length_drop]; omega
  rcases bst_src (M := (L.drop a).take (e - a)) (a := a) 15 with h | ⟨j, j1, j2, hj⟩
  · rw [hM, h] at hk; exact absurd hk (by decide)
  rw [← hM] at hj
  generalize flV L a e = f at *
  by_cases c1 : j = 1
  · subst c1
    generalize (L.drop a).take (e - a) = M at *
    obtain _ | ⟨p, R⟩ := M
    · simp at hlM; omega
    · rw [fkV_one] at hj
      split at hj
      · cases hj; exact absurd hk (by simp)
      · cases hj
  by_cases c2 : j = 2 ∨ j = 3 ∨ j = 4
  · rw [fold_eq hwf hae c2] at hj
    generalize (decide (lnE L a e = 0) && decide (2 ≤ (lnP L a e).2.1) && decide ((if (lnP L a e).2.2.1 = 4 then 4 else if (lnP L a e).2.2.1 = 3 then 3 else 2) = j)) = cb at hj
    cases cb
    · cases hj
    · rw [if_pos rfl] at hj
      cases hj
      exact ⟨(show (0 : Nat) < 256 by decide), fun h => by simp only at h; omega, fun h => by simp only at h; omega⟩
  by_cases c3 : j ≤ 10
  · obtain ⟨v, q, b1, b2, _, b4, b5, _, b7⟩ := con_B hwM (by omega) c3 hj
    have hv := cnO_bd (wfc_take hwM _) b4
    have hq := hwM q (List.mem_of_getElem? b5)
    obtain ⟨n, hn⟩ : ∃ n, f.len = n := ⟨_, rfl⟩
    rw [hn] at b7
    clear hn
    unfold dsC at b7
    repeat' split at b7
    all_goals first
      | (cases b7; done)
      | (cases b7; exact ⟨by first | exact hq.1 | exact (show (0 : Nat) < 256 by decide), fun _ => hv, fun h => by simp at h⟩)
  by_cases c4 : j = 11 ∨ j = 12
  · obtain ⟨q0, q1, b0, b1, _, _, b4, b5⟩ := loc2_B hwM c4 hj
    have b7 := b5 (0, 0)
    have hq := hwM q1 (List.mem_of_getElem? b1)
    clear b5 b4 hj hk hM
    unfold dsL at b7
    by_cases h9 : q0.1 = 9
    · rw [if_neg (fun e => e h9)] at b7
      rcases c4 with rfl | rfl
      · rw [if_pos rfl] at b7
        split at b7
        · cases b7; exact ⟨by first | exact hq.1 | exact (show (0 : Nat) < 256 by decide), fun h => by simp at h, fun h => by simp at h⟩
        · cases b7
      · rw [if_neg (by decide), if_pos rfl] at b7
        split at b7
        · cases b7; exact ⟨by first | exact hq.1 | exact (show (0 : Nat) < 256 by decide), fun h => by simp at h, fun h => by simp at h⟩
        · cases b7
    · rw [if_pos h9] at b7; cases b7
  by_cases c5 : j = 13 ∨ j = 14
  · obtain ⟨q0, q1, q2, b0, b1, b2, _, _, _, b4, b7⟩ := loc3_B hwM c5 hj
    have hq := hwM q2 (List.mem_of_getElem? b2)
    clear b4 hj hk hM
    unfold dsL at b7
    by_cases h9 : q0.1 = 9
    · rw [if_neg (fun e => e h9)] at b7
      rcases c5 with rfl | rfl
      · rw [if_neg (by decide), if_neg (by decide), if_pos rfl] at b7
        split at b7
        · cases b7; exact ⟨by first | exact hq.1 | exact (show (0 : Nat) < 256 by decide), fun h => by simp at h, fun h => by simp at h⟩
        · cases b7
      · rw [if_neg (by decide), if_neg (by decide), if_neg (by decide)] at b7
        split at b7
        · cases b7; exact ⟨by first | exact hq.1 | exact (show (0 : Nat) < 256 by decide), fun h => by simp at h, fun h => by simp at h⟩
        · cases b7
    · rw [if_pos h9] at b7; cases b7
  obtain rfl : j = 15 := by omega
  obtain ⟨c, v, q0, q2, qo, ql, b0, b1, b2, _, _, b5, b6, b7, _, _, _, _, k0, k2, kd, kn, kl, rfl⟩ := bump_B hwM hj
  exact ⟨(hwM qo (List.mem_of_getElem? b6)).1, fun h => by simp at h, fun _ => cnO_bd (wfc_take (wfc_drop2 hwM _) _) b5⟩
theorem xthing {W : World} {M : Col → Pc} {x pm sp : Nat} {m : Pm} (h : Hid (PlO W M x pm sp m)) (hx : x ≠ 9) (hM : ∀ k, M (9, k) = noP) (hB : Bd m) (at_ len k op a b : Nat) (hf : FzB ⟨at_, len, k, op, a, b⟩) (k2 : 2 ≤ k) (k15 : k ≤ 15) (k8 : ¬ k = 8) (h2 : 2 ≤ m.ops.length) (hl : m.ops.length ≤ 35184372088800) :
    Calls Try.prog 10 #[.pointer (some ⟨pm, 0, none⟩), .agg (fzA ⟨at_, len, k, op, a, b⟩)] W fun e w' => e = .returned (.tuple #[]) ∧ ∃ M', Hid (PlO w' M' x pm sp (thV sp ⟨at_, len, k, op, a, b⟩ m)) ∧ Kx x M M' := by
  obtain ⟨f1, f2, f3⟩ := hf
  simp only at f1 f2 f3
  have hc : k = 2 ∨ k = 3 ∨ k = 4 ∨ k = 5 ∨ k = 6 ∨ k = 7 ∨ k = 9 ∨ k = 10 ∨ k = 11 ∨ k = 12 ∨ k = 13 ∨ k = 14 ∨ k = 15 := by omega
  rcases hc with rfl | rfl | rfl | rfl | rfl | rfl | rfl | rfl | rfl | rfl | rfl | rfl | rfl
  · exact xthing_2 h hx hM hB at_ len op a b f1 h2 hl
  · exact xthing_3 h hx hM hB at_ len op a b f1 h2 hl
  · exact xthing_4 h hx hM hB at_ len op a b f1 h2 hl
  · exact xthing_5 h hx hM hB at_ len op a b f1 (f2 (by simp)) h2 hl
  · exact xthing_6 h hx hM hB at_ len op a b f1 (f2 (by simp)) h2 hl
  · exact xthing_7 h hx hM hB at_ len op a b f1 (f2 (by simp)) h2 hl
  · exact xthing_9 h hx hM hB at_ len op a b f1 h2 hl
  · exact xthing_10 h hx hM hB at_ len op a b f1 (f2 (by simp)) h2 hl
  · exact xthing_11 h hx hM hB at_ len op a b f1 h2 hl
  · exact xthing_12 h hx hM hB at_ len op a b f1 h2 hl
  · exact xthing_13 h hx hM hB at_ len op a b f1 h2 hl
  · exact xthing_14 h hx hM hB at_ len op a b f1 h2 hl
  · exact xthing_15 h hx hM hB at_ len op a b f1 (f3 rfl) h2 hl
/-- a list of words, of bytes, that is handed in -/
def InW (w : World) (ao : Option Addr) (l : List Nat) : Prop := 0 < l.length → ∃ b off, ao = some ⟨b, off, none⟩ ∧ b < w.heap.size ∧ ∀ j, j < l.length → w.cell? ⟨b, off + j, none⟩ = some (.int .u32 ((l.getD j 0 : Nat) : Int))
def InB (w : World) (ao : Option Addr) (l : List Nat) : Prop := 0 < l.length → ∃ b off, ao = some ⟨b, off, none⟩ ∧ b < w.heap.size ∧ ∀ j, j < l.length → w.cell? ⟨b, off + j, none⟩ = some (.int .u8 ((l.getD j 0 : Nat) : Int))
theorem InW.rd {w W : World} {ao : Option Addr} {l : List Nat} (h : InW w ao l) (hb : Below w.heap.size w W) : RdWd W ao l := fun hp => by
  obtain ⟨b, off, e, hlt, hc⟩ := h hp
  exact ⟨b, off, e, fun j hj => (hb.cell (p := ⟨b, off + j, none⟩) hlt).trans (hc j hj)⟩
theorem InB.rd {w W : World} {ao : Option Addr} {l : List Nat} (h : InB w ao l) (hb : Below w.heap.size w W) : RdBy W ao l := fun hp => by
  obtain ⟨b, off, e, hlt, hc⟩ := h hp
  exact ⟨b, off, e, fun j hj => (hb.cell (p := ⟨b, off + j, none⟩) hlt).trans (hc j hj)⟩
/-- what abides in the loop -/
structure LpS (wr : World) (M9 : Col → Pc) (WB : World) (o1 o2 sp g3 c3 : Nat) (bs D : List Nat) (nb f0 : Nat) (m1 : Pm) : Prop where
  p1 : Hid (PlO wr M9 1 o1 sp m1)
  p2 : Hid (PlO wr M9 2 o2 sp ⟨bs, D, f0, false⟩)
  n0 : M9 (0, 0) = outP WB
  n1 : M9 (0, 1) = rowO (some ⟨g3, 0, none⟩) bs.length c3 bs
  n8 : M9 (8, 0) = objP nb (btV D).toArray 39
  n9 : ∀ k, M9 (9, k) = noP
  bd : Bd m1
theorem LpS.bel {wr : World} {M9 : Col → Pc} {WB : World} {o1 o2 sp g3 c3 : Nat} {bs D : List Nat} {nb f0 : Nat} {m1 : Pm} (h : LpS wr M9 WB o1 o2 sp g3 c3 bs D nb f0 m1) : Below WB.heap.size WB wr := stt_out h.p1.out.1 h.n0
theorem LpS.beg {wr : World} {M9 : Col → Pc} {WB : World} {o1 o2 sp g3 c3 : Nat} {bs D : List Nat} {nb f0 : Nat} {m1 : Pm} (h : LpS wr M9 WB o1 o2 sp g3 c3 bs D nb f0 m1) : wr.heap[nb]? = some (.cells (btV D).toArray 39 (0, 0)) := stt_obj h.p1.out.1 h.n8
theorem LpS.drewN {wr : World} {M9 : Col → Pc} {WB : World} {o1 o2 sp g3 c3 : Nat} {bs D : List Nat} {nb f0 : Nat} {m1 : Pm} (h : LpS wr M9 WB o1 o2 sp g3 c3 bs D nb f0 m1) (n : Nat) : LpS (wr.drewN n) M9 WB o1 o2 sp g3 c3 bs D nb f0 m1 := ⟨PlO.drewN h.p1 n, PlO.drewN h.p2 n, h.n0, h.n1, h.n8, h.n9, h.bd⟩
theorem LpS.below {wr w' : World} {M9 : Col → Pc} {WB : World} {o1 o2 sp g3 c3 : Nat} {bs D : List Nat} {nb f0 : Nat} {m1 : Pm} (h : LpS wr M9 WB o1 o2 sp g3 c3 bs D nb f0 m1) (hb : Below wr.heap.size wr w') : LpS w' M9 WB o1 o2 sp g3 c3 bs D nb f0 m1 := ⟨PlO.below h.p1 hb, PlO.below h.p2 hb, h.n0, h.n1, h.n8, h.n9, h.bd⟩
theorem LpS.step {wr w' : World} {M9 M' : Col → Pc} {WB : World} {o1 o2 sp g3 c3 : Nat} {bs D : List Nat} {nb f0 : Nat} {m1 m2 : Pm} (h : LpS wr M9 WB o1 o2 sp g3 c3 bs D nb f0 m1) (hp : Hid (PlO w' M' 1 o1 sp m2)) (hk : Kx 1 M9 M') (hb : Bd m2) : LpS w' M' WB o1 o2 sp g3 c3 bs D nb f0 m2 :=
  ⟨hp, PlO.keep h.p2 hp.out.1 (hk _ (by simp) (by simp)) (hk _ (by simp) (by simp)), (hk _ (by simp) (by simp)).trans h.n0, (hk _ (by simp) (by simp)).trans h.n1, (hk _ (by simp) (by simp)).trans h.n8, fun k => (hk _ (by simp) (by simp)).trans (h.n9 k), hb⟩
theorem LpS.words {wr : World} {M9 : Col → Pc} {WB : World} {o1 o2 sp g3 c3 : Nat} {bs D : List Nat} {nb f0 : Nat} {m1 : Pm} (h : LpS wr M9 WB o1 o2 sp g3 c3 bs D nb f0 m1) : RdWd wr (some ⟨g3, 0, none⟩) bs := fun hp => ⟨g3, 0, rfl, fun j hj => by
  rw [Nat.zero_add, (stt_row h.p1.out.1 h.n1).cellAt j (by omega)]
  simp [dv, hj]⟩
theorem getD_memM {L : List (Nat × Nat)} {i : Nat} (h : i < L.length) : L.getD i (0, 0) ∈ L := by
  rw [List.getD_eq_getElem?_getD, List.getElem?_eq_getElem h]; exact List.getElem_mem h
theorem thV_lenM (sp at_ len k op a b : Nat) (m : Pm) (k2 : 2 ≤ k) (k15 : k ≤ 15) (k8 : ¬ k = 8) : (thV sp ⟨at_, len, k, op, a, b⟩ m).ops.length ≤ m.ops.length + 1 := by
  have hc : k = 2 ∨ k = 3 ∨ k = 4 ∨ k = 5 ∨ k = 6 ∨ k = 7 ∨ k = 9 ∨ k = 10 ∨ k = 11 ∨ k = 12 ∨ k = 13 ∨ k = 14 ∨ k = 15 := by omega
  rcases hc with rfl | rfl | rfl | rfl | rfl | rfl | rfl | rfl | rfl | rfl | rfl | rfl | rfl
  · rw [thV_2]; simp <;> omega
  · rw [thV_3]; simp <;> omega
  · rw [thV_4]; simp <;> omega
  · rw [thV_5]; simp <;> omega
  · rw [thV_6]; simp <;> omega
  · rw [thV_7]; simp <;> omega
  · rw [thV_9]; simp <;> omega
  · rw [thV_10]; simp <;> omega
  · rw [thV_11]; simp <;> omega
  · rw [thV_12]; simp <;> omega
  · rw [thV_13]; simp <;> omega
  · rw [thV_14]; simp <;> omega
  · rw [thV_15]; simp <;> omega
theorem PlO.rdB {W : World} {M : Col → Pc} {x pm sp : Nat} {m : Pm} (h : Hid (PlO W M x pm sp m)) : ∃ go cap, W.cell? ⟨pm, 1, none⟩ = some (.slice go m.ops.length cap) ∧ ∀ W', Below W.heap.size W W' → RdWd W' go m.ops := by
  obtain ⟨go, cap, h1, h2⟩ := PlO.rd h
  refine ⟨go, cap, h1, fun W' hb hp => ?_⟩
  obtain ⟨go', cap', h1', h2'⟩ := PlO.rd (PlO.below h hb)
  obtain ⟨M4, q⟩ : ∃ M4, Hid (PlO W' M4 x pm sp m) := ⟨M, PlO.below h hb⟩
  have hlt : pm < W.heap.size := by
    obtain ⟨hS, hd, g0, c0, full, e0, _⟩ := h.out
    exact (Array.getElem?_eq_some_iff.1 (stt_obj hS e0)).1
  have e := (hb.cell (p := ⟨pm, 1, none⟩) hlt).trans h1
  rw [h1'] at e
  simp only [Option.some.injEq, Value.slice.injEq] at e
  rw [← e.1]
  exact h2' hp
theorem wpAnyH_monoS {P : Program} {md : Region.Mode} {ops : Array Oper} {Q : Exit → Act → World → Prop} {S S' : World → Prop} (hS : ∀ w, S' w → S w) : ∀ (fuel : Nat) (listed : Array Bool) (a : Act) (w : World), wpAnyH P md ops Q S' fuel listed a w → wpAnyH P md ops Q S fuel listed a w
  | 0, _, _, _, h => h
  | fuel + 1, _, _, _, h => ⟨h.1, fun i hi => wpOp_mono (fun a' w' h' => ⟨hS _ h'.1, wpAnyH_monoS hS fuel _ a' w' h'.2⟩) (h.2 i hi)⟩
theorem bel_drewN {B : Nat} {w W : World} (h : Below B w W) (n : Nat) : Below B w (W.drewN n) := ⟨h.os, h.tape, h.output, h.size, h.block⟩
set_option maxHeartbeats 16000000 in
theorem fmeans_law (ao : Option Addr) (cap a e : Nat) (L : List (Nat × Nat)) (oo : Option Addr) (co : Nat) (ops : List Nat) (ro : Option Addr) (rc : Nat) (raw : List Nat) (sp : Nat) (w : World)
    (hn : L.length * 8 ≤ 140737488355328) (hcap : L.length ≤ cap) (ha : a < 4294967296) (he : e < 4294967296) (hwf : Wfc L) (hr : CRd w ao L w.heap.size)
    (hol : ops.length ≤ 35184372088640) (hob : ∀ x ∈ ops, x < 4294967296) (hor : InW w oo ops) (hrb : ∀ x ∈ raw, x < 256) (hrr : InB w ro raw) :
    Calls Try.prog 3 #[.slice ao L.length cap, .int .u32 (a : Int), .int .u32 (e : Int), .slice oo ops.length co, .slice ro raw.length rc, .int .u32 (sp : Int)] w fun x w' => x = .returned (.bool true) ∧ Below w.heap.size w w' := by
  have HA := dhid (fun w' => zawake_any w')
  have HR := dhid hr
  have HOR := dhid hor
  have HRR := dhid hrr
  have HLN := dhid (fun (W : World) (h4 : CRd W ao L W.heap.size) => flongest_any ao cap a e L W (by omega) hcap ha he hwf h4)
  clear hr hor hrr
  go_enter Try.func3, Try.ntmps3
  go_wp2_with fail
  with_reducible refine (HA.out _).mono ?_
  rintro x w1 ⟨rfl, R1⟩
  clear HA
  have R1h := dhid R1
  go_wp2_with fail
  refine (HLN.out w1 ((HR.out.below R1).mono R1.size)).mono ?_
  rintro x w2 ⟨rfl, R2⟩
  have RR := dhid (R1.trans (R2.mono R1.size))
  clear HLN R1 R2 R1h
  by_cases hE : flE L a e = 0
  · obtain ⟨hae, fat, fl1, fle, fone⟩ := flV_facts hwf hE
    rw [hE]
    by_cases hone : (flV L a e).len = 1
    · rw [fone hone]
      obtain ⟨b, off, rfl, hbl, hc⟩ := HR.out (by omega)
      have x0 := (RR.out.cell (p := ⟨b, off + a * 2, none⟩) hbl).trans (hc a (by omega)).1
      have x1 := (RR.out.cell (p := ⟨b, off + a * 2 + 1, none⟩) hbl).trans (hc a (by omega)).2
      have fae : ¬ (e : Int) < (a : Int) + 1 := by omega
      have faL : (a : Int) < (L.length : Int) := by omega
      have hbd : Below w.heap.size w w2 := RR.out
      generalize L.getD a (0, 0) = pp at *
      obtain ⟨op, arg⟩ := pp
      simp only [fzA] at *
      clear hc fone
      have y0 := ((Below.refl w2.heap.size w2).alloc (Nat.le_refl _) (.cells #[.int .u32 (a : Int), .int .u32 1, .int .u8 1, .int .u8 (op : Int), .int .u32 (arg : Int), .int .u32 0] 30))
      have RE := dhid (hbd.trans (y0.mono hbd.size))
      have z0 := (RE.out.cell (p := ⟨b, off + a * 2, none⟩) hbl).trans ((hbd.cell (p := ⟨b, off + a * 2, none⟩) hbl).symm.trans x0)
      have z1 := (RE.out.cell (p := ⟨b, off + a * 2 + 1, none⟩) hbl).trans ((hbd.cell (p := ⟨b, off + a * 2 + 1, none⟩) hbl).symm.trans x1)
      have q0 : (w2.alloc (.cells #[.int .u32 (a : Int), .int .u32 1, .int .u8 1, .int .u8 (op : Int), .int .u32 (arg : Int), .int .u32 0] 30)).cell? ⟨w2.heap.size, 0, none⟩ = some (.int .u32 (a : Int)) := (obj_cell (heap_alloc_new _ _) 0).trans rfl
      have q1 : (w2.alloc (.cells #[.int .u32 (a : Int), .int .u32 1, .int .u8 1, .int .u8 (op : Int), .int .u32 (arg : Int), .int .u32 0] 30)).cell? ⟨w2.heap.size, 1, none⟩ = some (.int .u32 1) := (obj_cell (heap_alloc_new _ _) 1).trans rfl
      have q2 : (w2.alloc (.cells #[.int .u32 (a : Int), .int .u32 1, .int .u8 1, .int .u8 (op : Int), .int .u32 (arg : Int), .int .u32 0] 30)).cell? ⟨w2.heap.size, 2, none⟩ = some (.int .u8 1) := (obj_cell (heap_alloc_new _ _) 2).trans rfl
      have q3 : (w2.alloc (.cells #[.int .u32 (a : Int), .int .u32 1, .int .u8 1, .int .u8 (op : Int), .int .u32 (arg : Int), .int .u32 0] 30)).cell? ⟨w2.heap.size, 3, none⟩ = some (.int .u8 (op : Int)) := (obj_cell (heap_alloc_new _ _) 3).trans rfl
      have q4 : (w2.alloc (.cells #[.int .u32 (a : Int), .int .u32 1, .int .u8 1, .int .u8 (op : Int), .int .u32 (arg : Int), .int .u32 0] 30)).cell? ⟨w2.heap.size, 4, none⟩ = some (.int .u32 (arg : Int)) := (obj_cell (heap_alloc_new _ _) 4).trans rfl
      have q5 : (w2.alloc (.cells #[.int .u32 (a : Int), .int .u32 1, .int .u8 1, .int .u8 (op : Int), .int .u32 (arg : Int), .int .u32 0] 30)).cell? ⟨w2.heap.size, 5, none⟩ = some (.int .u32 0) := (obj_cell (heap_alloc_new _ _) 5).trans rfl
      clear y0 hbd
      go_wp2
      go_quiet (fail)
      go_wp2
      go_ret
      exact ⟨rfl, bel_drewN RE.out _⟩
    · have hlen2 : 2 ≤ (flV L a e).len := by omega
      have FZB := dhid (fzb_main hwf hae hE hlen2)
      have RES := dhid (means_main (sp := sp) (base := 7 :: 9 :: ops) (D := flK raw (min raw.length 256)) hwf hae he (by simp) hE hlen2)
      generalize flV L a e = f at *
      obtain ⟨f0, f1, f2, f3, f4, f5⟩ := f
      simp only at fat fl1 fle fone hone hlen2
      subst fat
      simp only [fzA] at *
      have fI1 : ¬ (f1 : Int) < 1 := by omega
      have fI2 : ¬ (e : Int) < (f0 : Int) + (f1 : Int) := by omega
      have fI3 : ¬ (f1 : Int) = 1 := by omega
      have R0 : Below w.heap.size w (w2.alloc (.cells #[.int .u32 (f0 : Int), .int .u32 (f1 : Int), .int .u8 (f2 : Int), .int .u8 (f3 : Int), .int .u32 (f4 : Int), .int .u32 (f5 : Int)] 30)) := RR.out.alloc RR.out.size _
      obtain ⟨WB, hWB⟩ : ∃ WB, w2.alloc (.cells #[.int .u32 (f0 : Int), .int .u32 (f1 : Int), .int .u8 (f2 : Int), .int .u8 (f3 : Int), .int .u32 (f4 : Int), .int .u32 (f5 : Int)] 30) = WB := ⟨_, rfl⟩
      have hbx : WB.heap[w2.heap.size]? = some (.cells #[.int .u32 (f0 : Int), .int .u32 (f1 : Int), .int .u8 (f2 : Int), .int .u8 (f3 : Int), .int .u32 (f4 : Int), .int .u32 (f5 : Int)] 30) := by rw [← hWB]; exact heap_alloc_new _ _
      have hbs : w2.heap.size < WB.heap.size := by rw [← hWB]; simp
      rw [hWB] at R0
      have HWB := dhid hWB
      have HR0 := dhid R0
      have HBX := dhid hbx
      have HBS := dhid hbs
      clear hWB R0 hbx hbs fone hone RR
      go_wp2_with (first
        | (refine wpList_run rfl (exec_slice2 _ _ rfl rfl rfl rfl) ?_; rw [HWB.out])
        | (at_builtin; refine app_two (w0 := WB) rfl _ _ rfl rfl rfl ?_; intro g2 c2 w3 own2 hg2 R3)
        | (at_builtin; refine app_words (w0 := WB) rfl _ _ rfl rfl own2 rfl (HOR.out.rd (HR0.out.trans (R3.mono HR0.out.size))) (by omega) R3 hg2 ?_; intro g3 c3 w4 own4 hg3 R4; clear own2 hg2 R3))
      obtain ⟨bs, hbs⟩ : ∃ bs, 7 :: 9 :: ops = bs := ⟨_, rfl⟩
      have hbl : bs.length = 2 + ops.length := by rw [← hbs]; simp; omega
      have own5 : w4.ownsRow 0 23 1 (.slice (some ⟨g3, 0, none⟩) bs.length c3) bs.length (dv bs) := by rw [hbl, ← hbs]; exact own4
      have S4 := dhid (stt_new (c := (0, 1)) (p := rowO (some ⟨g3, 0, none⟩) bs.length c3 bs) (stt_base WB) R4 ⟨own5, fun k e => by simp only [Value.ownBlock, Option.some.injEq] at e; omega⟩)
      have m00 : upd (fun d => if d = (0, 0) then outP WB else noP) (0, 1) (rowO (some ⟨g3, 0, none⟩) bs.length c3 bs) (0, 0) = outP WB := (upd_ne (by simp)).trans (if_pos rfl)
      have m01 := upd_eq (fun d => if d = (0, 0) then outP WB else noP) (0, 1) (rowO (some ⟨g3, 0, none⟩) bs.length c3 bs)
      have m09 : ∀ k, upd (fun d => if d = (0, 0) then outP WB else noP) (0, 1) (rowO (some ⟨g3, 0, none⟩) bs.length c3 bs) (9, k) = noP := fun k => (upd_ne (by simp)).trans (if_neg (by simp))
      generalize upd (fun d => if d = (0, 0) then outP WB else noP) (0, 1) (rowO (some ⟨g3, 0, none⟩) bs.length c3 bs) = M4 at *
      rw [hbs] at RES
      have HRB := dhid (fun W' (hb : Below WB.heap.size WB W') => HRR.out.rd (HR0.out.trans (hb.mono HR0.out.size)))
      have hob2 : ∀ x ∈ bs, x < 4294967296 := by
        rw [← hbs]
        intro x hx
        simp only [List.mem_cons] at hx
        rcases hx with rfl | rfl | hx
        · decide
        · decide
        · exact hob x hx
      have hbl2 : bs.length ≤ 35184372088700 := by omega
      have hbl3 : 2 ≤ bs.length := by omega
      rw [← hbl]
      clear own4 own5 hg3 R4 hbs hbl hob hol HRR HOR
      refine (machine_any (x := 1) (by decide) S4 m00 m01 (by omega) (by omega) ro rc raw HRB.out sp f0).mono ?_
      rintro e1 w5 ⟨o1, M5, rfl, P5, K5⟩
      have n00 := (K5 (0, 0) (by simp) (by simp)).trans m00
      have n01 := (K5 (0, 1) (by simp) (by simp)).trans m01
      have n09 : ∀ k, M5 (9, k) = noP := fun k => (K5 (9, k) (by simp) (by simp)).trans (m09 k)
      clear S4 m00 m01 m09 K5
      go_wp2_with fail
      refine (machine_any (x := 2) (by decide) (dhid P5.out.1) n00 n01 (by omega) (by omega) ro rc raw HRB.out sp f0).mono ?_
      rintro e2 w6 ⟨o2, M6, rfl, P6, K6⟩
      have Q6 := PlO.keep P5 P6.out.1 (K6 (1, 0) (by simp) (by simp)) (K6 (1, 1) (by simp) (by simp))
      have m00 := (K6 (0, 0) (by simp) (by simp)).trans n00
      have m01 := (K6 (0, 1) (by simp) (by simp)).trans n01
      have m09 : ∀ k, M6 (9, k) = noP := fun k => (K6 (9, k) (by simp) (by simp)).trans (n09 k)
      clear P5 n00 n01 n09 K6 HRB
      have hDl : (flK raw (min raw.length 256)).length = 256 := flK_len _ _
      have hDb : ∀ k, (flK raw (min raw.length 256)).getD k 0 < 256 := flK_lt hrb _
      generalize flK raw (min raw.length 256) = D at *
      have HL6 := dhid (loadA hDl (fun k hk => PlO.cdat Q6 k hk))
      obtain ⟨zs, hzs⟩ : ∃ zs, (List.replicate 256 (Value.int .u8 0)).toArray = zs := ⟨_, rfl⟩
      have hzn : zs.size = 256 := by rw [← hzs]; simp
      obtain ⟨W7, hW7⟩ : ∃ W7, w6.alloc (.cells zs 39) = W7 := ⟨_, rfl⟩
      have h7 : W7.heap[w6.heap.size]? = some (.cells zs 39) := by rw [← hW7]; exact heap_alloc_new _ _
      have HZ := dhid hzs
      have HW7 := dhid hW7
      have H7 := dhid h7
      clear hzs hW7 h7
      go_wp2_with (first
        | (refine wpList_run rfl (exec_load _ _ rfl HL6.out) ?_)
        | (refine wpList_run rfl (exec_allocA HZ.out HW7.out rfl) ?_)
        | (refine wpList_store_rowD rfl _ _ _ rfl w6.heap.size zs (btV D).toArray rfl rfl H7.out (by rw [sizeA]; simp [btV, hDl]) (by simp [btV, hDl, hzn]) (by simp [btV, Value.oneCell']) ?_))
      have hW8 : W7.setRow w6.heap.size (btV D).toArray = w6.alloc (.cells (btV D).toArray 39) := by rw [← HW7.out, World.setRow_alloc_new]
      rw [hW8]
      have hb8 : Below w6.heap.size w6 (w6.alloc (.cells (btV D).toArray 39)) := (Below.refl _ _).alloc (Nat.le_refl _) _
      have S8 := dhid (stt_new (c := (8, 0)) (p := objP w6.heap.size (btV D).toArray 39) P6.out.1 hb8 ⟨heap_alloc_new _ _, Nat.le_refl _⟩)
      have LP : LpS (w6.alloc (.cells (btV D).toArray 39)) (upd M6 (8, 0) (objP w6.heap.size (btV D).toArray 39)) WB o1 o2 sp g3 c3 bs D w6.heap.size f0 ⟨bs, D, f0, false⟩ :=
        ⟨PlO.keep Q6 S8.out (upd_ne (by simp)) (upd_ne (by simp)), PlO.keep P6 S8.out (upd_ne (by simp)) (upd_ne (by simp)), (upd_ne (by simp)).trans m00, (upd_ne (by simp)).trans m01, upd_eq _ _ _, fun k => (upd_ne (by simp)).trans (m09 k), ⟨hob2, hDb, ha⟩⟩
      have LPH := dhid LP
      clear S8 LP hb8 hW8 m00 m01 m09 Q6 P6 HL6 HZ HW7 H7 hzn
      have hSl : ((L.drop f0).take (e - f0)).length = e - f0 := by rw [List.length_take, List.length_drop]; omega
      have hSg : ∀ k, k < e - f0 → ((L.drop f0).take (e - f0))[k]? = some (L.getD (f0 + k) (0, 0)) := fun k hk => by
        rw [List.getElem?_take_of_lt hk, List.getElem?_drop, List.getD_eq_getElem?_getD, List.getElem?_eq_getElem (show f0 + k < L.length by omega)]; rfl
      generalize (L.drop f0).take (e - f0) = S at *
      have HSG := dhid hSg
      clear hSg
      go_loopw [19] (fun i wr => ∃ (k : Nat) (M9 : Col → Pc), k ≤ f1 ∧ (f2 = 8 → k < f1) ∧ i = .int .u32 (k : Int) ∧ Hid (LpS wr M9 WB o1 o2 sp g3 c3 bs D w6.heap.size f0 (rn sp (S.take k) ⟨bs, D, f0, false⟩)))
        (fun i _ => f1 - (intOf i).toNat)
      case atStart => exact ⟨0, _, Nat.zero_le _, fun _ => by omega, rfl, LPH⟩
      case round =>
        clear LPH
        obtain ⟨k, M9, hk, hk8, rfl, LP⟩ := hrel
        have hbw := LP.out.bel
        have hbx := (hbw.block w2.heap.size HBS.out).trans HBX.out
        obtain ⟨b0, b1, b2, b3, b4, b5⟩ := fz_cells (f := ⟨f0, f1, f2, f3, f4, f5⟩) hbx
        simp only at b0 b1 b2 b3 b4 b5
        by_cases hlt : k < f1
        · have hltI : (k : Int) < (f1 : Int) := by omega
          obtain ⟨mB, mD, mP, ws, mO, mL⟩ := RES.out.1 k hlt
          obtain ⟨mk, hmk⟩ : ∃ mk, rn sp (S.take k) ⟨bs, D, f0, false⟩ = mk := ⟨_, rfl⟩
          have hMK := dhid hmk
          rw [hmk] at mB mD mP mO LP
          clear hmk
          obtain ⟨mo, md, mp, mb⟩ := mk
          simp only at mB mD mP mO
          subst mB mD mP mO
          have c259 := PlO.cbd LP.out.p1
          have c258 := PlO.cpc LP.out.p1
          simp only at c259 c258
          have D1 := dhid (fun n => loadA hDl (fun k hk => PlO.cdat (PlO.drewN LP.out.p1 n) k hk))
          have D2 := dhid (fun n => loadB (W := wr.drewN n) hDl LP.out.beg)
          have hpc : ((f0 : Int) + (k : Int)) % 4294967296 = ((f0 + k : Nat) : Int) := by omega
          have hwr : IntKind.u32.wrap ((f0 : Int) + (k : Int)) = (f0 : Int) + (k : Int) := by rw [IntKind.wrap_u32]; omega
          have HDL := dhid hDl
          clear hbx hbw
          go_wp2
          refine wp_region_quiet_lit (by kernel_rfl) (by kernel_rfl) ?_
          repeat (quiet_step (fail))
          refine quiet_run (.agg (btV md).toArray) rfl (fun W hc => by obtain ⟨n, rfl⟩ := hc; exact exec_load _ _ rfl (D1.out n)) ?_
          go_simp
          refine quiet_run (.agg (btV md).toArray) rfl (fun W hc => by obtain ⟨n, rfl⟩ := hc; exact exec_load _ _ rfl (D2.out n)) ?_
          go_simp
          refine quiet_run (.bool false) rfl (fun W hc => exec_neqA HDL.out _ _ _ rfl rfl rfl) ?_
          go_simp
          repeat (quiet_step (fail))
          refine wpQuiet_nil ?_
          intro nq
          obtain ⟨b, off, rfl, hbl, hc⟩ := HR.out (by omega)
          have hbw2 : Below w.heap.size w wr := HR0.out.trans (LP.out.bel.mono HR0.out.size)
          have x0 := (hbw2.cell (p := ⟨b, off + (f0 + k) * 2, none⟩) hbl).trans (hc (f0 + k) (by omega)).1
          have x1 := (hbw2.cell (p := ⟨b, off + (f0 + k) * 2 + 1, none⟩) hbl).trans (hc (f0 + k) (by omega)).2
          have hSk := HSG.out k (by omega)
          have hw0 := hwf (L.getD (f0 + k) (0, 0)) (getD_memM (by omega))
          have faL : ((f0 : Int) + (k : Int)) < (L.length : Int) := by omega
          have faL2 : ((f0 + k : Nat) : Int) < (L.length : Int) := by omega
          have hok := RES.out.2.2.2.1 k hlt
          rw [getD_of hSk] at hok
          have LP2 := dhid (LP.out.drewN nq)
          have hc2 := dhid (hc (f0 + k) (by omega)).1
          generalize L.getD (f0 + k) (0, 0) = pp at *
          obtain ⟨op, arg⟩ := pp
          simp only at x0 x1 hw0 hok
          clear hbw2 hc D1 D2 LP
          by_cases h8 : f2 = 8 ∧ k + 1 = f1
          · obtain ⟨q5, qo⟩ := RES.out.2.2.1 h8.1
            have hf1 : f1 - 1 = k := by omega
            simp only [hf1] at q5 qo
            rw [getD_of hSk] at q5
            rw [hMK.out] at qo
            simp only at q5 qo
            have hws : ws = [f4] := List.append_cancel_left qo
            subst hws q5
            have e8b : ((f2 : Int) == 8) = true := by rw [h8.1]; rfl
            have e9b : ((k : Int) + 1 == (f1 : Int)) = true := by rw [← h8.2]; simp
            have GP := dhid (fun (W : World) (M : Col → Pc) (m1 : Pm) (hq : LpS W M WB o1 o2 sp g3 c3 bs md w6.heap.size f0 m1) (hb9 : m1.bad = false) =>
              (show W.cell? ⟨b, off + (f0 + k) * 2, none⟩ = some (.int .u8 5) ∧ W.cell? ⟨w2.heap.size, 0, none⟩ = some (.int .u32 (f0 : Int)) ∧ W.cell? ⟨w2.heap.size, 4, none⟩ = some (.int .u32 (f4 : Int)) ∧ W.cell? ⟨o1, 259, none⟩ = some (.bool false) from
                ⟨((HR0.out.trans (hq.bel.mono HR0.out.size)).cell (p := ⟨b, off + (f0 + k) * 2, none⟩) hbl).trans (hc2.out), (fz_cells (f := ⟨f0, f1, f2, f3, f4, f5⟩) ((hq.bel.block w2.heap.size HBS.out).trans HBX.out)).1, (fz_cells (f := ⟨f0, f1, f2, f3, f4, f5⟩) ((hq.bel.block w2.heap.size HBS.out).trans HBX.out)).2.2.2.2.1, by rw [← hb9]; exact PlO.cbd hq.p1⟩))
            have gW := fun w' (hb : Below (wr.drewN nq).heap.size (wr.drewN nq) w') => GP.out w' _ _ (LP2.out.below hb) rfl
            have HP := dhid (fun W' (hb : Below (wr.drewN nq).heap.size (wr.drewN nq) W') => show Calls Try.prog 7 #[.pointer (some ⟨o1, 0, none⟩)] W' (fun e w' => e = .returned (.int .u32 (f4 : Int)) ∧ ∃ M', Hid (PlO w' M' 1 o1 sp ⟨bs, md, f0 + k, false⟩) ∧ Kx 1 M9 M') from
              (xpop (LP2.out.below hb).p1 (by simp) (by simp; omega)).mono fun e w' ⟨h1, M', h2, h3⟩ => ⟨by rw [h1]; simp only [gl1], M', by simpa only [List.dropLast_concat] using h2, h3⟩)
            have HBD := dhid (show Bd ⟨bs, md, f0 + k, false⟩ from ⟨hob2, hDb, LP2.out.bd.pc⟩)
            have HBL4 := dhid (show bs.length ≤ 35184372088832 by omega)
            have hnn : (0 : Int) ≤ (f0 : Int) + (k : Int) := by omega
            have hwi : IntKind.i64.wrap ((f0 : Int) + (k : Int)) = (f0 : Int) + (k : Int) := by rw [IntKind.wrap_i64]; omega
            generalize wr.drewN nq = W1 at *
            have HBb : Below W1.heap.size W1 W1 := Below.refl _ _
            obtain ⟨d0, d1, d2, d3, d4, d5⟩ := fz_cells (f := ⟨f0, f1, f2, f3, f4, f5⟩) ((LP2.out.bel.block w2.heap.size HBS.out).trans HBX.out)
            simp only at d0 d1 d2 d3 d4 d5
            clear x0 x1 c259 c258 b0 b1 b2 b3 b4 b5 hok hw0 hSk qo
            go_wp2
            obtain ⟨y0, y1, y2, y3⟩ := GP.out W1 _ _ LP2.out rfl
            have htn : ((f0 : Int) + (k : Int)).toNat = f0 + k := by omega
            clear hob2 hDb hbl2 hbl3 hwf hrb hE hae hlen2 fle fl1 ha he hn hcap hltI hlt hk hk8 d0 d1 d2 d3 d4 d5 fI1 fI2 fI3 hpc e8b e9b
            refine wp_region_held_drew (S := fun W => W.cell? ⟨b, off + (f0 + k) * 2, none⟩ = some (.int .u8 5) ∧ W.cell? ⟨w2.heap.size, 0, none⟩ = some (.int .u32 (f0 : Int)) ∧ W.cell? ⟨w2.heap.size, 4, none⟩ = some (.int .u32 (f4 : Int)) ∧ W.cell? ⟨o1, 259, none⟩ = some (.bool false)) (by kernel_rfl) ⟨y0, y1, y2, y3⟩ (fun hH => ?_)
            clear y0 y1 y2 y3
            refine wpAnyH_take (i := 0) (v := ?v0) rfl (by kernel_rfl) (by kernel_rfl) (by kernel_rfl) (fun _ _ _ h => h) (Or.inl ⟨by kernel_rfl, ?hy0⟩) hH ?rest0
            case hy0 => (intro w hSw; (try dsimp only at hSw); go_simp; try with_reducible rfl)
            try simp only [Act.put, List.setIfInBounds_toArray, List.set_cons_zero, List.set_cons_succ]
            refine wpAnyH_take (i := 1) (v := ?v1) rfl (by kernel_rfl) (by kernel_rfl) (by kernel_rfl) (fun _ _ _ h => h) (Or.inl ⟨by kernel_rfl, ?hy1⟩) hH ?rest1
            case hy1 => (intro w hSw; (try dsimp only at hSw); go_simp; try with_reducible rfl)
            try simp only [Act.put, List.setIfInBounds_toArray, List.set_cons_zero, List.set_cons_succ]
            refine wpAnyH_take (i := 2) (v := ?v2) rfl (by kernel_rfl) (by kernel_rfl) (by kernel_rfl) (fun _ _ _ h => h) (Or.inl ⟨by kernel_rfl, ?hy2⟩) hH ?rest2
            case hy2 => (intro w hSw; (try dsimp only at hSw); go_simp; try with_reducible rfl)
            try simp only [Act.put, List.setIfInBounds_toArray, List.set_cons_zero, List.set_cons_succ]
            refine wpAnyH_take (i := 3) (v := ?v3) rfl (by kernel_rfl) (by kernel_rfl) (by kernel_rfl) (fun _ _ _ h => h) (Or.inl ⟨by kernel_rfl, ?hy3⟩) hH ?rest3
            case hy3 => (intro w hSw; (try dsimp only at hSw); go_simp; try with_reducible rfl)
            try simp only [Act.put, List.setIfInBounds_toArray, List.set_cons_zero, List.set_cons_succ]
            refine wpAnyH_take (i := 4) (v := ?v4) rfl (by kernel_rfl) (by kernel_rfl) (by kernel_rfl) (fun _ _ _ h => h) (Or.inl ⟨by kernel_rfl, ?hy4⟩) hH ?rest4
            case hy4 => (intro w hSw; (try dsimp only at hSw); go_simp; try with_reducible rfl)
            try simp only [Act.put, List.setIfInBounds_toArray, List.set_cons_zero, List.set_cons_succ]
            refine wpAnyH_take (i := 5) (v := ?v5) rfl (by kernel_rfl) (by kernel_rfl) (by kernel_rfl) (fun _ _ _ h => h) (Or.inl ⟨by kernel_rfl, ?hy5⟩) hH ?rest5
            case hy5 => (intro w hSw; (try dsimp only at hSw); go_simp; try with_reducible rfl)
            try simp only [Act.put, List.setIfInBounds_toArray, List.set_cons_zero, List.set_cons_succ]
            refine wpAnyH_take (i := 6) (v := ?v6) rfl (by kernel_rfl) (by kernel_rfl) (by kernel_rfl) (fun _ _ _ h => h) (Or.inl ⟨by kernel_rfl, ?hy6⟩) hH ?rest6
            case hy6 => (intro w hSw; (try dsimp only at hSw); go_simp; try with_reducible rfl)
            try simp only [Act.put, List.setIfInBounds_toArray, List.set_cons_zero, List.set_cons_succ]
            refine wpAnyH_take (i := 7) (v := ?v7) rfl (by kernel_rfl) (by kernel_rfl) (by kernel_rfl) (fun _ _ _ h => h) (Or.inl ⟨by kernel_rfl, ?hy7⟩) hH ?rest7
            case hy7 => (intro w hSw; (try dsimp only at hSw); go_simp; try with_reducible rfl)
            try simp only [Act.put, List.setIfInBounds_toArray, List.set_cons_zero, List.set_cons_succ]
            refine wpAnyH_take (i := 8) (v := ?v8) rfl (by kernel_rfl) (by kernel_rfl) (by kernel_rfl) (fun _ _ _ h => h) (Or.inl ⟨by kernel_rfl, ?hy8⟩) hH ?rest8
            case hy8 => (intro w hSw; (try dsimp only at hSw); go_simp; try with_reducible rfl)
            try simp only [Act.put, List.setIfInBounds_toArray, List.set_cons_zero, List.set_cons_succ]
            refine wpAnyH_take (i := 9) (v := ?v9) rfl (by kernel_rfl) (by kernel_rfl) (by kernel_rfl) (fun _ _ _ h => h) (Or.inl ⟨by kernel_rfl, ?hy9⟩) hH ?rest9
            case hy9 => (intro w hSw; (try dsimp only at hSw); go_simp; try with_reducible rfl)
            try simp only [Act.put, List.setIfInBounds_toArray, List.set_cons_zero, List.set_cons_succ]
            refine wpAnyH_take (i := 10) (v := ?v10) rfl (by kernel_rfl) (by kernel_rfl) (by kernel_rfl) (fun _ _ _ h => h) (Or.inl ⟨by kernel_rfl, ?hy10⟩) hH ?rest10
            case hy10 => (intro w hSw; (try dsimp only at hSw); go_simp; try with_reducible rfl)
            try simp only [Act.put, List.setIfInBounds_toArray, List.set_cons_zero, List.set_cons_succ]
            refine wpAnyH_take (i := 11) (v := ?v11) rfl (by kernel_rfl) (by kernel_rfl) (by kernel_rfl) (fun _ _ _ h => h) (Or.inl ⟨by kernel_rfl, ?hy11⟩) hH ?rest11
            case hy11 => (intro w hSw; (try dsimp only at hSw); go_simp; try with_reducible rfl)
            try simp only [Act.put, List.setIfInBounds_toArray, List.set_cons_zero, List.set_cons_succ]
            refine wpAnyH_take (i := 13) (v := ?v13) rfl (by kernel_rfl) (by kernel_rfl) (by kernel_rfl) (fun _ _ _ h => h) (Or.inl ⟨by kernel_rfl, ?hy13⟩) hH ?rest13
            case hy13 => (intro w hSw; (try dsimp only at hSw); go_simp; try with_reducible rfl)
            try simp only [Act.put, List.setIfInBounds_toArray, List.set_cons_zero, List.set_cons_succ]
            refine wpAnyH_take (i := 14) (v := ?v14) rfl (by kernel_rfl) (by kernel_rfl) (by kernel_rfl) (fun _ _ _ h => h) (Or.inl ⟨by kernel_rfl, ?hy14⟩) hH ?rest14
            case hy14 => (intro w hSw; (try dsimp only at hSw); go_simp; try with_reducible rfl)
            try simp only [Act.put, List.setIfInBounds_toArray, List.set_cons_zero, List.set_cons_succ]
            refine wpAnyH_ready (rs := [12]) (by kernel_rfl) (by simp) ?_
            refine AllReadyH.cons rfl (fun K hK => ?_) AllReadyH.nil
            go_simp
            refine (HP.out _ ((Below.refl _ _).drew)).mono ?_
            rintro e w4 ⟨rfl, M', hp, hk'⟩
            have LP3 := dhid (LP2.out.step hp hk' HBD.out)
            obtain ⟨g9, c9, s9, r9⟩ := PlO.rdB LP3.out.p1
            simp only at s9 r9
            have HSW := dhid (fun W' (hb : Below w4.heap.size w4 W') => sw_true g9 (some ⟨g3, 0, none⟩) c9 c3 bs W' HBL4.out (r9 W' hb) (LP3.out.below hb).words)
            have h41 := GP.out w4 _ _ LP3.out rfl
            refine hK.out _ _ h41 (fun _ => ?_)
            clear hK gW r9
            try simp only [Act.put, List.setIfInBounds_toArray, List.set_cons_zero, List.set_cons_succ]
            refine wpAnyH_monoS (S' := fun W => (W.cell? ⟨b, off + (f0 + k) * 2, none⟩ = some (.int .u8 5) ∧ W.cell? ⟨w2.heap.size, 0, none⟩ = some (.int .u32 (f0 : Int)) ∧ W.cell? ⟨w2.heap.size, 4, none⟩ = some (.int .u32 (f4 : Int)) ∧ W.cell? ⟨o1, 259, none⟩ = some (.bool false)) ∧ W.cell? ⟨o1, 1, none⟩ = some (.slice g9 bs.length c9)) (fun _ h => h.1) _ _ _ _ ?_
            have hH2 : (fun W : World => (W.cell? ⟨b, off + (f0 + k) * 2, none⟩ = some (.int .u8 5) ∧ W.cell? ⟨w2.heap.size, 0, none⟩ = some (.int .u32 (f0 : Int)) ∧ W.cell? ⟨w2.heap.size, 4, none⟩ = some (.int .u32 (f4 : Int)) ∧ W.cell? ⟨o1, 259, none⟩ = some (.bool false)) ∧ W.cell? ⟨o1, 1, none⟩ = some (.slice g9 bs.length c9)) w4 := ⟨h41, s9⟩
            clear h41 s9
            refine wpAnyH_take (i := 15) (v := ?v15) rfl (by kernel_rfl) (by kernel_rfl) (by kernel_rfl) (fun _ _ _ h => h) (Or.inl ⟨by kernel_rfl, ?hy15⟩) hH2 ?rest15
            case hy15 => (intro w hSw; (try dsimp only at hSw); go_simp; try with_reducible rfl)
            try simp only [Act.put, List.setIfInBounds_toArray, List.set_cons_zero, List.set_cons_succ]
            refine wpAnyH_take (i := 16) (v := ?v16) rfl (by kernel_rfl) (by kernel_rfl) (by kernel_rfl) (fun _ _ _ h => h) (Or.inl ⟨by kernel_rfl, ?hy16⟩) hH2 ?rest16
            case hy16 => (intro w hSw; (try dsimp only at hSw); go_simp; try with_reducible rfl)
            try simp only [Act.put, List.setIfInBounds_toArray, List.set_cons_zero, List.set_cons_succ]
            refine wpAnyH_take (i := 17) (v := ?v17) rfl (by kernel_rfl) (by kernel_rfl) (by kernel_rfl) (fun _ _ _ h => h) (Or.inl ⟨by kernel_rfl, ?hy17⟩) hH2 ?rest17
            case hy17 => (intro w hSw; (try dsimp only at hSw); go_simp; try with_reducible rfl)
            try simp only [Act.put, List.setIfInBounds_toArray, List.set_cons_zero, List.set_cons_succ]
            refine wpAnyH_take (i := 18) (v := ?v18) rfl (by kernel_rfl) (by kernel_rfl) (by kernel_rfl) (fun _ _ _ h => h) (Or.inl ⟨by kernel_rfl, ?hy18⟩) hH2 ?rest18
            case hy18 => (intro w hSw; (try dsimp only at hSw); go_simp; try with_reducible rfl)
            try simp only [Act.put, List.setIfInBounds_toArray, List.set_cons_zero, List.set_cons_succ]
            refine wpAnyH_take (i := 19) (v := ?v19) rfl (by kernel_rfl) (by kernel_rfl) (by kernel_rfl) (fun _ _ _ h => h) (Or.inl ⟨by kernel_rfl, ?hy19⟩) hH2 ?rest19
            case hy19 => (intro w hSw; (try dsimp only at hSw); go_simp; try with_reducible rfl)
            try simp only [Act.put, List.setIfInBounds_toArray, List.set_cons_zero, List.set_cons_succ]
            refine wpAnyH_take (i := 20) (v := ?v20) rfl (by kernel_rfl) (by kernel_rfl) (by kernel_rfl) (fun _ _ _ h => h) (Or.inl ⟨by kernel_rfl, ?hy20⟩) hH2 ?rest20
            case hy20 => (intro w hSw; (try dsimp only at hSw); go_simp; try with_reducible rfl)
            try simp only [Act.put, List.setIfInBounds_toArray, List.set_cons_zero, List.set_cons_succ]
            refine wpAnyH_take (i := 21) (v := ?v21) rfl (by kernel_rfl) (by kernel_rfl) (by kernel_rfl) (fun _ _ _ h => h) (Or.inl ⟨by kernel_rfl, ?hy21⟩) hH2 ?rest21
            case hy21 => (intro w hSw; (try dsimp only at hSw); go_simp; try with_reducible rfl)
            try simp only [Act.put, List.setIfInBounds_toArray, List.set_cons_zero, List.set_cons_succ]
            refine wpAnyH_take (i := 22) (v := ?v22) rfl (by kernel_rfl) (by kernel_rfl) (by kernel_rfl) (fun _ _ _ h => h) (Or.inl ⟨by kernel_rfl, ?hy22⟩) hH2 ?rest22
            case hy22 => (intro w hSw; (try dsimp only at hSw); go_simp; try with_reducible rfl)
            try simp only [Act.put, List.setIfInBounds_toArray, List.set_cons_zero, List.set_cons_succ]
            refine wpAnyH_take (i := 23) (v := ?v23) rfl (by kernel_rfl) (by kernel_rfl) (by kernel_rfl) (fun _ _ _ h => h) (Or.inl ⟨by kernel_rfl, ?hy23⟩) hH2 ?rest23
            case hy23 => (intro w hSw; (try dsimp only at hSw); go_simp; try with_reducible rfl)
            try simp only [Act.put, List.setIfInBounds_toArray, List.set_cons_zero, List.set_cons_succ]
            refine wpAnyH_take (i := 24) (v := ?v24) rfl (by kernel_rfl) (by kernel_rfl) (by kernel_rfl) (fun _ _ _ h => h) (Or.inl ⟨by kernel_rfl, ?hy24⟩) hH2 ?rest24
            case hy24 => (intro w hSw; (try dsimp only at hSw); go_simp; try with_reducible rfl)
            try simp only [Act.put, List.setIfInBounds_toArray, List.set_cons_zero, List.set_cons_succ]
            refine wpAnyH_take (i := 25) (v := ?v25) rfl (by kernel_rfl) (by kernel_rfl) (by kernel_rfl) (fun _ _ _ h => h) (Or.inl ⟨by kernel_rfl, ?hy25⟩) hH2 ?rest25
            case hy25 => (intro w hSw; (try dsimp only at hSw); go_simp; try with_reducible rfl)
            try simp only [Act.put, List.setIfInBounds_toArray, List.set_cons_zero, List.set_cons_succ]
            refine wpAnyH_take (i := 26) (v := ?v26) rfl (by kernel_rfl) (by kernel_rfl) (by kernel_rfl) (fun _ _ _ h => h) (Or.inl ⟨by kernel_rfl, ?hy26⟩) hH2 ?rest26
            case hy26 => (intro w hSw; (try dsimp only at hSw); go_simp; try with_reducible rfl)
            try simp only [Act.put, List.setIfInBounds_toArray, List.set_cons_zero, List.set_cons_succ]
            refine wpAnyH_take (i := 27) (v := ?v27) rfl (by kernel_rfl) (by kernel_rfl) (by kernel_rfl) (fun _ _ _ h => h) (Or.inl ⟨by kernel_rfl, ?hy27⟩) hH2 ?rest27
            case hy27 => (intro w hSw; (try dsimp only at hSw); go_simp; try with_reducible rfl)
            try simp only [Act.put, List.setIfInBounds_toArray, List.set_cons_zero, List.set_cons_succ]
            refine wpAnyH_take (i := 28) (v := ?v28) rfl (by kernel_rfl) (by kernel_rfl) (by kernel_rfl) (fun _ _ _ h => h) (Or.inl ⟨by kernel_rfl, ?hy28⟩) hH2 ?rest28
            case hy28 => (intro w hSw; (try dsimp only at hSw); go_simp; try with_reducible rfl)
            try simp only [Act.put, List.setIfInBounds_toArray, List.set_cons_zero, List.set_cons_succ]
            refine wpAnyH_take (i := 29) (v := ?v29) rfl (by kernel_rfl) (by kernel_rfl) (by kernel_rfl) (fun _ _ _ h => h) (Or.inl ⟨by kernel_rfl, ?hy29⟩) hH2 ?rest29
            case hy29 => (intro w hSw; (try dsimp only at hSw); go_simp; try with_reducible rfl)
            try simp only [Act.put, List.setIfInBounds_toArray, List.set_cons_zero, List.set_cons_succ]
            refine wpAnyH_ready (rs := [30]) (by kernel_rfl) (by simp) ?_
            refine AllReadyH.cons rfl (fun K hK => ?_) AllReadyH.nil
            go_simp
            refine (HSW.out _ (Below.refl _ _)).mono ?_
            rintro e w5 ⟨rfl, n5, rfl⟩
            refine hK.out _ _ (show (fun W : World => (W.cell? ⟨b, off + (f0 + k) * 2, none⟩ = some (.int .u8 5) ∧ W.cell? ⟨w2.heap.size, 0, none⟩ = some (.int .u32 (f0 : Int)) ∧ W.cell? ⟨w2.heap.size, 4, none⟩ = some (.int .u32 (f4 : Int)) ∧ W.cell? ⟨o1, 259, none⟩ = some (.bool false)) ∧ W.cell? ⟨o1, 1, none⟩ = some (.slice g9 bs.length c9)) (w4.drewN n5) from hH2) (fun hH3 => ?_)
            clear hK
            try simp only [Act.put, List.setIfInBounds_toArray, List.set_cons_zero, List.set_cons_succ]
            refine wpAnyH_take (i := 31) (v := ?v31) rfl (by kernel_rfl) (by kernel_rfl) (by kernel_rfl) (fun _ _ _ h => h) (Or.inl ⟨by kernel_rfl, ?hy31⟩) hH3 ?rest31
            case hy31 => (intro w hSw; (try dsimp only at hSw); go_simp; try with_reducible rfl)
            try simp only [Act.put, List.setIfInBounds_toArray, List.set_cons_zero, List.set_cons_succ]
            refine wpAnyH_take (i := 32) (v := ?v32) rfl (by kernel_rfl) (by kernel_rfl) (by kernel_rfl) (fun _ _ _ h => h) (Or.inl ⟨by kernel_rfl, ?hy32⟩) hH3 ?rest32
            case hy32 => (intro w hSw; (try dsimp only at hSw); go_simp; try with_reducible rfl)
            try simp only [Act.put, List.setIfInBounds_toArray, List.set_cons_zero, List.set_cons_succ]
            refine wpAnyH_done (by kernel_rfl) ?_ _
            go_wp2
            go_ret
            exact ⟨rfl, bel_drewN (HR0.out.trans (LP3.out.bel.mono HR0.out.size)) _⟩
          · have hok2 := hok (fun e => by omega)
            have hlw1 : 2 ≤ (bs ++ ws).length := by rw [List.length_append]; omega
            have hlw2 : (bs ++ ws).length ≤ 35184372088800 := by rw [List.length_append]; omega
            have HT := dhid (xtake LP2.out.p1 (by decide) LP2.out.n9 LP2.out.bd op arg hw0.1 hok2 hlw1 hlw2)
            have hki : ((k : Int) + 1) % 4294967296 = ((k + 1 : Nat) : Int) := by omega
            have hSKh := dhid hSk
            have hW0 := dhid hw0
            have HK8 := dhid hk8
            clear hSk hw0 hok hok2 hk8
            by_cases e8 : f2 = 8
            · have h9 : ¬ k + 1 = f1 := fun e => h8 ⟨e8, e⟩
              have e8b : ((f2 : Int) == 8) = true := by rw [e8]; rfl
              have E8 := dhid e8
              clear h8 e8
              have hne : ((k : Int) + 1 == (f1 : Int)) = false := beq_eq_false_iff_ne.2 (by omega)
              go_wp2_with fail
              refine HT.out.mono ?_
              rintro ev w9 ⟨rfl, M', hp, hk'⟩
              go_wp2
              go_roundw
              case rel => exact ⟨k + 1, M', by omega, fun _ => by omega, by go_num, by rw [take_snocM hSKh.out, rn_app, hMK.out, rn_cons, rn_nil]; exact dhid (LP2.out.step hp hk' (tkV_bd LP2.out.bd hW0.out.2))⟩
              case measure => simp [intOf]; omega
            · have i8 : ¬ (f2 : Int) = 8 := by omega
              go_wp2_with fail
              refine HT.out.mono ?_
              rintro ev w9 ⟨rfl, M', hp, hk'⟩
              go_wp2
              go_roundw
              case rel => exact ⟨k + 1, M', by omega, fun e => absurd e e8, by go_num, by rw [take_snocM hSKh.out, rn_app, hMK.out, rn_cons, rn_nil]; exact dhid (LP2.out.step hp hk' (tkV_bd LP2.out.bd hW0.out.2))⟩
              case measure => simp [intOf]; omega
        · have hke : k = f1 := by omega
          have hk2 : ¬ f2 = 8 := fun e9 => hlt (hk8 e9)
          have hltI : ¬ (k : Int) < (f1 : Int) := by omega
          have i8 : ((f2 : Int) == 8) = false := beq_eq_false_iff_ne.2 (by omega)
          have hRE := RES.out.2.1 hk2
          simp only at hRE
          rw [hke, hRE] at LP
          have hT := dhid (xthing LP.out.p2 (by decide) LP.out.n9 ⟨hob2, hDb, ha⟩ f0 f1 f2 f3 f4 f5 FZB.out RES.out.2.2.2.2.2.2.1 RES.out.2.2.2.2.2.2.2 hk2 hbl3 (by simp only; omega))
          have hTL := thV_lenM sp f0 f1 f2 f3 f4 f5 ⟨bs, D, f0, false⟩ RES.out.2.2.2.2.2.2.1 RES.out.2.2.2.2.2.2.2 hk2
          simp only at hTL
          have HTL : (thV sp ⟨f0, f1, f2, f3, f4, f5⟩ ⟨bs, D, f0, false⟩).ops.length ≤ 35184372088832 := by omega
          clear hbx hbw hRE hTL hke hk hk8
          go_wp2_with fail
          refine hT.out.mono ?_
          rintro ev w9 ⟨rfl, M', hp2, hk'⟩
          have P1 := PlO.keep LP.out.p1 hp2.out.1 (hk' _ (by simp) (by simp)) (hk' _ (by simp) (by simp))
          have hB9 := dhid (HR0.out.trans ((stt_out hp2.out.1 ((hk' (0, 0) (by simp) (by simp)).trans LP.out.n0)).mono HR0.out.size))
          have HSM := dhid (same_any P1 hp2 HTL)
          clear b0 b1 b2 b3 b4 b5 hT LP hp2 P1 HTL
          go_wp2_with fail
          refine HSM.out.mono ?_
          rintro ev w10 ⟨rfl, n9, rfl⟩
          go_wp2
          go_ret
          exact ⟨rfl, bel_drewN hB9.out _⟩
  · rw [flV_bad hE]
    have hEI : ¬ ((flE L a e : Nat) : Int) = 0 := by omega
    have hbd : Below w.heap.size w w2 := RR.out
    generalize ((flE L a e : Nat) : Int) = er at *
    simp only [fz0, fzA] at *
    go_wp2
    go_ret
    exact ⟨rfl, hbd.alloc hbd.size _⟩
end Go.Proofs.Ytonmoidalkcmoaa
