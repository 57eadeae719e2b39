import Derived.Test.YtonmoidalkcmoaaCZMg
namespace Go.Proofs.Ytonmoidalkcmoaa
open Go.RowKit Go.WideShapes
set_option maxRecDepth 100000
set_option linter.unusedVariables false
set_option linter.unusedSimpArgs false
theorem take_1 {M : List (Nat × Nat)} {q : Nat × Nat} (h : M[0]? = some q) : M.take 1 = [q] := by rw [take_snocM (n := 0) h]; rfl
theorem take_2 {M : List (Nat × Nat)} {q0 q1 : Nat × Nat} (h : M[0]? = some q0) (h1 : M[1]? = some q1) : M.take 2 = [q0, q1] := by rw [take_snocM (n := 1) h1, take_1 h]; rfl
theorem take_3 {M : List (Nat × Nat)} {q0 q1 q2 : Nat × Nat} (h : M[0]? = some q0) (h1 : M[1]? = some q1) (h2 : M[2]? = some q2) : M.take 3 = [q0, q1, q2] := by rw [take_snocM (n := 2) h2, take_2 h h1]; rfl
theorem mid_0 {base D : List Nat} {a : Nat} : Mid base D a 0 ⟨base, D, a, false⟩ := ⟨rfl, rfl, rfl, [], by simp, by simp⟩
theorem tab_nd : ∀ op, op < 256 → dBin op = true → divB op = false → binE op 1 = 0 ∧ ¬ (op = 42 ∨ op = 43 ∨ op = 44 ∨ op = 45) := by decide +kernel
theorem nd_0 {op : Nat} (h1 : binE op 1 = 0) (h2 : ¬ (op = 42 ∨ op = 43 ∨ op = 44 ∨ op = 45)) (b : Nat) : binE op b = 0 := by
  unfold binE at *
  rw [if_neg h2] at *
  exact h1
theorem res_loc2 {sp a k : Nat} {base D : List Nat} {M : List (Nat × Nat)} {q0 q1 : Nat × Nat} {f : Fz} (hwf : Wfc M) (hk : k = 11 ∨ k = 12) (h0 : M[0]? = some q0) (h1 : M[1]? = some q1) (h2 : f.len = 2) (hd : dsL k a q0 q1 (0, 0) = some f) (hp : a + 2 < 4294967296) : Res sp base D M a f := by
  have hl : 2 ≤ M.length := (List.getElem?_eq_some_iff.1 h1).1
  have hq1 : q1.1 < 256 := (hwf q1 (List.mem_of_getElem? h1)).1
  unfold dsL at hd
  by_cases h9 : q0.1 = 9
  · rw [if_neg (fun e => e h9)] at hd
    have hq0 : q0 = (9, q0.2) := by rw [← h9]
    have e1 : rn sp (M.take 1) ⟨base, D, a, false⟩ = ⟨base ++ [(sp + q0.2) % 4294967296], D, a + 1, false⟩ := by
      rw [take_1 h0, rn_cons, rn_nil, hq0, tk_loc, Nat.mod_eq_of_lt (show a + 1 < 4294967296 by omega)]
    have e2 : rn sp (M.take 2) ⟨base, D, a, false⟩ = tkV sp (q1.1, q1.2) ⟨base ++ [(sp + q0.2) % 4294967296], D, a + 1, false⟩ := by
      rw [← e1, take_2 h0 h1, take_1 h0]; rfl
    have hm : ∀ i, i < 2 → Mid base D a i (rn sp (M.take i) ⟨base, D, a, false⟩) := fun i hi => by
      match i, hi with
      | 0, _ => exact mid_0
      | 1, _ => rw [e1]; exact ⟨rfl, rfl, rfl, _, rfl, by simp⟩
    have hok : tkOk q1.1 → ∀ i, i < 2 → tkOk (M.getD i (0, 0)).1 := fun h i hi => by
      match i, hi with
      | 0, _ => rw [getD_of h0, h9]; exact ok_9
      | 1, _ => rw [getD_of h1]; exact h
    rcases hk with rfl | rfl
    · rw [if_pos rfl] at hd
      split at hd
      · rename_i hx; cases hd
        refine ⟨hm, fun _ => ?_, fun e => absurd e (by simp), fun i hi _ => hok (by rw [hx]; exact ok_12) i hi, rfl, hl, by simp, by simp⟩
        simp only
        rw [e2, hx, tk_arg, thV_11]
      · cases hd
    · rw [if_neg (by decide), if_pos rfl] at hd
      split at hd
      · rename_i hx; cases hd
        have t1 := tab_dl q1.1 hq1 hx
        refine ⟨hm, fun _ => ?_, fun e => absurd e (by simp), fun i hi _ => hok (ok_ldM t1) i hi, rfl, hl, by simp, by simp⟩
        simp only
        rw [e2, tk_ld t1.1 t1.2, thV_12]
      · cases hd
  · rw [if_pos h9] at hd; cases hd
theorem res_loc3 {sp a k : Nat} {base D : List Nat} {M : List (Nat × Nat)} {q0 q1 q2 : Nat × Nat} {f : Fz} (hwf : Wfc M) (hb : 2 ≤ base.length) (hk : k = 13 ∨ k = 14) (h0 : M[0]? = some q0) (h1 : M[1]? = some q1) (h2 : M[2]? = some q2) (hd : dsL k a q0 q1 q2 = some f) (hp : a + 3 < 4294967296) : Res sp base D M a f := by
  have hl : 3 ≤ M.length := (List.getElem?_eq_some_iff.1 h2).1
  have hq2 : q2.1 < 256 := (hwf q2 (List.mem_of_getElem? h2)).1
  unfold dsL at hd
  by_cases h9 : q0.1 = 9
  · rw [if_neg (fun e => e h9)] at hd
    have hq0 : q0 = (9, q0.2) := by rw [← h9]
    obtain ⟨s, hs⟩ : ∃ s, (sp + q0.2) % 4294967296 = s := ⟨_, rfl⟩
    have e1 : rn sp (M.take 1) ⟨base, D, a, false⟩ = ⟨base ++ [s], D, a + 1, false⟩ := by
      rw [take_1 h0, rn_cons, rn_nil, hq0, tk_loc, Nat.mod_eq_of_lt (show a + 1 < 4294967296 by omega), hs]
    have e2 : q1.1 = 31 → rn sp (M.take 2) ⟨base, D, a, false⟩ = ⟨base ++ [ldV D s 4], D, a + 2, false⟩ := fun e => by
      have : rn sp (M.take 2) ⟨base, D, a, false⟩ = tkV sp (q1.1, q1.2) ⟨base ++ [s], D, a + 1, false⟩ := by rw [← e1, take_2 h0 h1, take_1 h0]; rfl
      rw [this, e, tk_ld (by decide) (by decide), Nat.mod_eq_of_lt (show a + 1 + 1 < 4294967296 by omega)]
      rfl
    have e3 : q1.1 = 31 → rn sp (M.take 3) ⟨base, D, a, false⟩ = tkV sp (q2.1, q2.2) ⟨base ++ [ldV D s 4], D, a + 2, false⟩ := fun e => by
      rw [← e2 e, take_3 h0 h1 h2, take_2 h0 h1]; rfl
    have hm : q1.1 = 31 → ∀ i, i < 3 → Mid base D a i (rn sp (M.take i) ⟨base, D, a, false⟩) := fun e i hi => by
      match i, hi with
      | 0, _ => exact mid_0
      | 1, _ => rw [e1]; exact ⟨rfl, rfl, rfl, _, rfl, by simp⟩
      | 2, _ => rw [e2 e]; exact ⟨rfl, rfl, rfl, _, rfl, by simp⟩
    have hok : q1.1 = 31 → tkOk q2.1 → ∀ i, i < 3 → tkOk (M.getD i (0, 0)).1 := fun e h i hi => by
      match i, hi with
      | 0, _ => rw [getD_of h0, h9]; exact ok_9
      | 1, _ => rw [getD_of h1, e]; exact ok_ldM (by decide)
      | 2, _ => rw [getD_of h2]; exact h
    obtain ⟨b, z, rfl⟩ := base_cut hb
    have hbz : b ++ [z] ++ [ldV D s 4] = b ++ [z, ldV D s 4] := by simp
    rcases hk with rfl | rfl
    · rw [if_neg (by decide), if_neg (by decide), if_pos rfl] at hd
      split at hd
      · rename_i hx; cases hd
        obtain ⟨t1, t2⟩ := tab_db q2.1 hq2 hx.2
        refine ⟨hm hx.1, fun _ => ?_, fun e => absurd e (by simp), fun i hi _ => hok hx.1 (ok_biM t2) i hi, rfl, hl, by simp, by simp⟩
        simp only
        rw [e3 hx.1, hbz, tk_bin t1 t2, thV_13, hs]
        simp only [List.dropLast_concat, gl1]
      · cases hd
    · rw [if_neg (by decide), if_neg (by decide), if_neg (by decide)] at hd
      split at hd
      · rename_i hx; cases hd
        have t1 := tab_dbr q2.1 hq2 hx.2
        refine ⟨hm hx.1, fun _ => ?_, fun e => absurd e (by simp), fun i hi _ => hok hx.1 (ok_brM t1) i hi, rfl, hl, by simp, by simp⟩
        simp only
        rw [e3 hx.1, hbz, tk_cmp hq2 t1, thV_14, hs]
        simp only [List.dropLast_concat, gl1]
      · cases hd
  · rw [if_pos h9] at hd; cases hd
theorem res_bump {sp a c v : Nat} {base D : List Nat} {M : List (Nat × Nat)} {q0 q2 qo ql : Nat × Nat} (hwf : Wfc M) (h0 : M[0]? = some q0) (h1 : M[1]? = some q0) (h2 : M[2]? = some q2) (hc : cnO ((M.drop 3).take c) = some v) (ho : M[3 + c]? = some qo) (hl : M[4 + c]? = some ql) (k0 : q0.1 = 9) (k2 : q2.1 = 31) (kd : dBin qo.1 = true) (kn : divB qo.1 = false) (kl : ql.1 = 34) (hp : a + (5 + c) < 4294967296) : Res sp base D M a ⟨a, 5 + c, 15, qo.1, q0.2, v⟩ := by
  have hml : 5 + c ≤ M.length := by have := (List.getElem?_eq_some_iff.1 hl).1; omega
  have hq0 : q0 = (9, q0.2) := by rw [← k0]
  have hqo : qo.1 < 256 := (hwf qo (List.mem_of_getElem? ho)).1
  obtain ⟨t1, t2⟩ := tab_db qo.1 hqo kd
  obtain ⟨n1, n2⟩ := tab_nd qo.1 hqo kd kn
  have hz := nd_0 n1 n2 v
  obtain ⟨s, hs⟩ : ∃ s, (sp + q0.2) % 4294967296 = s := ⟨_, rfl⟩
  have hr := plD_word _ _ _ (cnO_some.1 hc).2.2
  have hdl : ((M.drop 3).take c).length = c := by rw [List.length_take, List.length_drop]; omega
  have hdw : ∀ p ∈ (M.drop 3).take c, p.1 < 256 := fun p hp => (hwf p (List.mem_of_mem_drop (List.mem_of_mem_take hp))).1
  have e1 : rn sp (M.take 1) ⟨base, D, a, false⟩ = ⟨base ++ [s], D, a + 1, false⟩ := by
    rw [take_1 h0, rn_cons, rn_nil, hq0, tk_loc, Nat.mod_eq_of_lt (show a + 1 < 4294967296 by omega), hs]
  have e2 : rn sp (M.take 2) ⟨base, D, a, false⟩ = ⟨base ++ [s, s], D, a + 2, false⟩ := by
    have : rn sp (M.take 2) ⟨base, D, a, false⟩ = tkV sp q0 ⟨base ++ [s], D, a + 1, false⟩ := by rw [← e1, take_2 h0 h1, take_1 h0]; rfl
    rw [this, hq0, tk_loc, Nat.mod_eq_of_lt (show a + 1 + 1 < 4294967296 by omega), hs, List.append_assoc]
    rfl
  have e3 : rn sp (M.take 3) ⟨base, D, a, false⟩ = ⟨(base ++ [s]) ++ [ldV D s 4], D, a + 3, false⟩ := by
    have : rn sp (M.take 3) ⟨base, D, a, false⟩ = tkV sp (q2.1, q2.2) ⟨base ++ [s, s], D, a + 2, false⟩ := by rw [← e2, take_3 h0 h1 h2, take_2 h0 h1]; rfl
    rw [this, k2, show base ++ [s, s] = (base ++ [s]) ++ [s] by simp, tk_ld (by decide) (by decide), Nat.mod_eq_of_lt (show a + 2 + 1 < 4294967296 by omega)]
    rfl
  have e3j : ∀ j, j ≤ c → ∃ wi, wi.length ≤ 64 ∧ (j = c → wi = [v]) ∧ rn sp (M.take (3 + j)) ⟨base, D, a, false⟩ = ⟨((base ++ [s]) ++ [ldV D s 4]) ++ wi, D, a + 3 + j, false⟩ := fun j hj => by
    obtain ⟨wi, w1, w2⟩ := plR_take _ [] _ j hr (by simp)
    have hlj : (((M.drop 3).take c).take j).length = j := by rw [List.length_take, hdl]; omega
    refine ⟨wi, w2, fun e => ?_, ?_⟩
    · rw [List.take_of_length_le (by rw [hdl]; omega), hr] at w1
      cases w1; rfl
    · have hrn := rn_plR (sp := sp) (base := (base ++ [s]) ++ [ldV D s 4]) (D := D) (((M.drop 3).take c).take j) [] wi (a + 3) w1 (fun p hp => hdw p (List.mem_of_mem_take hp)) (by rw [hlj]; omega)
      rw [List.append_nil, hlj] at hrn
      rw [List.take_add, rn_app, e3, ← hrn, List.take_take, Nat.min_eq_left hj]
  have e4 : rn sp (M.take (4 + c)) ⟨base, D, a, false⟩ = ⟨base ++ [s, binV qo.1 (ldV D s 4) v], D, a + (4 + c), false⟩ := by
    obtain ⟨wi, _, w2, w3⟩ := e3j c (Nat.le_refl _)
    rw [w2 rfl] at w3
    rw [show 4 + c = (3 + c) + 1 by omega, take_snocM ho, rn_app, w3, rn_cons, rn_nil, show qo = (qo.1, qo.2) from rfl, show ((base ++ [s]) ++ [ldV D s 4]) ++ [v] = (base ++ [s]) ++ [ldV D s 4, v] by simp, tk_bin t1 t2, Nat.mod_eq_of_lt (show a + 3 + c + 1 < 4294967296 by omega), hz, show a + (3 + c + 1) = a + 3 + c + 1 by omega]
    simp
  refine ⟨fun i hi => ?_, fun _ => ?_, fun e => absurd e (by simp), fun i hi _ => ?_, rfl, hml, by simp, by simp⟩
  · simp only at hi
    by_cases i3 : i < 3
    · match i, i3 with
      | 0, _ => exact mid_0
      | 1, _ => rw [e1]; exact ⟨rfl, rfl, rfl, _, rfl, by simp⟩
      | 2, _ => rw [e2]; exact ⟨rfl, rfl, rfl, _, rfl, by simp⟩
    · by_cases i4 : i = 4 + c
      · subst i4
        rw [e4]; exact ⟨rfl, rfl, rfl, _, rfl, by simp⟩
      · obtain ⟨j, rfl⟩ : ∃ j, i = 3 + j := ⟨i - 3, by omega⟩
        obtain ⟨wi, w1, _, w3⟩ := e3j j (by omega)
        rw [w3]
        exact ⟨rfl, rfl, by simp only; omega, s :: ldV D s 4 :: wi, by simp, by simp; omega⟩
  · simp only
    rw [show 5 + c = (4 + c) + 1 by omega, take_snocM hl, rn_app, e4, rn_cons, rn_nil, show ql = (ql.1, ql.2) from rfl, kl, tk_st (by decide) (by decide), thV_15, hs, hz, show a + (4 + c) + 1 = a + (4 + c + 1) by omega]
    rfl
  · simp only at hi
    by_cases i0 : i = 0
    · rw [i0, getD_of h0, k0]; exact ok_9
    by_cases i1 : i = 1
    · rw [i1, getD_of h1, k0]; exact ok_9
    by_cases i2 : i = 2
    · rw [i2, getD_of h2, k2]; exact ok_ldM (by decide)
    by_cases i3 : i = 3 + c
    · rw [i3, getD_of ho]; exact ok_biM t2
    by_cases i4 : i = 4 + c
    · rw [i4, getD_of hl, kl]; exact ok_stM (by decide)
    · obtain ⟨j, rfl⟩ : ∃ j, i = 3 + j := ⟨i - 3, by omega⟩
      have hj := getD_take (M := M.drop 3) (n := c) (i := j) (by omega) (by rw [List.length_drop]; omega)
      have := plR_ok _ _ _ hr hdw _ hj
      rwa [List.getD_eq_getElem?_getD, List.getElem?_drop, ← List.getD_eq_getElem?_getD] at this
/-- THE MATHEMATICS OF FuseMeans -/
theorem means_main {L : List (Nat × Nat)} {a e sp : Nat} {base D : List Nat} (hwf : Wfc L) (hae : a < e ∧ e ≤ L.length) (he : e < 4294967296) (hb : 2 ≤ base.length) (hE : flE L a e = 0) (hk : 2 ≤ (flV L a e).len) : Res sp base D ((L.drop a).take (e - a)) a (flV L a e) := by
  have hM : flV L a e = bst ((L.drop a).take (e - a)) a 15 := by unfold flV; rw [if_pos hE]
  have hwM : Wfc ((L.drop a).take (e - a)) := wfc_sub hwf a (e - a)
  have hlM : ((L.drop a).take (e - a)).length = e - a := by rw [List.length_take, List.length_drop]; omega
  rcases bst_src (M := (L.drop a).take (e - a)) (a := a) 15 with h | ⟨j, j1, j2, hj⟩
  · rw [hM, h] at hk; exact absurd hk (by decide)
  rw [← hM] at hj
  generalize flV L a e = f at *
  by_cases c1 : j = 1
  · subst c1
    generalize (L.drop a).take (e - a) = M at *
    obtain _ | ⟨p, R⟩ := M
    · simp at hlM; omega
    · rw [fkV_one] at hj
      split at hj
      · cases hj; exact absurd hk (by simp)
      · cases hj
  by_cases c2 : j = 2 ∨ j = 3 ∨ j = 4
  · rw [fold_eq hwf hae c2] at hj
    generalize hcb : (decide (lnE L a e = 0) && decide (2 ≤ (lnP L a e).2.1) && decide ((if (lnP L a e).2.2.1 = 4 then 4 else if (lnP L a e).2.2.1 = 3 then 3 else 2) = j)) = cb at hj
    cases cb
    · cases hj
    · rw [if_pos rfl] at hj
      have hc := hcb
      simp only [Bool.and_eq_true, decide_eq_true_eq] at hc
      obtain ⟨⟨x1, x2⟩, x3⟩ := hc
      have hlp : lnP L a e = (a, lgV ((L.drop a).take (e - a))) := by
        unfold lnP
        rw [if_pos ⟨hae.1, hae.2, by have := x1; unfold lnE at this; rwa [if_pos hae] at this⟩]
      rw [hlp] at hj x2 x3
      have hB := lgF_bst ((L.drop a).take (e - a)) [] 0 (1, 1, 0) (fun p hp => (hwM p hp).1) (by decide) (fun _ => rfl)
      change Bst _ [] 0 (1, 1, 0) (lgV ((L.drop a).take (e - a))) at hB
      rcases hB with ⟨n, k, v, n1, n2, n3, n4, n5, _⟩ | ⟨_, n2⟩
      · rw [Nat.zero_add] at n5
        rw [n5] at hj x2 x3
        simp only at hj x2 x3
        have hkk := plD_kind _ _ _ _ n4
        have hkj : k = j := by
          rcases hkk with rfl | rfl | rfl <;> simpa using x3
        subst hkj
        cases hj
        exact res_fold hwM x2 n2 n4 (by omega)
      · rw [n2] at x2
        simp at x2
  by_cases c3 : j ≤ 10
  · obtain ⟨v, q, b1, b2, _, b4, b5, _, b7⟩ := con_B hwM (by omega) c3 hj
    exact res_con hwM hb (by omega) c3 b1 b2 b4 b5 b7 (by omega)
  by_cases c4 : j = 11 ∨ j = 12
  · obtain ⟨q0, q1, b0, b1, _, _, b4, b5⟩ := loc2_B hwM c4 hj
    exact res_loc2 hwM c4 b0 b1 b4 (b5 _) (by have := (List.getElem?_eq_some_iff.1 b1).1; omega)
  by_cases c5 : j = 13 ∨ j = 14
  · obtain ⟨q0, q1, q2, b0, b1, b2, _, _, _, b4, b5⟩ := loc3_B hwM c5 hj
    exact res_loc3 hwM hb c5 b0 b1 b2 b5 (by have := (List.getElem?_eq_some_iff.1 b2).1; omega)
  obtain rfl : j = 15 := by omega
  obtain ⟨c, v, q0, q2, qo, ql, b0, b1, b2, _, _, b5, b6, b7, _, _, _, _, k0, k2, kd, kn, kl, rfl⟩ := bump_B hwM hj
  exact res_bump hwM b0 b1 b2 b5 b6 b7 k0 k2 kd kn kl (by have := (List.getElem?_eq_some_iff.1 b7).1; omega)
end Go.Proofs.Ytonmoidalkcmoaa
