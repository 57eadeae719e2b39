import Derived.Test.YtonmoidalkcmoaaCZMa
import Derived.Test.YtonmoidalkcmoaaCDRm
namespace Go.Proofs.Ytonmoidalkcmoaa
open Go.RowKit Go.WideShapes
set_option maxRecDepth 100000
abbrev fzI (at_ len : Nat) (kI : Int) (op a b : Nat) : Array Value := #[.int .u32 (at_ : Int), .int .u32 (len : Int), .int .u8 kI, .int .u8 (op : Int), .int .u32 (a : Int), .int .u32 (b : Int)]
theorem XS.gwf {W : World} {M : Col → Pc} {x pm sp o at_ len op a b : Nat} {kI : Int} {m : Pm} {t : TypeId} {p1 : Pc} (h : XS W M x pm sp m (objP o (fzI at_ len kI op a b) t) p1) :
    ∀ w', Below W.heap.size W w' → w'.cell? ⟨pm, 0, none⟩ = some (.int .u32 (sp : Int)) ∧ w'.cell? ⟨o, 2, none⟩ = some (.int .u8 kI) ∧ w'.cell? ⟨o, 3, none⟩ = some (.int .u8 (op : Int)) ∧ w'.cell? ⟨o, 4, none⟩ = some (.int .u32 (a : Int)) ∧ w'.cell? ⟨o, 5, none⟩ = some (.int .u32 (b : Int)) := fun w' hb => by
  have h2 := h.below hb
  obtain ⟨_, q⟩ := h2.pl
  exact ⟨PlO.csp q, obj_cell h2.c0 2, obj_cell h2.c0 3, obj_cell h2.c0 4, obj_cell h2.c0 5⟩
theorem XS.loadB {W : World} {M : Col → Pc} {x pm sp : Nat} {m : Pm} {p0 p1 : Pc} (h : XS W M x pm sp m p0 p1) (at_ n : Nat) (hb : ∀ k, m.dat.getD k 0 < 256) (hn : n ≤ 4) :
    Calls Try.prog 18 #[.pointer (some ⟨pm, 0, none⟩), .int .u32 (at_ : Int), .int .i64 (n : Int)] W fun e w' => e = .returned (.int .u32 (ldV m.dat at_ n : Nat)) ∧ Below W.heap.size W w' := by
  obtain ⟨M4, h4, e0, e1, k⟩ := h
  exact (xload h4 at_ n hb hn).mono fun e w' ⟨he, _, hq⟩ => ⟨he, hq⟩
theorem thV_2 (sp at_ len op a b : Nat) (m : Pm) : thV sp ⟨at_, len, 2, op, a, b⟩ m = ⟨m.ops ++ [a], m.dat, (at_ + len) % 4294967296, m.bad⟩ := by simp [thV]
theorem thV_3 (sp at_ len op a b : Nat) (m : Pm) : thV sp ⟨at_, len, 3, op, a, b⟩ m = ⟨m.ops, m.dat, a, m.bad⟩ := by simp [thV]
theorem thV_4 (sp at_ len op a b : Nat) (m : Pm) : thV sp ⟨at_, len, 4, op, a, b⟩ m = ⟨m.ops, m.dat, (at_ + len) % 4294967296, m.bad⟩ := by simp [thV]
theorem thV_7 (sp at_ len op a b : Nat) (m : Pm) : thV sp ⟨at_, len, 7, op, a, b⟩ m = ⟨m.ops, stV 4 m.dat ((sp + 4 + 4 * b) % 4294967296) a, (at_ + len) % 4294967296, m.bad⟩ := by simp [thV]
theorem thV_11 (sp at_ len op a b : Nat) (m : Pm) : thV sp ⟨at_, len, 11, op, a, b⟩ m = ⟨m.ops, stV 4 m.dat ((sp + 4 + 4 * b) % 4294967296) ((sp + a) % 4294967296), (at_ + len) % 4294967296, m.bad⟩ := by simp [thV]
theorem thV_9 (sp at_ len op a b : Nat) (m : Pm) : thV sp ⟨at_, len, 9, op, a, b⟩ m = ⟨m.ops ++ [ldV m.dat a (szM op)], m.dat, (at_ + len) % 4294967296, m.bad⟩ := by simp [thV]
theorem thV_12 (sp at_ len op a b : Nat) (m : Pm) : thV sp ⟨at_, len, 12, op, a, b⟩ m = ⟨m.ops ++ [ldV m.dat ((sp + a) % 4294967296) (szM op)], m.dat, (at_ + len) % 4294967296, m.bad⟩ := by simp [thV]
theorem thV_10 (sp at_ len op a b : Nat) (m : Pm) : thV sp ⟨at_, len, 10, op, a, b⟩ m = ⟨m.ops.dropLast, stV (szM op) m.dat (m.ops.getLastD 0) a, (at_ + len) % 4294967296, m.bad⟩ := by simp [thV]
theorem thV_15 (sp at_ len op a b : Nat) (m : Pm) : thV sp ⟨at_, len, 15, op, a, b⟩ m = ⟨m.ops, stV 4 m.dat ((sp + a) % 4294967296) (binV op (ldV m.dat ((sp + a) % 4294967296) 4) b), (at_ + len) % 4294967296, m.bad || decide (¬ binE op b = 0)⟩ := by simp [thV]
theorem thV_6 (sp at_ len op a b : Nat) (m : Pm) : thV sp ⟨at_, len, 6, op, a, b⟩ m = ⟨m.ops.dropLast, m.dat, if hoV op (m.ops.getLastD 0) a then b else (at_ + len) % 4294967296, m.bad⟩ := by simp [thV, thB]
theorem thV_14 (sp at_ len op a b : Nat) (m : Pm) : thV sp ⟨at_, len, 14, op, a, b⟩ m = ⟨m.ops.dropLast, m.dat, if hoV op (m.ops.getLastD 0) (ldV m.dat ((sp + a) % 4294967296) 4) then b else (at_ + len) % 4294967296, m.bad⟩ := by simp [thV, thB]
theorem thV_5 (sp at_ len op a b : Nat) (m : Pm) : thV sp ⟨at_, len, 5, op, a, b⟩ m = ⟨m.ops.dropLast ++ [binV op (m.ops.getLastD 0) a], m.dat, (at_ + len) % 4294967296, m.bad || decide (¬ binE op a = 0)⟩ := by simp [thV, thB]
theorem thV_13 (sp at_ len op a b : Nat) (m : Pm) : thV sp ⟨at_, len, 13, op, a, b⟩ m = ⟨m.ops.dropLast ++ [binV op (m.ops.getLastD 0) (ldV m.dat ((sp + a) % 4294967296) 4)], m.dat, (at_ + len) % 4294967296, m.bad || decide (¬ binE op (ldV m.dat ((sp + a) % 4294967296) 4) = 0)⟩ := by simp [thV, thB]
set_option linter.unusedVariables false
set_option linter.unusedSimpArgs false
/-- MATHEMATICS: what FuseMeans says of a thing of two instructions or more -/
def Res (sp : Nat) (base D : List Nat) (M : List (Nat × Nat)) (a : Nat) (f : Fz) : Prop :=
  (∀ i, i < f.len → Mid base D a i (rn sp (M.take i) ⟨base, D, a, false⟩)) ∧
  (¬ f.kind = 8 → rn sp (M.take f.len) ⟨base, D, a, false⟩ = thV sp f ⟨base, D, a, false⟩) ∧
  (f.kind = 8 → (M.getD (f.len - 1) (0, 0)).1 = 5 ∧ (rn sp (M.take (f.len - 1)) ⟨base, D, a, false⟩).ops = base ++ [f.a]) ∧
  (∀ i, i < f.len → (f.kind = 8 → i + 1 < f.len) → tkOk (M.getD i (0, 0)).1) ∧
  f.at_ = a ∧ f.len ≤ M.length ∧ 2 ≤ f.kind ∧ f.kind ≤ 15
theorem bst_src {M : List (Nat × Nat)} {a : Nat} : ∀ k, bst M a k = fz0 ∨ ∃ j, 1 ≤ j ∧ j ≤ k ∧ fkV M a j = (bst M a k, true)
  | 0 => .inl rfl
  | k + 1 => by
    unfold bst
    split
    · rename_i h
      refine .inr ⟨k + 1, by omega, Nat.le_refl _, ?_⟩
      unfold fkV fitV at h ⊢
      split
      · rename_i h0; rw [if_pos h0] at h; exact absurd h (Nat.not_lt_zero _)
      · rfl
    · rcases bst_src (M := M) (a := a) k with h | ⟨j, h1, h2, h3⟩
      · exact .inl h
      · exact .inr ⟨j, h1, by omega, h3⟩
theorem doD_ok {ws ws' : List Nat} {op arg : Nat} (hd : doD ws op arg = some ws') (hop : op < 256) : tkOk op := by
  unfold doD at hd
  unfold tkOk
  by_cases h1 : op = 1
  · exact .inl h1
  rw [if_neg h1] at hd
  by_cases h8 : op = 8
  · exact .inr (.inr (.inl h8))
  rw [if_neg h8] at hd
  by_cases h10 : op = 10
  · exact .inr (.inr (.inr (.inr (.inl h10))))
  rw [if_neg h10] at hd
  by_cases h11 : op = 11
  · exact .inr (.inr (.inr (.inr (.inr (.inl h11)))))
  rw [if_neg h11] at hd
  by_cases hu : unE op = 0
  · obtain ⟨t0, t1, t2, _⟩ := tab_un1 op hop hu
    exact .inr (.inr (.inr (.inr (.inr (.inr (.inr (.inr (.inr (.inr (.inl ⟨t0, t1, t2⟩))))))))))
  rw [if_neg hu] at hd
  by_cases hb : binE op 1 = 0
  · obtain ⟨t0, t1, t2, _⟩ := tab_bin1 op hop hb
    exact .inr (.inr (.inr (.inr (.inr (.inr (.inr (.inr (.inr (.inr (.inr ⟨t0, t1, t2⟩))))))))))
  rw [if_neg hb] at hd
  cases hd
theorem plR_ok : ∀ (A : List (Nat × Nat)) (ws ws' : List Nat), plR A ws = some ws' → (∀ p ∈ A, p.1 < 256) → ∀ p ∈ A, tkOk p.1
  | [], _, _, _, _, p, hp => by simp at hp
  | q :: r, ws, ws', h, hw, p, hp => by
    unfold plR at h
    split at h
    · cases hd : doD ws q.1 q.2 with
      | none => rw [hd] at h; cases h
      | some wt =>
        rw [hd] at h
        rcases List.mem_cons.1 hp with rfl | hp
        · exact doD_ok hd (hw p (by simp))
        · exact plR_ok r wt ws' h (fun x hx => hw x (by simp [hx])) p hp
    · cases h
theorem getD_take {M : List (Nat × Nat)} {n i : Nat} (h : i < n) (hn : n ≤ M.length) : M.getD i (0, 0) ∈ M.take n := by
  rw [List.getD_eq_getElem?_getD, List.getElem?_eq_getElem (by omega)]
  exact List.mem_iff_getElem.2 ⟨i, by rw [List.length_take]; omega, by simp⟩
theorem take_snocM {M : List (Nat × Nat)} {n : Nat} {q : Nat × Nat} (h : M[n]? = some q) : M.take (n + 1) = M.take n ++ [q] := by
  rw [List.take_add_one, h]; rfl
theorem getD_of {M : List (Nat × Nat)} {n : Nat} {q : Nat × Nat} (h : M[n]? = some q) : M.getD n (0, 0) = q := by rw [List.getD_eq_getElem?_getD, h]; rfl
theorem base_cut {base : List Nat} (h : 2 ≤ base.length) : ∃ b z, base = b ++ [z] := ⟨base.dropLast, base.getLastD 0, last_cut base (by omega)⟩
/-- a row of a constant: its midst -/
theorem mid_take {sp a n : Nat} {base D : List Nat} {M : List (Nat × Nat)} {ws : List Nat} (hwf : Wfc M) (hn : n ≤ M.length) (h : plR (M.take n) [] = some ws) (hp : a + n < 4294967296) (i : Nat) (hi : i ≤ n) :
    Mid base D a i (rn sp (M.take i) ⟨base, D, a, false⟩) := by
  have hl : (M.take n).length = n := by rw [List.length_take]; omega
  have := mid_plR (sp := sp) (base := base) (D := D) h (fun p hq => (hwf p (List.mem_of_mem_take hq)).1) (by rw [hl]; exact hp) i (by rw [hl]; exact hi)
  rwa [List.take_take, Nat.min_eq_left hi] at this
theorem rn_take {sp a n : Nat} {base D : List Nat} {M : List (Nat × Nat)} {ws : List Nat} (hwf : Wfc M) (hn : n ≤ M.length) (h : plR (M.take n) [] = some ws) (hp : a + n < 4294967296) :
    rn sp (M.take n) ⟨base, D, a, false⟩ = ⟨base ++ ws, D, a + n, false⟩ := by
  have hl : (M.take n).length = n := by rw [List.length_take]; omega
  have := rn_plR (sp := sp) (base := base) (D := D) (M.take n) [] ws a h (fun p hq => (hwf p (List.mem_of_mem_take hq)).1) (by rw [hl]; exact hp)
  rwa [List.append_nil, hl] at this
/-- the whole pieces -/
theorem res_fold {sp a n k v : Nat} {base D : List Nat} {M : List (Nat × Nat)} (hwf : Wfc M) (hn : 2 ≤ n) (hnl : n ≤ M.length) (h : plD (M.take n) [] = some (k, v)) (hp : a + n < 4294967296) : Res sp base D M a ⟨a, n, k, 0, v, 0⟩ := by
  have hop : ∀ p ∈ M.take n, p.1 < 256 := fun p hq => (hwf p (List.mem_of_mem_take hq)).1
  rcases plD_split _ _ _ _ h with ⟨rfl, hr⟩ | ⟨rfl, hr⟩ | ⟨B, p, x, y, hB, hr, hk, hc⟩
  · refine ⟨fun i hi => mid_take hwf hnl hr hp i (by simp only at hi; omega), fun _ => ?_, fun e => absurd e (by simp), fun i hi _ => plR_ok _ _ _ hr hop _ (getD_take hi hnl), rfl, hnl, by simp, by simp⟩
    simp only
    rw [thV_2, rn_take hwf hnl hr hp, Nat.mod_eq_of_lt hp]
  · refine ⟨fun i hi => mid_take hwf hnl hr hp i (by simp only at hi; omega), fun _ => ?_, fun e => absurd e (by simp), fun i hi _ => plR_ok _ _ _ hr hop _ (getD_take hi hnl), rfl, hnl, by simp, by simp⟩
    simp only
    rw [thV_4, rn_take hwf hnl hr hp, Nat.mod_eq_of_lt hp, List.append_nil]
  · have hBl : B.length = n - 1 := by
      have := congrArg List.length hB
      rw [List.length_take, List.length_append, List.length_singleton] at this
      omega
    have hB2 : B = M.take (n - 1) := by
      have h1 : (M.take n).take (n - 1) = B := by rw [hB, List.take_left' hBl]
      rw [List.take_take, Nat.min_eq_left (by omega)] at h1
      exact h1.symm
    have hr2 : plR (M.take (n - 1)) [] = some [x, y] := by rw [← hB2]; exact hr
    have hm : ∀ i, i < n → Mid base D a i (rn sp (M.take i) ⟨base, D, a, false⟩) := fun i hi => mid_take hwf (by omega) hr2 (by omega) i (by omega)
    have hp1 : p.1 < 256 := hop p (by rw [hB]; simp)
    have he : rn sp (M.take n) ⟨base, D, a, false⟩ = ⟨base, D, if hoV p.1 x y then p.2 else a + n, false⟩ := by
      rw [hB, rn_app, hB2, rn_take hwf (by omega) hr2 (by omega), rn_cons, rn_nil, show p = (p.1, p.2) from rfl, tk_cmp hp1 hk, Nat.mod_eq_of_lt (by omega), show a + (n - 1) + 1 = a + n by omega]
    have hok : ∀ i, i < n → tkOk (M.getD i (0, 0)).1 := fun i hi => by
      have hmem := getD_take hi hnl
      rw [hB] at hmem
      rcases List.mem_append.1 hmem with h1 | h1
      · exact plR_ok _ _ _ hr (fun q hq => hop q (by rw [hB]; simp [hq])) _ h1
      · rw [List.mem_singleton.1 h1]
        exact .inr (.inr (.inr (.inr (.inr (.inr (.inr (.inr (.inr (.inl hk)))))))))
    rcases hc with ⟨rfl, rfl, hh⟩ | ⟨rfl, hh⟩
    · refine ⟨hm, fun _ => ?_, fun e => absurd e (by simp), fun i hi _ => hok i hi, rfl, hnl, by simp, by simp⟩
      simp only
      rw [he, thV_3, hh]
      rfl
    · refine ⟨hm, fun _ => ?_, fun e => absurd e (by simp), fun i hi _ => hok i hi, rfl, hnl, by simp, by simp⟩
      simp only
      rw [he, thV_4, hh, Nat.mod_eq_of_lt hp]
      rfl
theorem tab_db : ∀ op, op < 256 → dBin op = true → 39 ≤ op ∧ opKi op = 1 ∧ opTa op = 2 ∧ opGi op = 1 := by decide +kernel
theorem tab_dbr : ∀ op, op < 256 → dBra op = true → opKi op = 2 := by decide +kernel
theorem tab_dl : ∀ op, op < 256 → dLoa op = true → 29 ≤ op ∧ op ≤ 31 := by decide +kernel
theorem tab_ds : ∀ op, op < 256 → dSto op = true → 32 ≤ op ∧ op ≤ 34 := by decide +kernel
theorem ok_12 : tkOk 12 := .inr (.inr (.inr (.inr (.inr (.inr (.inl rfl))))))
theorem ok_9 : tkOk 9 := .inr (.inr (.inr (.inl rfl)))
theorem ok_ldM {op : Nat} (h : 29 ≤ op ∧ op ≤ 31) : tkOk op := .inr (.inr (.inr (.inr (.inr (.inr (.inr (.inl h)))))))
theorem ok_stM {op : Nat} (h : 32 ≤ op ∧ op ≤ 34) : tkOk op := .inr (.inr (.inr (.inr (.inr (.inr (.inr (.inr (.inl h))))))))
theorem ok_brM {op : Nat} (h : opKi op = 2) : tkOk op := .inr (.inr (.inr (.inr (.inr (.inr (.inr (.inr (.inr (.inl h)))))))))
theorem ok_biM {op : Nat} (h : opKi op = 1 ∧ opTa op = 2 ∧ opGi op = 1) : tkOk op := .inr (.inr (.inr (.inr (.inr (.inr (.inr (.inr (.inr (.inr (.inr h))))))))))
/-- a constant, and what stands behind it -/
theorem res_con {sp a k v : Nat} {base D : List Nat} {M : List (Nat × Nat)} {q : Nat × Nat} {f : Fz} (hwf : Wfc M) (hb : 2 ≤ base.length) (h5 : 5 ≤ k) (h10 : k ≤ 10) (h2 : 2 ≤ f.len) (hl : f.len ≤ M.length) (hc : cnO (M.take (f.len - 1)) = some v) (hq : M[f.len - 1]? = some q) (hd : dsC k a f.len q v = some f) (hp : a + f.len < 4294967296) : Res sp base D M a f := by
  obtain ⟨n, hn⟩ : ∃ n, f.len = n + 1 := ⟨f.len - 1, by omega⟩
  rw [hn, Nat.add_sub_cancel] at hc hq
  rw [hn] at hd hl hp
  have hr := plD_word _ _ _ (cnO_some.1 hc).2.2
  have hq2 : q.1 < 256 := (hwf q (List.mem_of_getElem? hq)).1
  have hm : ∀ i, i < n + 1 → Mid base D a i (rn sp (M.take i) ⟨base, D, a, false⟩) := fun i hi => mid_take hwf (by omega) hr (by omega) i (by omega)
  have he : rn sp (M.take (n + 1)) ⟨base, D, a, false⟩ = tkV sp (q.1, q.2) ⟨base ++ [v], D, a + n, false⟩ := by
    rw [take_snocM hq, rn_app, rn_take hwf (by omega) hr (by omega), rn_cons, rn_nil]
  have hok : tkOk q.1 → ∀ i, i < n + 1 → tkOk (M.getD i (0, 0)).1 := fun h i hi => by
    by_cases e : i = n
    · rw [e, getD_of hq]; exact h
    · exact plR_ok _ _ _ hr (fun p hp => (hwf p (List.mem_of_mem_take hp)).1) _ (getD_take (by omega) (by omega))
  have hpc : (a + n + 1) % 4294967296 = (a + (n + 1)) % 4294967296 := by rw [Nat.add_assoc]
  obtain ⟨b, z, rfl⟩ := base_cut hb
  have hbz : b ++ [z] ++ [v] = b ++ [z, v] := by simp
  unfold dsC at hd
  by_cases k5 : k = 5
  · rw [if_pos k5] at hd
    split at hd
    · rename_i hx; cases hd
      obtain ⟨t1, t2⟩ := tab_db q.1 hq2 hx
      refine ⟨hm, fun _ => ?_, fun e => absurd e (by simp), fun i hi _ => hok (ok_biM t2) i hi, rfl, hl, by simp, by simp⟩
      simp only
      rw [he, hbz, tk_bin t1 t2, thV_5, hpc]
      simp only [List.dropLast_concat, gl1]
    · cases hd
  rw [if_neg k5] at hd
  by_cases k6 : k = 6
  · rw [if_pos k6] at hd
    split at hd
    · rename_i hx; cases hd
      have t1 := tab_dbr q.1 hq2 hx
      refine ⟨hm, fun _ => ?_, fun e => absurd e (by simp), fun i hi _ => hok (ok_brM t1) i hi, rfl, hl, by simp, by simp⟩
      simp only
      rw [he, hbz, tk_cmp hq2 t1, thV_6, hpc]
      simp only [List.dropLast_concat, gl1]
    · cases hd
  rw [if_neg k6] at hd
  by_cases k7 : k = 7
  · rw [if_pos k7] at hd
    split at hd
    · rename_i hx; cases hd
      refine ⟨hm, fun _ => ?_, fun e => absurd e (by simp), fun i hi _ => hok (by rw [hx]; exact ok_12) i hi, rfl, hl, by simp, by simp⟩
      simp only
      rw [he, hx, tk_arg, thV_7, hpc]
    · cases hd
  rw [if_neg k7] at hd
  by_cases k8 : k = 8
  · rw [if_pos k8] at hd
    split at hd
    · rename_i hx; cases hd
      refine ⟨hm, fun e => absurd rfl e, fun _ => ⟨?_, ?_⟩, fun i hi h => ?_, rfl, hl, by simp, by simp⟩
      · simp only [Nat.add_sub_cancel]
        rw [getD_of hq]; exact hx
      · simp only [Nat.add_sub_cancel]
        rw [rn_take hwf (by omega) hr (by omega)]
      · have := h rfl
        simp only at this
        exact plR_ok _ _ _ hr (fun p hp => (hwf p (List.mem_of_mem_take hp)).1) _ (getD_take (n := n) (by omega) (by omega))
    · cases hd
  rw [if_neg k8] at hd
  by_cases k9 : k = 9
  · rw [if_pos k9] at hd
    split at hd
    · rename_i hx; cases hd
      have t1 := tab_dl q.1 hq2 hx
      refine ⟨hm, fun _ => ?_, fun e => absurd e (by simp), fun i hi _ => hok (ok_ldM t1) i hi, rfl, hl, by simp, by simp⟩
      simp only
      rw [he, tk_ld t1.1 t1.2, thV_9, hpc]
    · cases hd
  rw [if_neg k9] at hd
  split at hd
  · rename_i hx; cases hd
    have t1 := tab_ds q.1 hq2 hx
    refine ⟨hm, fun _ => ?_, fun e => absurd e (by simp), fun i hi _ => hok (ok_stM t1) i hi, rfl, hl, by simp, by simp⟩
    simp only
    rw [he, hbz, tk_st t1.1 t1.2, thV_10, hpc]
    simp only [List.dropLast_concat, gl1]
  · cases hd
end Go.Proofs.Ytonmoidalkcmoaa
