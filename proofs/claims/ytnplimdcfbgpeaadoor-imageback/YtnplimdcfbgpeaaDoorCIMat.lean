import Derived.Test.YtnplimdcfbgpeaaDoorIDec
namespace Go.Proofs.YtnplimdcfbgpeaaDoor
open Go.RowKit
set_option maxRecDepth 100000

theorem opMo_wid : ∀ k, k < 60 → opMo k < 256 ^ opWi k := by decide
theorem okI_of {q : Nat × Nat} (h : okI q = true) : isOp q.1 = true ∧ q.2 ≤ opMo q.1 := by
  have h' : erV q.1 q.2 = 0 := by simpa [okI] using h
  unfold erV at h'
  split at h'
  · cases h'
  · split at h'
    · cases h'
    · rename_i h1 h2
      exact ⟨by simpa using h1, by omega⟩
theorem rdV_enc (q : Nat × Nat) (rest : List Int) (hq : okI q = true) : rdV (enc1 q ++ rest) = (q.1, q.2, 1 + opWi q.1, 0) := by
  obtain ⟨h1, h2⟩ := okI_of hq
  have h3 := of_decide_eq_true h1
  have h4 := opMo_wid q.1 (by omega)
  have e0 : (enc1 q ++ rest).getD 0 0 = (q.1 : Int) := rfl
  have e1 : ((enc1 q ++ rest).drop 1).take (opWi q.1) = nb (opWi q.1) q.2 := by
    show (nb (opWi q.1) (q.2 : Int) ++ rest).take (opWi q.1) = _
    rw [List.take_append_of_le_length (by rw [nb_len]; exact Nat.le_refl _), List.take_of_length_le (by rw [nb_len]; exact Nat.le_refl _)]
  have e2 : num (nb (opWi q.1) (q.2 : Int)) = q.2 := by
    rw [num_nb, Int.emod_eq_of_lt (by omega)]
    have : (q.2 : Int) < ((256 ^ opWi q.1 : Nat) : Int) := by omega
    simpa using this
  unfold rdV
  rw [e0, Int.toNat_natCast, e1, e2, Int.toNat_natCast, if_neg (by simp [h1]), if_neg (by rw [List.length_append, enc1_len]; omega), if_neg (by omega)]
theorem rds_enc : ∀ (M : List (Nat × Nat)) (A : List Int) (f k : Nat), allOk M = true → k + M.length ≤ 16384 → (encF M).length ≤ f →
    ∃ ys, rds (A ++ encF M) f k A.length = ys ∧ ys.map gIt = M ∧ ∀ x ∈ ys, x.2.2.2.2 = 0
  | [], A, f, k, _, _, _ => ⟨[], rds_end _ _ _ _ (by simp [encF]), rfl, by simp⟩
  | q :: M, A, f, k, ho, hk, hf => by
    have hq : okI q = true := by simp only [allOk, List.all_cons, Bool.and_eq_true] at ho; exact ho.1
    have hM : allOk M = true := by simp only [allOk, List.all_cons, Bool.and_eq_true] at ho; exact ho.2
    have eF : encF (q :: M) = enc1 q ++ encF M := rfl
    have hl := enc1_len q
    rw [eF] at hf ⊢
    rw [List.length_append] at hf
    simp only [List.length_cons] at hk
    obtain ⟨f', rfl⟩ : ∃ f', f = f' + 1 := ⟨f - 1, by omega⟩
    have hK : rdK (A ++ (enc1 q ++ encF M)) k A.length = (q.1, q.2, 1 + opWi q.1, 0) := by
      unfold rdK
      rw [if_pos (by omega), List.drop_left, rdV_enc q _ hq]
    obtain ⟨ys, h1, h2, h3⟩ := rds_enc M (A ++ enc1 q) f' (k + 1) hM (by omega) (by omega)
    refine ⟨(A.length, (q.1, q.2, 1 + opWi q.1, 0)) :: ys, ?_, ?_, ?_⟩
    · rw [rds_step _ _ _ _ (by simp; omega), hK]
      simp only [if_true]
      rw [← h1, List.append_assoc, List.length_append, hl]
    · rw [List.map_cons, h2]; rfl
    · intro x hx
      rcases List.mem_cons.1 hx with rfl | h
      · rfl
      · exact h3 x h
theorem dec_enc (L : List (Nat × Nat)) (ho : allOk L = true) (hl : L.length ≤ 16384) : dcB (encF L) = L ∧ dcI (encF L) = 0 ∧ dcX (encF L) = 0 := by
  obtain ⟨ys, h1, h2, h3⟩ := rds_enc L [] (encF L).length 0 ho (by omega) (Nat.le_refl _)
  have := dec_ok (zs := encF L) (ys := ys) h1.symm h3
  rw [h2] at this
  exact this
theorem encF_wf (L : List (Nat × Nat)) (h : Wfc L) : ∀ z ∈ encF L, 0 ≤ z ∧ z ≤ 255 := by
  intro z hz
  simp only [encF, List.mem_flatMap] at hz
  obtain ⟨p, hp, hz⟩ := hz
  rcases List.mem_cons.1 hz with rfl | h'
  · have := (h p hp).1; omega
  · exact nb_wf _ _ z h'
theorem decode_enc (ao : Option Addr) (cap n : Nat) (L : List (Nat × Nat)) (w : World) (hnn : (encF L).length = n) (hcp : (encF L).length ≤ cap) (hw : Wfc L) (ho : allOk L = true) (hl : L.length ≤ 16384) (hr : Reads w ao (encF L) w.heap.size) :
    Calls Tryd.prog 57 #[.slice ao n cap] w fun e w' => ∃ v, e = .returned (.tuple #[v, .int .i64 0, .int .i64 0]) ∧ w'.ownsRow w.heap.size 54 2 v L.length (cv L) ∧ Below w.heap.size w w' := by
  subst hnn
  have hle := encF_le L
  refine (decode_any ao cap (encF L) w (by omega) hcp (encF_wf L hw) hr).mono ?_
  obtain ⟨e1, e2, e3⟩ := dec_enc L ho hl
  rintro e w' ⟨v, rfl, h1, h2⟩
  rw [e1] at h1
  exact ⟨v, by rw [e2, e3]; rfl, h1, h2⟩
end Go.Proofs.YtnplimdcfbgpeaaDoor
namespace Go.Proofs.YtnplimdcfbgpeaaDoor
open Go.RowKit
set_option maxRecDepth 100000

theorem rdV_split (ws : List Int) (hwf : ∀ z ∈ ws, 0 ≤ z ∧ z ≤ 255) (h : (rdV ws).2.2.2 = 0) :
    ws = enc1 ((rdV ws).1, (rdV ws).2.1) ++ ws.drop (rdV ws).2.2.1 ∧ okI ((rdV ws).1, (rdV ws).2.1) = true ∧ (rdV ws).1 < 256 ∧ (rdV ws).2.1 < 4294967296 := by
  obtain ⟨g1, g2, g3, g4, g5, g6⟩ := rdV_ok ws h
  cases ws with
  | nil => simp at g2
  | cons z t =>
    have hz := hwf z (by simp)
    have h1 : (rdV (z :: t)).2.2.1 = 1 + opWi z.toNat := g1
    have h2 : 1 + opWi z.toNat ≤ (z :: t).length := g2
    have h3 : (rdV (z :: t)).1 = z.toNat := g3
    have h4 : isOp z.toNat = true := g4
    have h5 : (rdV (z :: t)).2.1 = (num (t.take (opWi z.toNat))).toNat := g5
    have h6 : (rdV (z :: t)).2.1 ≤ opMo z.toNat := g6
    clear g1 g2 g3 g4 g5 g6 h
    rw [h5] at h6
    rw [h1, h3, h5]
    have hzn : ((z.toNat : Nat) : Int) = z := by omega
    have hlt : (t.take (opWi z.toNat)).length = opWi z.toNat := by
      simp at h2 ⊢; omega
    have hwt : ∀ y ∈ t.take (opWi z.toNat), 0 ≤ y ∧ y ≤ 255 := fun y hy => hwf y (by simp [List.mem_of_mem_take hy])
    have hnn := (num_range _ hwt).1
    have hb : nb (opWi z.toNat) (((num (t.take (opWi z.toNat))).toNat : Nat) : Int) = t.take (opWi z.toNat) := by
      rw [Int.toNat_of_nonneg hnn]
      have := nb_num _ hwt
      rwa [hlt] at this
    refine ⟨?_, ?_, by omega, ?_⟩
    · show z :: t = ((z.toNat : Nat) : Int) :: (nb (opWi z.toNat) (((num (t.take (opWi z.toNat))).toNat : Nat) : Int) ++ (z :: t).drop (1 + opWi z.toNat))
      rw [hzn, hb, Nat.add_comm 1, List.drop_succ_cons, List.take_append_drop]
    · have : erV z.toNat (num (t.take (opWi z.toNat))).toNat = 0 := by
        unfold erV; rw [if_neg (by simp [h4]), if_neg (by omega)]
      simp [okI, this]
    · have := opMo_lt z.toNat
      show (num (t.take (opWi z.toNat))).toNat < 4294967296
      omega
theorem rds_back (zs : List Int) (hwf : ∀ z ∈ zs, 0 ≤ z ∧ z ≤ 255) : ∀ (f k p : Nat), p ≤ zs.length → zs.length ≤ p + f → k ≤ 16384 → (∀ x ∈ rds zs f k p, x.2.2.2.2 = 0) →
    zs.drop p = encF ((rds zs f k p).map gIt) ∧ allOk ((rds zs f k p).map gIt) = true ∧ Wfc ((rds zs f k p).map gIt) ∧ k + (rds zs f k p).length ≤ 16384
  | f, k, p, hp, hf, hk, ha => by
    by_cases hlt : p < zs.length
    · obtain ⟨f', rfl⟩ : ∃ f', f = f' + 1 := ⟨f - 1, by omega⟩
      rw [rds_step zs f' k p hlt] at ha ⊢
      have h0 : (rdK zs k p).2.2.2 = 0 := ha (p, rdK zs k p) (by simp)
      rw [if_pos h0] at ha ⊢
      obtain ⟨s1, s2, s3⟩ := rdK_size zs k p h0
      obtain ⟨hk2, e⟩ := rdK_ok zs k p h0
      rw [e] at h0 s1 s2 s3 ha ⊢
      obtain ⟨h1, h2, h3, h4⟩ := rdV_split (zs.drop p) (fun z hz => hwf z (List.mem_of_mem_drop hz)) h0
      obtain ⟨i1, i2, i3, i4⟩ := rds_back zs hwf f' (k + 1) (p + (rdV (zs.drop p)).2.2.1) s3 (by omega) (by omega) (fun x hx => ha x (by simp [hx]))
      refine ⟨?_, ?_, ?_, ?_⟩
      · rw [List.map_cons]
        show zs.drop p = enc1 (gIt (p, rdV (zs.drop p))) ++ encF _
        rw [← i1, ← List.drop_drop]
        exact h1
      · simp only [allOk, List.map_cons, List.all_cons, Bool.and_eq_true] at i2 ⊢
        exact ⟨h2, i2⟩
      · intro q hq
        rcases List.mem_cons.1 hq with rfl | h
        · exact ⟨h3, h4⟩
        · exact i3 q h
      · rw [List.length_cons]; omega
    · rw [rds_end zs f k p hlt]
      refine ⟨?_, rfl, fun q hq => by simp at hq, by simpa using hk⟩
      rw [List.drop_of_length_le (by omega)]; rfl
theorem dec_back (zs : List Int) (hwf : ∀ z ∈ zs, 0 ≤ z ∧ z ≤ 255) (h : okD zs = true) : encF (dcB zs) = zs ∧ allOk (dcB zs) = true ∧ Wfc (dcB zs) ∧ (dcB zs).length ≤ 16384 ∧ dcI zs = 0 ∧ dcX zs = 0 := by
  have ha : ∀ x ∈ rds zs zs.length 0 0, x.2.2.2.2 = 0 := by
    intro x hx
    rw [okD, List.all_eq_true] at h
    simpa using h x hx
  obtain ⟨h1, h2, h3, h4⟩ := rds_back zs hwf zs.length 0 0 (by omega) (by omega) (by omega) ha
  have e : dcB zs = (rds zs zs.length 0 0).map gIt := by rw [dcB, if_pos h]; rfl
  rw [e]
  exact ⟨by rw [← h1]; rfl, h2, h3, by rw [List.length_map]; omega, by simp [dcI, h], by simp [dcX, h]⟩
theorem rds_pos (zs : List Int) : ∀ (f k p : Nat), ∀ x ∈ rds zs f k p, x.1 < zs.length
  | 0, _, _, x, hx => by rw [rds] at hx; simp at hx
  | f + 1, k, p, x, hx => by
    by_cases hlt : p < zs.length
    · rw [rds_step zs f k p hlt] at hx
      rcases List.mem_cons.1 hx with rfl | h
      · exact hlt
      · split at h
        · exact rds_pos zs f _ _ x h
        · simp at h
    · rw [rds_end zs _ k p hlt] at hx; simp at hx
theorem dec_fault (zs : List Int) (h : okD zs = false) : dcB zs = [] ∧ dcI zs < zs.length ∧ ¬ dcX zs = 0 := by
  have : ∃ x ∈ items zs, ¬ x.2.2.2.2 = 0 := by
    rw [okD, List.all_eq_false] at h
    obtain ⟨x, hx, h⟩ := h
    exact ⟨x, hx, by simpa using h⟩
  obtain ⟨x, hx, he⟩ := this
  obtain ⟨q, t, hqt⟩ := List.append_of_mem hx
  have ht : t = [] := rds_bad zs _ _ _ q x t hqt he
  subst ht
  have hp : q ++ [x] <+: items zs := ⟨[], by simpa using hqt.symm⟩
  obtain ⟨e1, e2, e3⟩ := dec_bad hp he
  exact ⟨e1, by rw [e2]; exact rds_pos zs _ _ _ x hx, by rw [e3]; exact he⟩
theorem rdV_cut (q : Nat × Nat) (m : Nat) (hq : okI q = true) (hm : 0 < m) (hm2 : m < (enc1 q).length) : rdV ((enc1 q).take m) = (0, 0, 0, 72) := by
  obtain ⟨h1, h2⟩ := okI_of hq
  obtain ⟨m', rfl⟩ : ∃ m', m = m' + 1 := ⟨m - 1, by omega⟩
  have hl : ((enc1 q).take (m' + 1)).length = m' + 1 := by rw [List.length_take]; omega
  rw [enc1_len] at hm2
  have e0 : ((enc1 q).take (m' + 1)).getD 0 0 = (q.1 : Int) := rfl
  unfold rdV
  rw [e0, Int.toNat_natCast, if_neg (by simp [h1]), if_pos (by rw [hl]; omega)]
theorem rds_cut (q : Nat × Nat) (m : Nat) (hq : okI q = true) (hm : 0 < m) (hm2 : m < (enc1 q).length) : ∀ (M : List (Nat × Nat)) (A : List Int) (f k : Nat), allOk M = true → k + M.length < 16384 → (encF M).length + 1 ≤ f →
    ∃ ys, rds (A ++ (encF M ++ (enc1 q).take m)) f k A.length = ys ++ [(A.length + (encF M).length, (0, 0, 0, 72))]
  | [], A, f, k, _, hk, hf => by
    obtain ⟨f', rfl⟩ : ∃ f', f = f' + 1 := ⟨f - 1, by omega⟩
    have eN : encF [] ++ (enc1 q).take m = (enc1 q).take m := rfl
    rw [eN]
    have hl : ((enc1 q).take m).length = m := by rw [List.length_take]; omega
    have hK : rdK (A ++ (enc1 q).take m) k A.length = (0, 0, 0, 72) := by
      unfold rdK; rw [if_pos (by simpa using hk), List.drop_left, rdV_cut q m hq hm hm2]
    refine ⟨[], ?_⟩
    rw [rds_step _ _ _ _ (by rw [List.length_append, hl]; omega), hK]
    rfl
  | p :: M, A, f, k, ho, hk, hf => by
    have hp : okI p = true := by simp only [allOk, List.all_cons, Bool.and_eq_true] at ho; exact ho.1
    have hM : allOk M = true := by simp only [allOk, List.all_cons, Bool.and_eq_true] at ho; exact ho.2
    have eF : encF (p :: M) = enc1 p ++ encF M := rfl
    have hl := enc1_len p
    rw [eF] at hf ⊢
    rw [List.length_append] at hf
    simp only [List.length_cons] at hk
    obtain ⟨f', rfl⟩ : ∃ f', f = f' + 1 := ⟨f - 1, by omega⟩
    rw [List.append_assoc (enc1 p)]
    have hK : rdK (A ++ (enc1 p ++ (encF M ++ (enc1 q).take m))) k A.length = (p.1, p.2, 1 + opWi p.1, 0) := by
      unfold rdK
      rw [if_pos (by omega), List.drop_left, rdV_enc p _ hp]
    obtain ⟨ys, h1⟩ := rds_cut q m hq hm hm2 M (A ++ enc1 p) f' (k + 1) hM (by omega) (by omega)
    refine ⟨(A.length, (p.1, p.2, 1 + opWi p.1, 0)) :: ys, ?_⟩
    rw [rds_step _ _ _ _ (by simp; omega), hK]
    simp only [if_true]
    rw [List.append_assoc, List.length_append, hl] at h1
    rw [h1, List.length_append, hl, Nat.add_assoc]
    rfl
/-- where each instruction begins -/
def pl (L : List (Nat × Nat)) (j : Nat) : Nat := (encF (L.take j)).length
theorem pl_succ (L : List (Nat × Nat)) (k : Nat) (h : k < L.length) : pl L (k + 1) = pl L k + (1 + opWi (L.getD k (0, 0)).1) := by
  unfold pl
  rw [ptake (0, 0) L k h, encF_append, List.length_append]; simp [encF, enc1_len]
theorem allOk_take {L : List (Nat × Nat)} (h : allOk L = true) (j : Nat) : allOk (L.take j) = true := by
  rw [allOk, List.all_eq_true] at h ⊢
  exact fun p hp => h p (List.mem_of_mem_take hp)
theorem encF_split (L : List (Nat × Nat)) (j : Nat) : encF L = encF (L.take j) ++ encF (L.drop j) := by
  rw [← encF_append, List.take_append_drop]
theorem cut_begins (L : List (Nat × Nat)) (ho : allOk L = true) (hl : L.length ≤ 16384) (j n : Nat) (h : pl L j = n) : dcI ((encF L).take n) = 0 ∧ dcX ((encF L).take n) = 0 := by
  have e : (encF L).take n = encF (L.take j) := by
    subst h; rw [encF_split L j]; unfold pl; rw [List.take_left]
  rw [e]
  have := dec_enc (L.take j) (allOk_take ho j) (by rw [List.length_take]; omega)
  exact this.2
theorem cut_mid (L : List (Nat × Nat)) (ho : allOk L = true) (hl : L.length ≤ 16384) (j n : Nat) (hj : j < L.length) (h1 : pl L j < n) (h2 : n < pl L (j + 1)) : dcI ((encF L).take n) = pl L j ∧ dcX ((encF L).take n) = 72 := by
  have hq : okI (L.getD j (0, 0)) = true := by
    rw [allOk, List.all_eq_true] at ho
    apply ho
    rw [List.getD_eq_getElem?_getD, List.getElem?_eq_getElem hj]
    exact List.getElem_mem hj
  rw [pl_succ L j hj] at h2
  have hlen : (L.take j).length = j := by rw [List.length_take]; omega
  have hd : encF (L.drop j) = enc1 (L.getD j (0, 0)) ++ encF (L.drop (j + 1)) := by
    rw [List.drop_eq_getElem_cons hj]
    show enc1 L[j] ++ encF _ = _
    rw [List.getD_eq_getElem?_getD, List.getElem?_eq_getElem hj]; rfl
  have e : (encF L).take n = encF (L.take j) ++ (enc1 (L.getD j (0, 0))).take (n - pl L j) := by
    rw [encF_split L j, hd, List.take_append, List.take_of_length_le (by unfold pl at h1; omega)]
    rw [List.take_append_of_le_length (by rw [enc1_len]; unfold pl at h1 h2; omega)]
    rfl
  rw [e]
  have hl2 : ((enc1 (L.getD j (0, 0))).take (n - pl L j)).length = n - pl L j := by rw [List.length_take, enc1_len]; omega
  obtain ⟨ys, hy⟩ := rds_cut (L.getD j (0, 0)) (n - pl L j) hq (by omega) (by rw [enc1_len]; omega) (L.take j) [] (encF (L.take j) ++ (enc1 (L.getD j (0, 0))).take (n - pl L j)).length 0 (allOk_take ho j) (by omega) (by rw [List.length_append, hl2]; omega)
  have hI : items (encF (L.take j) ++ (enc1 (L.getD j (0, 0))).take (n - pl L j)) = ys ++ [(pl L j, (0, 0, 0, 72))] := by
    have := hy
    simp only [List.nil_append, List.length_nil, Nat.zero_add] at this
    exact this
  have hp : ys ++ [(pl L j, ((0, 0, 0, 72) : Rd))] <+: items (encF (L.take j) ++ (enc1 (L.getD j (0, 0))).take (n - pl L j)) := ⟨[], by rw [hI]; simp⟩
  obtain ⟨_, e2, e3⟩ := dec_bad hp (by simp)
  exact ⟨e2, e3⟩
def begF (L : List (Nat × Nat)) (n : Nat) : Nat → Bool
  | 0 => false
  | k + 1 => decide (pl L k = n) || begF L n k
def lastF (L : List (Nat × Nat)) (n : Nat) : Nat → Nat
  | 0 => 0
  | k + 1 => if pl L k ≤ n then pl L k else lastF L n k
theorem begF_true (L : List (Nat × Nat)) (n : Nat) : ∀ k, begF L n k = true → ∃ j, j < k ∧ pl L j = n
  | 0, h => by simp [begF] at h
  | k + 1, h => by
    by_cases e : pl L k = n
    · exact ⟨k, by omega, e⟩
    · simp only [begF, e, decide_false, Bool.false_or] at h
      obtain ⟨j, hj, hje⟩ := begF_true L n k h
      exact ⟨j, by omega, hje⟩
theorem begF_false (L : List (Nat × Nat)) (n : Nat) : ∀ k, begF L n k = false → ∀ j, j < k → ¬ pl L j = n
  | 0, _, j, hj => absurd hj (by omega)
  | k + 1, h, j, hj => by
    simp only [begF, Bool.or_eq_false_iff, decide_eq_false_iff_not] at h
    by_cases e : j = k
    · subst e; exact h.1
    · exact begF_false L n k h.2 j (by omega)
theorem lastF_is (L : List (Nat × Nat)) (n : Nat) : ∀ k, ∃ j, j < k + 1 ∧ lastF L n (k + 1) = pl L j ∧ pl L j ≤ n ∧ (j + 1 < k + 1 → n < pl L (j + 1))
  | 0 => ⟨0, by omega, by simp [lastF, pl, encF], by simp [pl, encF], fun h => absurd h (by omega)⟩
  | k + 1 => by
    by_cases e : pl L (k + 1) ≤ n
    · exact ⟨k + 1, by omega, by rw [lastF, if_pos e], e, fun h => absurd h (by omega)⟩
    · obtain ⟨j, h1, h2, h3, h4⟩ := lastF_is L n k
      refine ⟨j, by omega, by rw [lastF, if_neg e]; exact h2, h3, fun h => ?_⟩
      by_cases e2 : j + 1 < k + 1
      · exact h4 e2
      · obtain rfl : j = k := by omega
        omega
theorem cut_all (L : List (Nat × Nat)) (ho : allOk L = true) (hl : L.length ≤ 16384) (n : Nat) (hn : n ≤ (encF L).length) :
    (begF L n (L.length + 1) = true → dcI ((encF L).take n) = 0 ∧ dcX ((encF L).take n) = 0) ∧ (begF L n (L.length + 1) = false → dcI ((encF L).take n) = lastF L n (L.length + 1) ∧ dcX ((encF L).take n) = 72) := by
  refine ⟨fun h => ?_, fun h => ?_⟩
  · obtain ⟨j, _, hj⟩ := begF_true L n _ h
    exact cut_begins L ho hl j n hj
  · have hf := begF_false L n _ h
    obtain ⟨j, h1, h2, h3, h4⟩ := lastF_is L n L.length
    have hne := hf j h1
    have hpL : pl L L.length = (encF L).length := by unfold pl; rw [List.take_length]
    have hjl : j < L.length := by
      by_cases e : j = L.length
      · subst e; omega
      · omega
    rw [h2]
    exact cut_mid L ho hl j n hjl (by omega) (h4 (by omega))
end Go.Proofs.YtnplimdcfbgpeaaDoor
