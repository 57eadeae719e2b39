import Derived.Test.YtgbpfejodpplbaaGreatDoorCDLo
import Derived.Test.YtgbpfejodpplbaaGreatDoorCDRo
import Derived.Test.YtgbpfejodpplbaaGreatDoorCPPr
import Derived.Test.YtgbpfejodpplbaaGreatDoorCVTk
namespace Go.Proofs.YtgbpfejodpplbaaGreatDoor
open Go.RowKit Go.WideShapes
set_option maxRecDepth 100000

/-- what Longest answers: where the piece begins, the piece, the error -/
def lnP (L : List (Nat × Nat)) (a e : Nat) : Nat × Nat × Nat × Nat :=
  if a < e ∧ e ≤ L.length ∧ erV (L.getD a (0, 0)).1 (L.getD a (0, 0)).2 = 0 then (a, lgV ((L.drop a).take (e - a))) else (0, 0, 0, 0)
def lnE (L : List (Nat × Nat)) (a e : Nat) : Nat := if a < e ∧ e ≤ L.length then erV (L.getD a (0, 0)).1 (L.getD a (0, 0)).2 else 2
theorem crd_sub {w : World} {b off : Nat} {L : List (Nat × Nat)} {B a e : Nat} (hlt : b < B) (hae : a < e) (he : e ≤ L.length)
    (hc : ∀ j, j < L.length → w.cell? ⟨b, off + j * 2, none⟩ = some (.int .u8 (L.getD j (0, 0)).1) ∧ w.cell? ⟨b, off + j * 2 + 1, none⟩ = some (.int .u32 (L.getD j (0, 0)).2)) :
    CRd w (some ⟨b, off + a * 2, none⟩) ((L.drop a).take (e - a)) B := by
  intro _
  refine ⟨b, off + a * 2, rfl, hlt, fun j hj => ?_⟩
  simp only [List.length_take, List.length_drop] at hj
  have := hc (a + j) (by omega)
  have e1 : ((L.drop a).take (e - a)).getD j (0, 0) = L.getD (a + j) (0, 0) := by
    simp only [List.getD]
    rw [List.getElem?_take_of_lt (by omega), List.getElem?_drop]
  rw [e1, show off + a * 2 + j * 2 = off + (a + j) * 2 by omega]
  exact this
theorem wfc_sub {L : List (Nat × Nat)} (h : Wfc L) (a n : Nat) : Wfc ((L.drop a).take n) := fun p hp => h p (List.drop_subset _ _ (List.take_subset _ _ hp))
set_option maxHeartbeats 4000000 in
theorem Longest_any (ao : Option Addr) (cap a e : Nat) (L : List (Nat × Nat)) (w : World) (hL : L.length ≤ 140737488355328) (hcap : L.length ≤ cap) (ha : a < 4294967296) (he : e < 4294967296) (hwf : Wfc L) (hr : CRd w ao L w.heap.size) :
    Calls Tryz.prog 15 #[.slice ao L.length cap, .int .u32 (a : Int), .int .u32 (e : Int)] w fun x w' => x = .returned (.tuple #[.agg (pcA (lnP L a e).1 (lnP L a e).2), .int .i64 (lnE L a e : Int)]) ∧ Below w.heap.size w w' := by
  by_cases hae : a < e
  · have d1 : decide ((e : Int) ≤ (a : Int)) = false := by simp; omega
    by_cases hel : e ≤ L.length
    · have d2 : decide ((L.length : Int) < (e : Int)) = false := by simp; omega
      obtain ⟨b, off, rfl, hbl, hc⟩ := hr (by omega)
      have hsub := dhid (crd_sub (B := w.heap.size) hbl hae hel hc)
      have x0 := (hc a (by omega)).1
      have x1 := (hc a (by omega)).2
      obtain ⟨hop, harg⟩ := hwf.at (k := a) (by omega)
      have hi : (a : Int) < L.length := by omega
      have hwf' := dhid (wfc_sub hwf a (e - a))
      have hlen : ((L.drop a).take (e - a)).length = e - a := by simp; omega
      rw [show lnE L a e = erV (L.getD a (0, 0)).1 (L.getD a (0, 0)).2 by simp [lnE, hae, hel]]
      rw [show lnP L a e = if erV (L.getD a (0, 0)).1 (L.getD a (0, 0)).2 = 0 then (a, lgV ((L.drop a).take (e - a))) else (0, 0, 0, 0) by simp [lnP, hae, hel]]
      generalize L.getD a (0, 0) = pp at *
      obtain ⟨op, arg⟩ := pp
      simp only at x0 x1 hop harg ⊢
      generalize (L.drop a).take (e - a) = M at *
      have HC := dhid (fun w' => fcheck_any op arg w' hop)
      have HL := dhid (fun w' (hb : Below w.heap.size w w') => longest_any (some ⟨b, off + a * 2, none⟩) (cap - a) a M w' (by omega) hwf'.out ((hsub.out.below hb).mono hb.size))
      rw [hlen] at HL
      clear hc hr hwf hwf' hsub
      have hbd : Below w.heap.size w w := Below.refl _ _
      by_cases her : erV op arg = 0
      · rw [if_pos her, her]
        rw [her] at HC
        go_enter Tryz.func15, Tryz.ntmps15
        go_wp2_with (first
          | (go_at_call 36; refine (HC.out _).mono ?_; rintro x w1 ⟨rfl, hb1⟩
             have o1 := dhid ((hb1.block w.heap.size (by simp)).trans (heap_alloc_new w _))
             have hB1 := dhid ((hbd.alloc (Nat.le_refl _) _).trans (hb1.mono (by simp)))
             have hz1 := hB1.out.size)
          | (go_at_call 37; refine (HL.out _ hB1.out).mono ?_; rintro x w2 ⟨rfl, hb2⟩
             have o2 := dhid ((hb2.block w.heap.size (by have := hb1.size; simp at this; omega)).trans o1.out)
             have hB2 := dhid (hB1.out.trans (hb2.mono hz1)))
          | (refine wpList_store_rowD rfl _ _ _ rfl w.heap.size _ (pcA a (lgV M)) rfl rfl o2.out (by rw [sizeDPc]; rfl) rfl (by simp [pcA, Value.oneCell']) ?_))
        refine bodyPost_ret (resEPc (p := 6) (u := 7) (by kernel_rfl) _ _ w.heap.size (pcA a (lgV M)) rfl (setRow_heap _ _ _ _ _ _ o2.out) _ rfl rfl) rfl ⟨rfl, hB2.out.trans ((KpSetRow (S := fun k => k = w.heap.size) _ w.heap.size _ rfl).below hB2.out.size (fun i e => by omega))⟩
      · rw [if_neg her]
        have hE1 : ((erV op arg : Int) != 0) = true := by simp; omega
        have hE2 : ¬ (erV op arg : Int) = 0 := by omega
        go_enter Tryz.func15, Tryz.ntmps15
        go_wp2_with (first
          | (go_at_call 36; refine (HC.out _).mono ?_; rintro x w1 ⟨rfl, hb1⟩
             have o1 := dhid ((hb1.block w.heap.size (by simp)).trans (heap_alloc_new w _))
             have hB1 := dhid ((hbd.alloc (Nat.le_refl _) _).trans (hb1.mono (by simp))))
          | (refine wpList_store_rowD rfl _ _ _ rfl w.heap.size _ (pcA 0 (0, 0, 0)) rfl rfl o1.out (by rw [sizeDPc]; rfl) rfl (by simp [pcA, Value.oneCell']) ?_))
        refine bodyPost_ret (resEPc (p := 6) (u := 7) (by kernel_rfl) _ _ w.heap.size (pcA 0 (0, 0, 0)) rfl (setRow_heap _ _ _ _ _ _ o1.out) _ rfl rfl) rfl ⟨rfl, hB1.out.trans ((KpSetRow (S := fun k => k = w.heap.size) _ w.heap.size _ rfl).below hB1.out.size (fun i e => by omega))⟩
    · have d2 : decide ((L.length : Int) < (e : Int)) = true := by simp; omega
      rw [show lnE L a e = 2 by simp [lnE, hae, hel], show lnP L a e = (0, 0, 0, 0) by simp [lnP, hae, hel]]
      clear hr
      go_enter Tryz.func15, Tryz.ntmps15
      go_wp2
      exact bodyPost_ret (resEPc (p := 6) (u := 7) (by kernel_rfl) _ _ w.heap.size (pcA 0 (0, 0, 0)) rfl (heap_alloc_last w _) _ rfl rfl) rfl ⟨rfl, bel (Below.refl _ _)⟩
  · have d1 : decide ((e : Int) ≤ (a : Int)) = true := by simp; omega
    rw [show lnE L a e = 2 by simp [lnE, hae], show lnP L a e = (0, 0, 0, 0) by simp [lnP, hae]]
    clear hr
    go_enter Tryz.func15, Tryz.ntmps15
    go_wp2
    exact bodyPost_ret (resEPc (p := 6) (u := 7) (by kernel_rfl) _ _ w.heap.size (pcA 0 (0, 0, 0)) rfl (heap_alloc_last w _) _ rfl rfl) rfl ⟨rfl, bel (Below.refl _ _)⟩
end Go.Proofs.YtgbpfejodpplbaaGreatDoor
namespace Go.Proofs.YtgbpfejodpplbaaGreatDoor
open Go.RowKit Go.WideShapes Go.Shelf
set_option maxRecDepth 100000
/-- what an instruction makes a beginning -/
def gdA (L : List (Nat × Nat)) (i : Nat) : List Nat :=
  if opKi (opL L i) = 6 then [i]
  else if opKi (opL L i) = 2 ∨ opKi (opL L i) = 3 then [argL L i, i + 1]
  else if opKi (opL L i) = 4 ∨ opKi (opL L i) = 5 ∨ opKi (opL L i) = 7 ∨ opKi (opL L i) = 8 then [i + 1]
  else []
/-- all beginnings -/
def gdl (L : List (Nat × Nat)) (J : List Nat) : List Nat := (List.range L.length).flatMap (gdA L) ++ J
/-- does something begin there? -/
def ldB (L : List (Nat × Nat)) (J : List Nat) (k : Nat) : Bool := decide (k ∈ gdl L J)
/-- where no piece goes on -/
def gdE (L : List (Nat × Nat)) (J : List Nat) : List Nat := els (L.length + 1) (ldB L J)
theorem op_ki : ∀ op, op < 256 → isOp op = true → opKi op = 1 ∨ opKi op = 2 ∨ opKi op = 3 ∨ opKi op = 4 ∨ opKi op = 5 ∨ opKi op = 6 ∨ opKi op = 7 ∨ opKi op = 8 := by decide +kernel
theorem gd_in {L : List (Nat × Nat)} {J : List Nat} {M : List (ByteArray × Nat)} (hG : FdG L J M) {i : Nat} (hi : i < L.length) {j : Nat} (hj : j ∈ gdA L i) : j ≤ L.length ∧ ((opKi (opL L i) = 2 ∨ opKi (opL L i) = 3) → argL L i < L.length) := by
  obtain ⟨k, hk, h1, h2⟩ := lies_in hG.fst hi
  have e1 : bAt L k ≤ i := by unfold bAt; rw [getD_anyP hk L.length 0]; exact h1
  have hend := bgs_end (L := L) (k + 1)
  have ha : (opKi (opL L i) = 2 ∨ opKi (opL L i) = 3) → argL L i < L.length := fun h => by
    have hm : argL L i ∈ nxt L J i := by
      unfold nxt
      rcases h with h | h
      · rw [if_neg (by omega), if_pos h]
        split
        · rename_i he
          rw [← he]; simp
        · by_cases hc : i + 1 ≤ argL L i
          · rw [show max (i + 1) (argL L i) = argL L i by omega]; simp
          · rw [show min (i + 1) (argL L i) = argL L i by omega]; simp
      · rw [if_neg (by omega), if_neg (by omega), if_pos h]; simp
    have := (nxt_in hG hk e1 h2 hm).2
    exact Nat.lt_of_lt_of_le this hend
  refine ⟨?_, ha⟩
  unfold gdA at hj
  split at hj
  · simp at hj; omega
  · split at hj
    · rename_i h
      simp at hj
      rcases hj with rfl | rfl
      · exact Nat.le_of_lt (ha h)
      · omega
    · split at hj
      · simp at hj; omega
      · simp at hj
/-- the code's end is one of them -/
theorem gd_end {L : List (Nat × Nat)} {J : List Nat} {M : List (ByteArray × Nat)} (hG : FdG L J M) (hwf : Wfc L) (hn : 0 < L.length) : ldB L J L.length = true := by
  have hi : L.length - 1 < L.length := by omega
  obtain ⟨k, hk, h1, h2⟩ := lies_in hG.fst hi
  have e1 : bAt L k ≤ L.length - 1 := by unfold bAt; rw [getD_anyP hk L.length 0]; exact h1
  have hend := bgs_end (L := L) (k + 1)
  have hno : L.length ∉ nxt L J (L.length - 1) := fun hm => by
    have := (nxt_in hG hk e1 h2 hm).2
    change bAt L (k + 1) ≤ L.length at hend
    omega
  have hki := op_ki (opL L (L.length - 1)) (hwf.at hi).1 (enc_each hG.enc hi)
  refine decide_eq_true (List.mem_append_left _ (List.mem_flatMap.2 ⟨L.length - 1, List.mem_range.2 hi, ?_⟩))
  have hs : L.length - 1 + 1 = L.length := by omega
  unfold nxt at hno
  rw [hs] at hno
  unfold gdA
  rw [hs]
  generalize opKi (opL L (L.length - 1)) = kd at *
  rcases hki with h | h | h | h | h | h | h | h
  · exfalso; rw [if_pos (by omega)] at hno; simp at hno
  · rw [if_neg (by omega), if_pos (by omega)]; simp
  · rw [if_neg (by omega), if_pos (by omega)]; simp
  · rw [if_neg (by omega), if_neg (by omega), if_pos (by omega)]; simp
  · rw [if_neg (by omega), if_neg (by omega), if_pos (by omega)]; simp
  · exfalso; rw [if_pos (by omega)] at hno; simp at hno
  · rw [if_neg (by omega), if_neg (by omega), if_pos (by omega)]; simp
  · rw [if_neg (by omega), if_neg (by omega), if_pos (by omega)]; simp
/-- an operation that goes elsewhere -/
def ovB (op : Nat) : Bool := decide (2 ≤ op ∧ op ≤ 7)
/-- a comparison -/
def cmB (op : Nat) : Bool := decide (13 ≤ op ∧ op ≤ 28)
theorem do_ov : ∀ op, op < 256 → (op = 1 ∨ op = 8 ∨ op = 10 ∨ op = 11 ∨ unE op = 0 ∨ binE op 1 = 0) → ovB op = false ∧ cmB op = false := by decide +kernel
theorem cm_ov : ∀ op, op < 256 → opKi op = 2 → ovB op = false := by decide +kernel
theorem doD_some {ws ws' : List Nat} {op arg : Nat} (h : doD ws op arg = some ws') : op = 1 ∨ op = 8 ∨ op = 10 ∨ op = 11 ∨ unE op = 0 ∨ binE op 1 = 0 := by
  unfold doD at h
  by_cases h1 : op = 1
  · exact .inl h1
  by_cases h8 : op = 8
  · exact .inr (.inl h8)
  by_cases h10 : op = 10
  · exact .inr (.inr (.inl h10))
  by_cases h11 : op = 11
  · exact .inr (.inr (.inr (.inl h11)))
  by_cases hu : unE op = 0
  · exact .inr (.inr (.inr (.inr (.inl hu))))
  by_cases hb : binE op 1 = 0
  · exact .inr (.inr (.inr (.inr (.inr hb))))
  rw [if_neg h1, if_neg h8, if_neg h10, if_neg h11, if_neg hu, if_neg hb] at h
  cases h
/-- in a closed row nothing goes elsewhere, and a comparison is the last -/
theorem plD_row : ∀ (X : List (Nat × Nat)) (ws : List Nat) (k v : Nat), (∀ p ∈ X, p.1 < 256) → plD X ws = some (k, v) → (2 ≤ k ∧ k ≤ 4) ∧ ∀ j, j < X.length → ovB (X.getD j (0, 0)).1 = false ∧ (cmB (X.getD j (0, 0)).1 = true → j + 1 = X.length)
  | [], ws, k, v, _, h => by
    unfold plD at h
    split at h
    · cases h; exact ⟨by omega, fun j hj => absurd hj (by simp)⟩
    · split at h
      · cases h; exact ⟨by omega, fun j hj => absurd hj (by simp)⟩
      · cases h
  | p :: r, ws, k, v, hX, h => by
    have hop := hX p (by simp)
    by_cases h1 : erV p.1 p.2 = 0
    · by_cases h2 : opKi p.1 = 2
      · rw [plD_cmp h1 h2] at h
        split at h
        · rename_i hr
          obtain ⟨rfl, _⟩ := hr
          have hk : 2 ≤ k ∧ k ≤ 4 := by
            split at h <;> (cases h; omega)
          refine ⟨hk, fun j hj => ?_⟩
          obtain rfl : j = 0 := by simpa using hj
          exact ⟨cm_ov _ hop h2, fun _ => rfl⟩
        · cases h
      · cases h3 : doD ws p.1 p.2 with
        | none => rw [plD_no h2 h3] at h; cases h
        | some ws' =>
          rw [plD_on h1 h2 h3] at h
          obtain ⟨i1, i2⟩ := plD_row r ws' k v (fun q hq => hX q (by simp [hq])) h
          refine ⟨i1, fun j hj => ?_⟩
          cases j with
          | zero =>
            obtain ⟨a, b⟩ := do_ov _ hop (doD_some h3)
            exact ⟨a, fun hc => by rw [show ((p :: r).getD 0 (0, 0)).1 = p.1 from rfl, b] at hc; cases hc⟩
          | succ j =>
            have := i2 j (by simpa using hj)
            refine ⟨this.1, fun hc => ?_⟩
            have := this.2 hc
            simp [this]
    · rw [plD_er h1] at h; cases h
/-- the longest piece of a stretch -/
theorem lgV_row {X : List (Nat × Nat)} (hX : ∀ p ∈ X, p.1 < 256) (_ : 0 < X.length) : (lgV X = (1, 1, 0)) ∨ (2 ≤ (lgV X).1 ∧ (lgV X).1 ≤ X.length ∧ 2 ≤ (lgV X).2.1 ∧ (lgV X).2.1 ≤ 4 ∧ ∀ j, j < (lgV X).1 → ovB (X.getD j (0, 0)).1 = false ∧ (cmB (X.getD j (0, 0)).1 = true → j + 1 = (lgV X).1)) := by
  have h := lgF_bst X [] 0 (1, 1, 0) hX (by simp) (fun _ => rfl)
  change Bst X [] 0 (1, 1, 0) (lgV X) at h
  rcases h with ⟨n, k, v, h1, h2, h3, h4, h5, _⟩ | ⟨_, h⟩
  · right
    rw [h5]
    obtain ⟨a, b⟩ := plD_row (X.take n) [] k v (fun p hp => hX p (List.take_subset _ _ hp)) h4
    have hl : (X.take n).length = n := by simp; omega
    rw [hl] at b
    simp only [Nat.zero_add] at *
    refine ⟨h3, h2, a.1, a.2, fun j hj => ?_⟩
    have := b j hj
    have e : (X.take n).getD j (0, 0) = X.getD j (0, 0) := by
      simp only [List.getD]
      rw [List.getElem?_take_of_lt hj]
    rw [e] at this
    exact this
  · exact .inl h
/-- a piece: where it begins, its length, kind and value -/
abbrev Pce := Nat × Nat × Nat × Nat
/-- what FoldCovers asks of a piece -/
structure GdP (L : List (Nat × Nat)) (J : List Nat) (p : Pce) : Prop where
  len : 0 < p.2.1
  kd : 1 ≤ p.2.2.1 ∧ p.2.2.1 ≤ 4 ∧ (p.2.2.1 = 1 ↔ p.2.1 = 1)
  fit : p.1 + p.2.1 ≤ L.length
  ld : ∀ k, p.1 < k → k < p.1 + p.2.1 → ldB L J k = false
  row : 2 ≤ p.2.1 → ∀ k, p.1 ≤ k → k < p.1 + p.2.1 → ovB (opL L k) = false ∧ (cmB (opL L k) = true → k + 1 = p.1 + p.2.1)
/-- the lengths of pieces -/
def smP : List Pce → Nat
  | [] => 0
  | p :: r => p.2.1 + smP r
theorem smP_append (A B : List Pce) : smP (A ++ B) = smP A + smP B := by
  induction A with
  | nil => simp [smP]
  | cons a t ih => simp only [List.cons_append, smP, ih]; omega
/-- pieces one behind the other -/
def Tls (L : List (Nat × Nat)) (J : List Nat) (P : List Pce) : Prop := ∀ i, i < P.length → GdP L J (P.getD i (0, 0, 0, 0)) ∧ (P.getD i (0, 0, 0, 0)).1 = smP (P.take i)
theorem Tls.push {L : List (Nat × Nat)} {J : List Nat} {P : List Pce} {p : Pce} (h : Tls L J P) (hp : GdP L J p) (ha : p.1 = smP P) : Tls L J (P ++ [p]) := fun i hi => by
  by_cases hl : i < P.length
  · have e : (P ++ [p]).getD i (0, 0, 0, 0) = P.getD i (0, 0, 0, 0) := by simp [List.getD, List.getElem?_append_left hl]
    rw [e, List.take_append_of_le_length (by omega)]
    exact h i hl
  · obtain rfl : i = P.length := by simp at hi; omega
    have e : (P ++ [p]).getD P.length (0, 0, 0, 0) = p := by simp [List.getD]
    rw [e, List.take_append_of_le_length (Nat.le_refl _), List.take_length]
    exact ⟨hp, ha⟩
theorem smP_le : ∀ (P : List Pce) (i : Nat), smP (P.take i) ≤ smP P
  | [], i => by simp [smP]
  | p :: r, 0 => by simp [smP]
  | p :: r, i + 1 => by
    have := smP_le r i
    simp only [List.take_succ_cons, smP]
    omega
theorem smP_succ {P : List Pce} {i : Nat} (h : i < P.length) : smP (P.take (i + 1)) = smP (P.take i) + (P.getD i (0, 0, 0, 0)).2.1 := by
  rw [List.take_add_one, smP_append, List.getElem?_eq_getElem h, List.getD_eq_getElem?_getD, List.getElem?_eq_getElem h]
  simp [smP]
/-- the piece of an instruction as it stands -/
theorem gdP_one {L : List (Nat × Nat)} {J : List Nat} {a : Nat} (h : a < L.length) : GdP L J (a, 1, 1, 0) :=
  ⟨by show 0 < 1; omega, by show 1 ≤ 1 ∧ 1 ≤ 4 ∧ (1 = 1 ↔ 1 = 1); simp, h, fun k h1 h2 => by change a < k at h1; change k < a + 1 at h2; omega, fun h => by change 2 ≤ 1 at h; omega⟩
/-- what Longest answers within a stretch where nothing begins -/
theorem gdP_ln {L : List (Nat × Nat)} {J : List Nat} {a e : Nat} (hwf : Wfc L) (hae : a < e) (he : e ≤ L.length) (her : erV (L.getD a (0, 0)).1 (L.getD a (0, 0)).2 = 0) (hld : ∀ k, a < k → k < e → ldB L J k = false) : GdP L J (lnP L a e) ∧ (lnP L a e).1 = a ∧ a + (lnP L a e).2.1 ≤ e := by
  have hl : lnP L a e = (a, lgV ((L.drop a).take (e - a))) := if_pos ⟨hae, he, her⟩
  rw [hl]
  have hX : ((L.drop a).take (e - a)).length = e - a := by simp; omega
  have hg : ∀ j, j < e - a → ((L.drop a).take (e - a)).getD j (0, 0) = L.getD (a + j) (0, 0) := fun j hj => by
    simp only [List.getD]
    rw [List.getElem?_take_of_lt hj, List.getElem?_drop]
  have hr := lgV_row (X := (L.drop a).take (e - a)) (fun p hp => (hwf p (List.drop_subset _ _ (List.take_subset _ _ hp))).1) (by omega)
  generalize lgV ((L.drop a).take (e - a)) = q at *
  rcases hr with rfl | ⟨h1, h2, h3, h4, h5⟩
  · exact ⟨gdP_one (by omega), rfl, hae⟩
  · rw [hX] at h2
    refine ⟨⟨by show 0 < q.1; omega, ⟨by show 1 ≤ q.2.1; omega, h4, by show q.2.1 = 1 ↔ q.1 = 1; omega⟩, by show a + q.1 ≤ L.length; omega, fun k k1 k2 => hld k k1 (by change k < a + q.1 at k2; omega), fun _ k k1 k2 => ?_⟩, rfl, by show a + q.1 ≤ e; omega⟩
    change a ≤ k at k1
    change k < a + q.1 at k2
    have := h5 (k - a) (by omega)
    rw [hg (k - a) (by omega), show a + (k - a) = k by omega] at this
    refine ⟨this.1, fun hc => ?_⟩
    have := this.2 hc
    show k + 1 = a + q.1
    omega
end Go.Proofs.YtgbpfejodpplbaaGreatDoor
namespace Go.Proofs.YtgbpfejodpplbaaGreatDoor
open Go.RowKit Go.WideShapes Go.Shelf
set_option maxRecDepth 100000
/-- truth values by a list of places -/
def lbv (m : Nat) (A : List Nat) : List Value := (List.range m).map fun k => Value.bool (decide (k ∈ A))
theorem lbv_len (m : Nat) (A : List Nat) : (lbv m A).length = m := by simp [lbv]
theorem lbv_get {m k : Nat} (A : List Nat) (h : k < m) : (lbv m A)[k]? = some (.bool (decide (k ∈ A))) := by simp [lbv, h]
theorem lbv_put {m x : Nat} (A : List Nat) (_ : x < m) : (lbv m A).set x (.bool true) = lbv m (A ++ [x]) := by
  refine List.ext_getElem? fun k => ?_
  rw [List.getElem?_set]
  by_cases hk : k < m
  · rw [lbv_get (A ++ [x]) hk]
    by_cases e : x = k
    · subst e
      rw [if_pos rfl, if_pos (by rw [lbv_len]; exact hk)]
      simp
    · rw [if_neg e, lbv_get A hk]
      have e' : ¬ k = x := fun q => e q.symm
      simp [e']
  · have h2 : (lbv m (A ++ [x]))[k]? = none := List.getElem?_eq_none (by rw [lbv_len]; omega)
    have h1 : (lbv m A)[k]? = none := List.getElem?_eq_none (by rw [lbv_len]; omega)
    rw [h2]
    by_cases e : x = k
    · omega
    · rw [if_neg e, h1]
theorem lbv_nil (m : Nat) : lbv m [] = List.replicate m (.bool false) := by
  refine List.ext_getElem? fun k => ?_
  by_cases hk : k < m
  · rw [lbv_get [] hk]; simp [hk]
  · rw [List.getElem?_eq_none (by rw [lbv_len]; omega), List.getElem?_eq_none (by simp; omega)]
theorem gd_succ (f : Nat → List Nat) (n : Nat) : (List.range (n + 1)).flatMap f = (List.range n).flatMap f ++ f n := by
  rw [List.range_succ, List.flatMap_append]
  simp
theorem els_at {n : Nat} {p : Nat → Bool} {q : Nat} (h : q < (els n p).length) : (els n p).getD q 0 < n ∧ p ((els n p).getD q 0) = true := by
  have : (els n p).getD q 0 ∈ els n p := by rw [List.getD_eq_getElem?_getD, List.getElem?_eq_getElem h]; exact List.getElem_mem h
  exact mem_els.1 this
theorem els_lt {n : Nat} {p : Nat → Bool} {i j : Nat} (hij : i < j) (hj : j < (els n p).length) : (els n p).getD i 0 < (els n p).getD j 0 := by
  have := List.pairwise_iff_getElem.1 (els_up n p) i j (by omega) hj hij
  rw [List.getD_eq_getElem?_getD, List.getD_eq_getElem?_getD, List.getElem?_eq_getElem hj, List.getElem?_eq_getElem (show i < (els n p).length by omega)]
  exact this
theorem els_has {n : Nat} {p : Nat → Bool} {k : Nat} (hk : k < n) (hp : p k = true) : ∃ i, i < (els n p).length ∧ (els n p).getD i 0 = k := by
  obtain ⟨i, hi, e⟩ := List.getElem_of_mem (mem_els.2 ⟨hk, hp⟩)
  exact ⟨i, hi, by rw [List.getD_eq_getElem?_getD, List.getElem?_eq_getElem hi]; exact e⟩
/-- ahead of an element there is only what lies no further than the one ahead -/
theorem els_gap {n : Nat} {p : Nat → Bool} {q k : Nat} (hq : q < (els n p).length) (hk : k < (els n p).getD q 0) (hp : p k = true) : 0 < q ∧ k ≤ (els n p).getD (q - 1) 0 := by
  have hn := (els_at hq).1
  obtain ⟨i, hi, e⟩ := els_has (n := n) (p := p) (k := k) (by omega) hp
  have hiq : i < q := by
    rcases Nat.lt_trichotomy i q with h | h | h
    · exact h
    · subst h; omega
    · have := els_lt h hi; omega
  refine ⟨by omega, ?_⟩
  by_cases h : i = q - 1
  · subst h; omega
  · have := els_lt (n := n) (p := p) (i := i) (j := q - 1) (by omega) (by omega)
    omega
theorem els_last {n : Nat} {p : Nat → Bool} (hp : p n = true) : 0 < (els (n + 1) p).length ∧ (els (n + 1) p).getD ((els (n + 1) p).length - 1) 0 = n := by
  rw [els_succ, hp]
  simp
/-- pieces as they lie in memory -/
def pcv (P : List Pce) : List Value := P.flatMap fun p => [.int .u32 (p.1 : Nat), .int .u32 (p.2.1 : Nat), .int .u8 (p.2.2.1 : Nat), .int .u32 (p.2.2.2 : Nat)]
theorem pcv_append (P Q : List Pce) : pcv (P ++ Q) = pcv P ++ pcv Q := by simp [pcv]
theorem pcv_len (P : List Pce) : (pcv P).length = P.length * 4 := by
  induction P with
  | nil => rfl
  | cons a t ih => simp only [pcv, List.flatMap_cons, List.length_append, List.length_cons, List.length_nil] at *; omega
theorem pcv_all (d : Pce) : ∀ (P : List Pce) (m : Nat), m < P.length → (pcv P)[m * 4]? = some (.int .u32 ((P.getD m d).1 : Nat)) ∧ (pcv P)[m * 4 + 1]? = some (.int .u32 ((P.getD m d).2.1 : Nat)) ∧ (pcv P)[m * 4 + 2]? = some (.int .u8 ((P.getD m d).2.2.1 : Nat)) ∧ (pcv P)[m * 4 + 3]? = some (.int .u32 ((P.getD m d).2.2.2 : Nat))
  | [], m, h => by simp at h
  | a :: t, 0, _ => ⟨rfl, rfl, rfl, rfl⟩
  | a :: t, m + 1, h => by
    have := pcv_all d t m (by simpa using h)
    rw [show (m + 1) * 4 = m * 4 + 4 by omega]
    simpa [pcv] using this
/-- what abides at the head of a round of Pieces: nothing begins between -/
def NoB (L : List (Nat × Nat)) (J : List Nat) (a q : Nat) : Prop := ∀ k, k < (gdE L J).getD q 0 → ldB L J k = true → k ≤ a
theorem NoB.mono {L : List (Nat × Nat)} {J : List Nat} {a b q : Nat} (h : NoB L J a q) (hab : a ≤ b) : NoB L J b q := fun k h1 h2 => Nat.le_trans (h k h1 h2) hab
theorem NoB.ld {L : List (Nat × Nat)} {J : List Nat} {a q : Nat} (h : NoB L J a q) : ∀ k, a < k → k < (gdE L J).getD q 0 → ldB L J k = false := fun k h1 h2 => by
  cases hb : ldB L J k with
  | false => rfl
  | true => exact absurd (h k h2 hb) (by omega)
theorem NoB.zero {L : List (Nat × Nat)} {J : List Nat} (h : 0 < (gdE L J).length) : NoB L J 0 0 := fun k h1 h2 => absurd (els_gap h h1 h2).1 (by omega)
theorem NoB.next {L : List (Nat × Nat)} {J : List Nat} {q : Nat} (h : q + 1 < (gdE L J).length) : NoB L J ((gdE L J).getD q 0) (q + 1) ∧ (gdE L J).getD q 0 ≤ (gdE L J).getD (q + 1) 0 :=
  ⟨fun _ h1 h2 => (els_gap h h1 h2).2, Nat.le_of_lt (els_lt (Nat.lt_succ_self q) h)⟩
theorem gdE_end {L : List (Nat × Nat)} {J : List Nat} {M : List (ByteArray × Nat)} (hG : FdG L J M) (hwf : Wfc L) (hn : 0 < L.length) : 0 < (gdE L J).length ∧ (gdE L J).getD ((gdE L J).length - 1) 0 = L.length := els_last (gd_end hG hwf hn)
theorem gdE_at {L : List (Nat × Nat)} {J : List Nat} {q : Nat} (h : q < (gdE L J).length) : (gdE L J).getD q 0 ≤ L.length := by
  have := (els_at h).1
  change (gdE L J).getD q 0 < L.length + 1 at this
  omega
theorem gdE_len (L : List (Nat × Nat)) (J : List Nat) : (gdE L J).length ≤ L.length + 1 := els_le _ _
end Go.Proofs.YtgbpfejodpplbaaGreatDoor
namespace Go.Proofs.YtgbpfejodpplbaaGreatDoor
open Go.RowKit Go.WideShapes Go.Shelf
set_option maxRecDepth 100000

theorem meq_self (a : Nat) (w : World) : (binOp .eql 29 (.pointer (some ⟨a, 0, none⟩)) (.pointer (some ⟨a, 0, none⟩))).run Tryz.prog w = .ok (.bool true) w := by
  have h : (Tryz.prog.info? 62).map (·.size) = some 11 := by kernel_rfl
  cases hi : Tryz.prog.info? 62 with
  | none => rw [hi] at h; cases h
  | some i => exact run_eql_ptr_same w ⟨a, 0, none⟩ Tryz.underlying29 hi
theorem mmade_any (a : Nat) (w : World) (hc : w.cell? ⟨a, 0, none⟩ = some (.pointer (some ⟨a, 0, none⟩))) :
    Calls Tryz.prog 39 #[.pointer (some ⟨a, 0, none⟩)] w fun e w' => e = .returned (.bool true) ∧ w' = w := by
  have hq := meq_self a w
  go_enter Tryz.func39, Tryz.ntmps39
  go_wp2
  go_ret
  exact ⟨rfl, rfl⟩
/-- the module's cells -/
theorem mcells {w : World} {B pm : Nat} {L : List (Nat × Nat)} {J : List Nat} {ds : List Int} {z st : Nat} {M : List (ByteArray × Nat)} {D N : List Int} (h : Mod w B pm L J ds z st M D N) : w.cell? ⟨pm, 0, none⟩ = some (.pointer (some ⟨pm, 0, none⟩)) := by
  obtain ⟨_, _, a1, c1, a2, c2, a3, c3, a4, c4, Bp, pp, p1, g1, p2, g2, lv, lw, A, C, gd, cp, _, _, h4⟩ := h
  exact (obj_cell h4.obj 0).trans rfl
theorem mlen {w : World} {B pm : Nat} {L : List (Nat × Nat)} {J : List Nat} {ds : List Int} {z st : Nat} {M : List (ByteArray × Nat)} {D N : List Int} (h : Mod w B pm L J ds z st M D N) : L.length ≤ 16384 := encX_len h.2.1.fd.enc
set_option maxHeartbeats 2000000 in
theorem depth_any {w : World} {pm gd cp : Nat} {D : List Int} (x : Nat) (_hx : x < 4294967296) (hD : D.length ≤ 16384) (hc : w.cell? ⟨pm, 10, none⟩ = some (.slice (some ⟨gd, 0, none⟩) D.length cp)) (hr : ∀ i, i < D.length → w.cell? ⟨gd, i, none⟩ = some (.int .i64 (D.getD i (-1)))) :
    Calls Tryz.prog 41 #[.pointer (some ⟨pm, 10, none⟩), .int .u32 x] w fun e w' => e = .returned (.int .i64 (D.getD x (-1))) ∧ w' = w := by
  by_cases h : x < D.length
  · have hI : ¬ (D.length : Int) ≤ (x : Int) := by omega
    have hxI : (x : Int) < (D.length : Int) := by omega
    have c := hr x h
    generalize D.getD x (-1) = d at *
    clear hr
    go_enter Tryz.func41, Tryz.ntmps41
    go_wp2
    go_ret
    exact ⟨rfl, rfl⟩
  · have hI : (D.length : Int) ≤ (x : Int) := by omega
    have e : D.getD x (-1) = -1 := by rw [List.getD_eq_getElem?_getD, List.getElem?_eq_none (by omega)]; rfl
    rw [e]
    clear hr
    go_enter Tryz.func41, Tryz.ntmps41
    go_wp2
    go_ret
    exact ⟨rfl, rfl⟩
set_option maxHeartbeats 2000000 in
theorem mdepth_any {w : World} {B pm : Nat} {L : List (Nat × Nat)} {J : List Nat} {ds : List Int} {z st : Nat} {M : List (ByteArray × Nat)} {D N : List Int} (x : Nat) (hx : x < 4294967296) (h : Mod w B pm L J ds z st M D N) :
    Calls Tryz.prog 20 #[.pointer (some ⟨pm, 0, none⟩), .int .u32 x] w fun e w' => e = .returned (.int .i64 (D.getD x (-1))) ∧ w' = w := by
  have hM := mmade_any pm w (mcells h)
  have hl := mlen h
  obtain ⟨_, hK, a1, c1, a2, c2, a3, c3, a4, c4, Bp, pp, p1, g1, p2, g2, lv, lw, A, C, gd, cp, _, _, h4⟩ := h
  have q : w.cell? ⟨pm, 10, none⟩ = some (.slice (some ⟨gd, 0, none⟩) D.length cp) := (obj_cell h4.obj 10).trans rfl
  have hD := depth_any x hx (by rw [hK.dp.len]; exact hl) q (fun i hi => h4.dep.cell hi)
  clear h4 hK q
  go_enter Tryz.func20, Tryz.ntmps20
  go_wp2_with (first
    | (go_at_call 39; refine hM.mono ?_; rintro e w2 ⟨rfl, hw2⟩; have hw2 := hw2.symm; subst hw2)
    | (go_at_call 41; refine hD.mono ?_; rintro e w2 ⟨rfl, hw2⟩; have hw2 := hw2.symm; subst hw2))
  go_ret
  exact ⟨rfl, rfl⟩
end Go.Proofs.YtgbpfejodpplbaaGreatDoor
namespace Go.Proofs.YtgbpfejodpplbaaGreatDoor
open Go.RowKit Go.WideShapes Go.Shelf
set_option maxRecDepth 100000
theorem imo_code {w : World} {B : Nat} {a1 : Option Addr} {c1 : Nat} {a2 : Option Addr} {c2 : Nat} {a3 : Option Addr} {c3 : Nat} {a4 : Option Addr} {c4 : Nat} {L : List (Nat × Nat)} {J : List Nat} {ds : List Int} {M : List (ByteArray × Nat)} (h : ImO w B a1 c1 a2 c2 a3 c3 a4 c4 L J ds M) : CRd w a1 L w.heap.size := fun q => by
  have hrow := h.code q
  rcases hrow.2 with ⟨_, hz⟩ | ⟨g, cap, cur, e1, _, e3, _⟩
  · omega
  · simp only [Value.slice.injEq] at e1
    obtain ⟨rfl, _, rfl⟩ := e1
    refine ⟨g, 0, rfl, (Array.getElem?_eq_some_iff.1 e3).1, fun k hk => ?_⟩
    obtain ⟨s0, s1⟩ := get2 (fun p : Nat × Nat => Value.int .u8 p.1) (fun p => Value.int .u32 p.2) (0, 0) L k hk
    have v0 := hrow.cells (g := g) rfl _ _ s0
    have v1 := hrow.cells (g := g) rfl _ _ s1
    rw [add_plain] at v0 v1
    rw [Nat.zero_add] at v0 v1 ⊢
    exact ⟨v0, v1⟩
theorem imo_names {w : World} {B : Nat} {a1 : Option Addr} {c1 : Nat} {a2 : Option Addr} {c2 : Nat} {a3 : Option Addr} {c3 : Nat} {a4 : Option Addr} {c4 : Nat} {L : List (Nat × Nat)} {J : List Nat} {ds : List Int} {M : List (ByteArray × Nat)} (h : ImO w B a1 c1 a2 c2 a3 c3 a4 c4 L J ds M) : NRd w a4 M w.heap.size := fun q => by
  have hrow := h.names q
  rcases hrow.2 with ⟨_, hz⟩ | ⟨g, cap, cur, e1, _, e3, _⟩
  · omega
  · simp only [Value.slice.injEq] at e1
    obtain ⟨rfl, _, rfl⟩ := e1
    refine ⟨g, 0, rfl, (Array.getElem?_eq_some_iff.1 e3).1, fun k hk => ?_⟩
    obtain ⟨s0, s1⟩ := get2 (fun p : ByteArray × Nat => Value.string p.1) (fun p => Value.int .u32 p.2) (.empty, 0) M k hk
    have v0 := hrow.cells (g := g) rfl _ _ s0
    have v1 := hrow.cells (g := g) rfl _ _ s1
    rw [add_plain] at v0 v1
    rw [Nat.zero_add] at v0 v1 ⊢
    exact ⟨v0, v1⟩
theorem imo_jumps {w : World} {B : Nat} {a1 : Option Addr} {c1 : Nat} {a2 : Option Addr} {c2 : Nat} {a3 : Option Addr} {c3 : Nat} {a4 : Option Addr} {c4 : Nat} {L : List (Nat × Nat)} {J : List Nat} {ds : List Int} {M : List (ByteArray × Nat)} (h : ImO w B a1 c1 a2 c2 a3 c3 a4 c4 L J ds M) : JRd w a2 J w.heap.size := fun q => by
  have hrow := h.jumps q
  rcases hrow.2 with ⟨_, hz⟩ | ⟨g, cap, cur, e1, _, e3, _⟩
  · omega
  · simp only [Value.slice.injEq] at e1
    obtain ⟨rfl, _, rfl⟩ := e1
    refine ⟨g, 0, rfl, (Array.getElem?_eq_some_iff.1 e3).1, fun k hk => ?_⟩
    have v0 := hrow.cells (g := g) rfl k (.int .u32 (J.getD k 0 : Nat)) (by simp [dv, List.getElem?_eq_getElem hk, List.getD_eq_getElem?_getD])
    rw [add_plain] at v0
    exact v0
theorem imo_data {w : World} {B : Nat} {a1 : Option Addr} {c1 : Nat} {a2 : Option Addr} {c2 : Nat} {a3 : Option Addr} {c3 : Nat} {a4 : Option Addr} {c4 : Nat} {L : List (Nat × Nat)} {J : List Nat} {ds : List Int} {M : List (ByteArray × Nat)} (h : ImO w B a1 c1 a2 c2 a3 c3 a4 c4 L J ds M) : Reads w a3 ds w.heap.size := fun q => by
  have hrow := h.data q
  rcases hrow.2 with ⟨_, hz⟩ | ⟨g, cap, cur, e1, _, e3, _⟩
  · omega
  · simp only [Value.slice.injEq] at e1
    obtain ⟨rfl, _, rfl⟩ := e1
    refine ⟨g, 0, rfl, (Array.getElem?_eq_some_iff.1 e3).1, fun k hk => ?_⟩
    have v0 := hrow.cells (g := g) rfl k (.int .u8 (ds.getD k 0)) (by simp [bv, List.getElem?_eq_getElem hk, List.getD_eq_getElem?_getD])
    rw [add_plain] at v0
    exact v0
abbrev zImV : Array Value := #[.slice none 0 0, .slice none 0 0, .slice none 0 0, .int .u32 0, .int .u32 0, .slice none 0 0]
theorem kpRowV {S : Nat → Prop} (w : World) (g : Nat) (cs : Array Value) (hs : S g) : Kp S w (w.setRow g cs) :=
  ⟨rfl, rfl, rfl, by simp [World.setRow], fun k _ hn => setRow_other w g k cs (fun e => hn (e ▸ hs))⟩
theorem own_rowV {W : World} {B e sz n g : Nat} {v : Value} {xs : List Value} (h : W.ownsRow B e sz v n xs) (hg : g < B) (cs : Array Value) : (W.setRow g cs).ownsRow B e sz v n xs :=
  (kpRowV (S := fun k => k = g) W g cs rfl).own h (fun k q e => by have := (h.lt k q).1; omega)
set_option maxHeartbeats 2000000 in
theorem mimage_any {w : World} {B pm : Nat} {L : List (Nat × Nat)} {J : List Nat} {ds : List Int} {z st : Nat} {M : List (ByteArray × Nat)} {D N : List Int} (h : Mod w B pm L J ds z st M D N) :
    Calls Tryz.prog 17 #[.pointer (some ⟨pm, 0, none⟩)] w (CdP w L J ds z st M) := by
  obtain ⟨w1, hw1⟩ : ∃ w1, w.alloc (.cells zImV 28) = w1 := ⟨_, rfl⟩
  have hb1 : Below w.heap.size w w1 := by rw [← hw1]; exact belP (Below.refl _ _)
  have hz1 : w1.heap.size = w.heap.size + 1 := by rw [← hw1]; simp
  have hl := mlen h
  have h' := h.below hb1
  have hM := mmade_any pm w1 (mcells h')
  obtain ⟨_, hK, a1, c1, a2, c2, a3, c3, a4, c4, Bp, pp, p1, g1, p2, g2, lv, lw, A, C, gd, cp, _, _, h4⟩ := h'
  have hk0 := ckV_0 hK.ck
  have hC := vcloned_any a1 a2 a3 a4 c1 c2 c3 z st c4 L J ds M w1 (by omega) (by omega) (by omega) (Nat.le_trans (names_len hk0.2.2.2.2) (by decide)) (fun p hp => Nat.le_trans (names_size hk0.2.2.2.2 p hp) (by decide)) (imo_code h4.im) (imo_jumps h4.im) (imo_data h4.im) (imo_names h4.im)
  have q0 : w1.cell? ⟨pm, 1, none⟩ = some (.slice a1 L.length c1) := (obj_cell h4.obj 1).trans rfl
  have q1 : w1.cell? ⟨pm, 2, none⟩ = some (.slice a2 J.length c2) := (obj_cell h4.obj 2).trans rfl
  have q2 : w1.cell? ⟨pm, 3, none⟩ = some (.slice a3 ds.length c3) := (obj_cell h4.obj 3).trans rfl
  have q3 : w1.cell? ⟨pm, 4, none⟩ = some (.int .u32 (z : Nat)) := (obj_cell h4.obj 4).trans rfl
  have q4 : w1.cell? ⟨pm, 5, none⟩ = some (.int .u32 (st : Nat)) := (obj_cell h4.obj 5).trans rfl
  have q5 : w1.cell? ⟨pm, 6, none⟩ = some (.slice a4 M.length c4) := (obj_cell h4.obj 6).trans rfl
  have ho : w1.heap[w.heap.size]? = some (.cells zImV 28) := by rw [← hw1]; exact heap_alloc_last w _
  have HC := hidS hC
  have HM := hidS hM
  have HW1 := hidS hw1
  have HB1 := hidS hb1
  have HO := hidS ho
  clear hw1 h h4 hK hk0 hC hM hb1 ho
  go_enter Tryz.func17, Tryz.ntmps17
  go_wp2_with fail
  rw [HW1.out]
  refine HM.out.mono ?_
  rintro e wq ⟨rfl, hq⟩
  subst wq
  go_wp2_with fail
  refine HC.out.mono ?_
  rintro e w2 ⟨a1', k1, a2', k2, a3', k3, a4', k4, rfl, hIm, hb2⟩
  have ho2 := (hb2.block w.heap.size (by omega)).trans HO.out
  have HI := hidS hIm
  have HB2 := hidS hb2
  clear hIm hb2 q0 q1 q2 q3 q4 q5
  go_wp2_with (refine wpList_store_rowV rfl _ _ _ rfl w.heap.size _ (imC a1' L.length k1 a2' J.length k2 a3' ds.length k3 z st a4' M.length k4) rfl rfl ho2 (by rw [sizeVIm]; rfl) rfl (by simp [Value.oneCell']) ?_)
  have HN := hidS (setRow_heap w2 w.heap.size _ (imC a1' L.length k1 a2' J.length k2 a3' ds.length k3 z st a4' M.length k4) _ _ ho2)
  refine bodyPost_ret (resVIm (p := 2) (by kernel_rfl) _ w.heap.size (imC a1' L.length k1 a2' J.length k2 a3' ds.length k3 z st a4' M.length k4) rfl HN.out _ rfl) rfl ?_
  have hI := HI.out
  exact ⟨a1', k1, a2', k2, a3', k3, a4', k4, rfl, ⟨hI.k1, hI.k2, hI.k3, hI.k4, fun q => own_monoV (own_rowV (hI.code q) (by omega) _) (by omega), fun q => own_monoV (own_rowV (hI.jumps q) (by omega) _) (by omega), fun q => own_monoV (own_rowV (hI.data q) (by omega) _) (by omega), fun q => own_monoV (own_rowV (hI.names q) (by omega) _) (by omega)⟩, below_setRow (HB1.out.trans (HB2.out.mono (by omega))) (Nat.le_refl _) _⟩
end Go.Proofs.YtgbpfejodpplbaaGreatDoor
