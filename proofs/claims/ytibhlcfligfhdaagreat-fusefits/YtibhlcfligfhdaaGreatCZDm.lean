import Derived.Test.YtibhlcfligfhdaaGreatCZMk
import Derived.RangeFuncNested
import Derived.RangeFuncBound
import Derived.RangeFuncCalls
import Derived.RangeFuncLeaves
import Derived.OwnWalkIn
import Derived.TacticsInMore
import Derived.LoopNIn
import Derived.LoopIn
namespace Go.Proofs.YtibhlcfligfhdaaGreat
open Go.RowKit Go.WideShapes
set_option maxRecDepth 100000
def plR : List (Nat × Nat) → List Nat → Option (List Nat)
 | [], ws => some ws
 | p :: r, ws => if erV p.1 p.2 = 0 ∧ ¬ opKi p.1 = 2 then (match doD ws p.1 p.2 with | none => none | some ws' => plR r ws') else none
theorem plR_on {p : Nat × Nat} {r : List (Nat × Nat)} {ws ws' : List Nat} (h1 : erV p.1 p.2 = 0) (h2 : ¬ opKi p.1 = 2) (h3 : doD ws p.1 p.2 = some ws') : plR (p :: r) ws = plR r ws' := by simp [plR, h1, h2, h3]
theorem plD_word : ∀ (A : List (Nat × Nat)) (ws : List Nat) (v : Nat), plD A ws = some (2, v) → plR A ws = some [v]
 | [], ws, v, h => by
   unfold plD at h
   split at h
   · cases h
   · split at h
     · rename_i h1
       cases h
       match ws, h1 with
       | [x], _ => rfl
     · cases h
 | p :: r, ws, v, h => by
   by_cases h1 : erV p.1 p.2 = 0
   · by_cases h2 : opKi p.1 = 2
     · rw [plD_cmp h1 h2] at h
       split at h
       · split at h <;> cases h
       · cases h
     · cases hd : doD ws p.1 p.2 with
       | none => rw [plD_no h2 hd] at h; cases h
       | some ws' =>
         rw [plD_on h1 h2 hd] at h
         rw [plR_on h1 h2 hd]
         exact plD_word r ws' v h
   · rw [plD_er h1] at h; cases h
theorem plD_app : ∀ (A B : List (Nat × Nat)) (ws ws' : List Nat), plR A ws = some ws' → plD (A ++ B) ws = plD B ws'
 | [], B, ws, ws', h => by cases h; rfl
 | p :: r, B, ws, ws', h => by
   unfold plR at h
   split at h
   · rename_i h1
     cases hd : doD ws p.1 p.2 with
     | none => rw [hd] at h; cases h
     | some wt =>
       rw [hd] at h
       rw [List.cons_append, plD_on h1.1 h1.2 hd]
       exact plD_app r B wt ws' h
   · cases h
def stpB (op : Nat) : Bool := decide (opKi op = 2) || (decide (¬ op = 1) && decide (¬ op = 8) && decide (¬ op = 10) && decide (¬ op = 11) && decide (¬ unE op = 0))
theorem stp_none {p : Nat × Nat} {r : List (Nat × Nat)} (v : Nat) (h : stpB p.1 = true) : plD (p :: r) [v] = none := by
 by_cases h1 : erV p.1 p.2 = 0
 · by_cases h2 : opKi p.1 = 2
   · rw [plD_cmp h1 h2, if_neg (fun e => by simp at e)]
   · refine plD_no h2 ?_
     simp only [stpB, Bool.or_eq_true, Bool.and_eq_true, decide_eq_true_eq] at h
     rcases h with h | ⟨⟨⟨⟨a, b⟩, c⟩, d⟩, e⟩
     · exact absurd h h2
     · unfold doD
       rw [if_neg a, if_neg b, if_neg c, if_neg d, if_neg e]
       split
       · rw [if_neg (fun q => by simp at q)]
       · rfl
 · exact plD_er h1
theorem stp_cmp : ∀ op, op < 256 → 13 ≤ op → op ≤ 28 → stpB op = true := by decide +kernel
theorem stp_ls : ∀ op, op < 256 → 29 ≤ op → op ≤ 34 → stpB op = true := by decide +kernel
theorem stp_bin : ∀ op, op < 256 → 39 ≤ op → op ≤ 57 → opTa op = 2 → stpB op = true := by decide +kernel
theorem stp_5 : stpB 5 = true ∧ stpB 12 = true := by decide +kernel
theorem stp_all {L : List (Nat × Nat)} {m v : Nat} {p : Nat × Nat} (hv : plD (L.take m) [] = some (2, v)) (hm : L[m]? = some p) (hs : stpB p.1 = true) (n : Nat) (hn : m < n) : plD (L.take n) [] = none := by
 have hl := (List.getElem?_eq_some_iff.1 hm).1
 have e : L.take n = L.take m ++ (p :: (L.drop (m + 1)).take (n - m - 1)) := by
   have h1 : L.take n = L.take m ++ (L.drop m).take (n - m) := by
     rw [show n = m + (n - m) by omega, List.take_add, show m + (n - m) - m = n - m by omega]
   rw [h1, List.drop_eq_getElem_cons hl, (List.getElem?_eq_some_iff.1 hm).2, show n - m = (n - m - 1) + 1 by omega, List.take_succ_cons, show n - m - 1 + 1 - 1 = n - m - 1 by omega]
 rw [e, plD_app _ _ _ _ (plD_word _ _ _ hv)]
 exact stp_none v hs
theorem cnD_one {p : Nat × Nat} {v : Nat} : plD [p] [] = some (2, v) ↔ erV p.1 p.2 = 0 ∧ p.1 = 8 ∧ p.2 = v := by
 constructor
 · intro h
   by_cases h1 : erV p.1 p.2 = 0
   · by_cases h2 : opKi p.1 = 2
     · rw [plD_cmp h1 h2, if_neg (fun e => by simp at e)] at h; cases h
     · cases hd : doD [] p.1 p.2 with
       | none => rw [plD_no h2 hd] at h; cases h
       | some ws =>
         rw [plD_on h1 h2 hd] at h
         unfold doD at hd
         split at hd
         · cases hd; cases h
         split at hd
         · rename_i _ h8
           simp at hd
           subst hd
           simp [plD] at h
           exact ⟨h1, h8, h⟩
         split at hd
         · simp at hd
         split at hd
         · simp at hd
         split at hd
         · simp at hd
         split at hd
         · simp at hd
         · cases hd
   · rw [plD_er h1] at h; cases h
 · rintro ⟨h1, h8, rfl⟩
   have h2 : ¬ opKi p.1 = 2 := by rw [h8]; decide +kernel
   have hd : doD [] p.1 p.2 = some [p.2] := by rw [h8]; rfl
   rw [plD_on h1 h2 hd]
   rfl
theorem plD_first {p : Nat × Nat} {r : List (Nat × Nat)} {ws : List Nat} {q : Nat × Nat} (h : plD (p :: r) ws = some q) : erV p.1 p.2 = 0 := Decidable.byContradiction fun h1 => by rw [plD_er h1] at h; cases h
theorem lnP_zero {L : List (Nat × Nat)} {p : Nat × Nat} {r : List (Nat × Nat)} (hL : L = p :: r) (he : erV p.1 p.2 = 0) {K : Nat} (h0 : 0 < K) (hK : K ≤ L.length) : lnP L 0 K = (0, lgV (L.take K)) := by
 unfold lnP
 rw [if_pos ⟨h0, hK, by rw [hL]; exact he⟩, List.drop_zero, Nat.sub_zero]
theorem wf_lt {L : List (Nat × Nat)} (h : Wfc L) (K : Nat) : ∀ p ∈ L.take K, p.1 < 256 := fun p hp => (h p (List.mem_of_mem_take hp)).1
theorem cnV_fit {L : List (Nat × Nat)} (hwf : Wfc L) {m v : Nat} {p : Nat × Nat} (h1 : 1 ≤ m) (h16 : m ≤ 16) (hc : plD (L.take m) [] = some (2, v)) (hm : L[m]? = some p) (hs : stpB p.1 = true) : cnV L = (m, v) := by
 have hl := (List.getElem?_eq_some_iff.1 hm).1
 have hLq : ∃ q r, L = q :: r := by
   cases L with
   | nil => simp at hl
   | cons q r => exact ⟨q, r, rfl⟩
 obtain ⟨q, r, hL⟩ := hLq
 have he : erV q.1 q.2 = 0 := by
   rw [hL, take_pos h1] at hc
   exact plD_first hc
 obtain ⟨K, hK⟩ : ∃ K, K = min L.length 16 := ⟨_, rfl⟩
 have hK1 : m ≤ K := by omega
 have hK2 : K ≤ L.length := by omega
 have hkl : (L.take K).length = K := by rw [List.length_take]; omega
 have htk : ∀ n, n ≤ K → (L.take K).take n = L.take n := fun n hn => by rw [List.take_take, Nat.min_eq_left hn]
 have hb := lgF_bst (L.take K) [] 0 (1, 1, 0) (wf_lt hwf K) (by decide) (fun _ => rfl)
 have hP := lnP_zero hL he (by omega : 0 < K) hK2
 unfold cnV
 rw [← hK, hP]
 change Bst (L.take K) [] 0 (1, 1, 0) (lgV (L.take K)) at hb
 rcases hb with ⟨n, k, v', n1, n2, n3, n4, n5, n6⟩ | ⟨n1, n2⟩
 · rw [hkl] at n2 n6
   rw [htk n n2] at n4
   have hnm : n = m := by
     rcases Nat.lt_trichotomy n m with h | h | h
     · have := n6 m h hK1
       rw [htk m hK1, hc] at this
       cases this
     · exact h
     · rw [stp_all hc hm hs n h] at n4
       cases n4
   subst hnm
   rw [hc] at n4
   cases n4
   rw [n5]
   simp
 · rw [hkl] at n1
   have hm1 : m = 1 := by
     apply Decidable.byContradiction
     intro hne
     have := n1 m h1 hK1 (by omega)
     rw [htk m hK1, hc] at this
     cases this
   subst hm1
   rw [hL, List.take_succ_cons, List.take_zero] at hc
   obtain ⟨-, a2, a3⟩ := cnD_one.1 hc
   rw [n2]
   rw [if_neg (by simp), if_pos ⟨rfl, by rw [hL]; exact a2⟩, hL]
   simp [a3]
theorem cnV_is {L : List (Nat × Nat)} (hwf : Wfc L) (h : 0 < (cnV L).1) : (cnV L).1 ≤ L.length ∧ (cnV L).1 ≤ 16 ∧ plD (L.take (cnV L).1) [] = some (2, (cnV L).2) := by
 obtain ⟨K, hK⟩ : ∃ K, K = min L.length 16 := ⟨_, rfl⟩
 cases L with
 | nil => exact absurd h (by decide +kernel)
 | cons q r =>
   have hK2 : K ≤ (q :: r).length := by omega
   have hK0 : 0 < K := by simp only [List.length_cons] at hK; omega
   by_cases he : erV q.1 q.2 = 0
   · have hP := lnP_zero (L := q :: r) rfl he hK0 hK2
     have hkl : ((q :: r).take K).length = K := by rw [List.length_take]; omega
     have hb := lgF_bst ((q :: r).take K) [] 0 (1, 1, 0) (wf_lt hwf K) (by decide) (fun _ => rfl)
     change Bst ((q :: r).take K) [] 0 (1, 1, 0) (lgV ((q :: r).take K)) at hb
     unfold cnV at h ⊢
     rw [← hK, hP] at h ⊢
     rcases hb with ⟨n, k, v', n1, n2, n3, n4, n5, n6⟩ | ⟨n1, n2⟩
     · rw [hkl] at n2
       rw [List.take_take, Nat.min_eq_left n2] at n4
       rw [n5] at h ⊢
       simp only [Nat.zero_add] at h ⊢
       by_cases hk : k = 2
       · subst hk
         rw [if_pos rfl]
         exact ⟨by omega, by omega, n4⟩
       · rw [if_neg hk] at h ⊢
         by_cases hk1 : k = 1 ∧ ((q :: r).getD 0 (0, 0)).1 = 8
         · rw [if_pos hk1]
           exact ⟨by simp, (by decide : 1 ≤ 16), by rw [List.take_succ_cons, List.take_zero]; exact cnD_one.2 ⟨he, hk1.2, rfl⟩⟩
         · rw [if_neg hk1] at h; exact absurd h (by decide)
     · rw [n2] at h ⊢
       rw [if_neg (by decide)] at h ⊢
       by_cases hk1 : (1 : Nat) = 1 ∧ ((q :: r).getD 0 (0, 0)).1 = 8
       · rw [if_pos hk1]
         exact ⟨by simp, (by decide : 1 ≤ 16), by rw [List.take_succ_cons, List.take_zero]; exact cnD_one.2 ⟨he, hk1.2, rfl⟩⟩
       · rw [if_neg hk1] at h; exact absurd h (by decide)
   · have hP : lnP (q :: r) 0 K = (0, 0, 0, 0) := if_neg (fun e => he e.2.2)
     unfold cnV at h
     rw [← hK, hP, if_neg (by decide), if_neg (fun e => by cases e.1)] at h
     exact absurd h (by decide)
end Go.Proofs.YtibhlcfligfhdaaGreat
namespace Go.Proofs.YtibhlcfligfhdaaGreat
open Go.RowKit Go.WideShapes Go.Shelf
set_option maxRecDepth 100000
attribute [local go_sem] Oper.semAt_some
end Go.Proofs.YtibhlcfligfhdaaGreat
namespace Go.Proofs.YtibhlcfligfhdaaGreat
open Go.RowKit Go.WideShapes Go.Shelf
set_option maxRecDepth 100000
attribute [local go_sem] Oper.semAt_some
end Go.Proofs.YtibhlcfligfhdaaGreat
namespace Go.Proofs.YtibhlcfligfhdaaGreat
open Go.RowKit Go.WideShapes Go.Shelf
set_option maxRecDepth 100000
attribute [local go_sem] Oper.semAt_some
theorem crd_takeZ {w : World} {ao : Option Addr} {L : List (Nat × Nat)} {B : Nat} (h : CRd w ao L B) (k : Nat) : CRd w ao (L.take k) B := by
 intro hl
 rw [List.length_take] at hl
 obtain ⟨b, off, e, hlt, hc⟩ := h (by omega)
 refine ⟨b, off, e, hlt, fun j hj => ?_⟩
 rw [List.length_take] at hj
 have e1 : (L.take k).getD j (0, 0) = L.getD j (0, 0) := by rw [List.getD_eq_getElem?_getD, List.getElem?_take_of_lt (by omega), List.getD_eq_getElem?_getD]
 rw [e1]
 exact hc j (by omega)
theorem wfc_takeZ {L : List (Nat × Nat)} (h : Wfc L) (k : Nat) : Wfc (L.take k) := fun p hp => h p (List.mem_of_mem_take hp)
theorem getD_td (L : List (Nat × Nat)) (a e : Nat) (h : a < e) : ((L.drop a).take (e - a)).getD 0 (0, 0) = L.getD a (0, 0) := by
 rw [List.getD_eq_getElem?_getD, List.getElem?_take_of_lt (by omega), List.getElem?_drop, List.getD_eq_getElem?_getD, Nat.add_zero]
end Go.Proofs.YtibhlcfligfhdaaGreat
