import Derived.Test.YtdpghhkimnifjaaZSh
namespace Go.Proofs.Ytdpghhkimnifjaa
open Go.RowKit Go.WideShapes Go.Shelf
set_option maxRecDepth 100000

def liB (n a e : Nat) : Bool := decide (a < e ∧ e ≤ n)
theorem lies_any (ao : Option Addr) (cap n a e : Nat) (w : World) (hn : n ≤ 9223372036854775807) (_ha : a < 4294967296) (he : e < 4294967296) :
    Calls Try.prog 18 #[.slice ao n cap, .int .u32 (a : Int), .int .u32 (e : Int)] w fun x w' => x = .returned (.bool (liB n a e)) ∧ w' = w := by
  by_cases h1 : a < e
  · have d1 : decide ((a : Int) < (e : Int)) = true := decide_eq_true (by omega)
    have d1' : (a : Int) < (e : Int) := by omega
    by_cases h2 : e ≤ n
    · have d2 : decide ((e : Int) ≤ (n : Int)) = true := decide_eq_true (by omega)
      have d2' : (e : Int) ≤ (n : Int) := by omega
      rw [show liB n a e = true from decide_eq_true ⟨h1, h2⟩]
      go_enter Try.func18, Try.ntmps18
      go_wp2
      go_ret
      exact ⟨rfl, rfl⟩
    · have d2 : decide ((e : Int) ≤ (n : Int)) = false := decide_eq_false (by omega)
      have d2' : ¬ (e : Int) ≤ (n : Int) := by omega
      rw [show liB n a e = false from decide_eq_false (fun h => h2 h.2)]
      go_enter Try.func18, Try.ntmps18
      go_wp2
      go_ret
      exact ⟨rfl, rfl⟩
  · have d1 : decide ((a : Int) < (e : Int)) = false := decide_eq_false (by omega)
    have d1' : ¬ (a : Int) < (e : Int) := by omega
    rw [show liB n a e = false from decide_eq_false (fun h => h1 h.1)]
    go_enter Try.func18, Try.ntmps18
    go_wp2
    go_ret
    exact ⟨rfl, rfl⟩
/-- what a shape makes of a stretch at an index -/
def fitV (sh : Shp) (k : Nat) (L : List (Nat × Nat)) (at_ : Nat) : Fz × Bool := if (sh L).len = 0 then (fz0, false) else ({ sh L with at_ := at_, kind := k }, true)
set_option maxHeartbeats 4000000 in
theorem fit_any {B : Nat} (v : Value) (sh : Shp) (k at_ : Nat) (ao : Option Addr) (cap : Nat) (L : List (Nat × Nat)) (w w0 : World) (hv : ShS B w0 v sh) (hw : Fr B w0 w) (h0 : 0 < L.length) (hcap : L.length ≤ cap) (hlen : L.length < 4294967296) (hwf : Wfc L) (hr : CRd w ao L w.heap.size) :
    Calls Try.prog 30 #[v, .int .u8 (k : Int), .slice ao L.length cap, .int .u32 (at_ : Int)] w fun e w' => e = .returned (.tuple #[.agg (fzA (fitV sh k L at_).1), .bool (fitV sh k L at_).2]) ∧ Below w.heap.size w w' := by
  obtain ⟨g, lb, rfl, eg, hcall⟩ := hv
  have HL := dhid (fun o => hcall (w.alloc o) (hw.trans (Fr.of (bel1 w o))) ao cap L h0 hcap hlen hwf ((hr.below (bel1 w o)).mono (by simp)))
  unfold fitV
  generalize sh L = f at *
  obtain ⟨f0, f1, f2, f3, f4, f5⟩ := f
  simp only [fzA] at HL
  have hbd : Below w.heap.size w w := Below.refl _ _
  clear hcall hr hwf
  by_cases hz : f1 = 0
  · subst hz
    rw [if_pos rfl]
    go_enter Try.func30, Try.ntmps30
    go_wp2_with fail
    refine (HL.out _).mono ?_
    rintro e w1 ⟨rfl, hb1⟩
    have o1 := dhid ((hb1.block w.heap.size (by simp)).trans (heap_alloc_new w _))
    have B1 := dhid ((bel1 w _).trans (hb1.mono (by simp)))
    have hz1 : w.heap.size < w1.heap.size := (Array.getElem?_eq_some_iff.1 o1.out).1
    have o2 := dhid (fun o => (Below.heap_alloc w1 o w.heap.size hz1).trans o1.out)
    clear HL
    go_wp2_with (refine wpList_storeF rfl _ _ rfl w.heap.size fz0 fz0 rfl rfl (o2.out _) ?_)
    exact bodyPost_ret (resFzB (p := 8) (u := 9) (by kernel_rfl) _ _ w.heap.size _ rfl (setRow_heap _ _ _ _ _ _ (o2.out _)) _ rfl rfl) rfl ⟨rfl, (B1.out.alloc B1.out.size _).trans ((KpSetRow (S := fun i => i = w.heap.size) _ _ _ rfl).below (by simp; omega) (fun i e => by omega))⟩
  · rw [if_neg hz]
    have d1 : ((f1 : Int) == 0) = false := by rw [beq_eq_false_iff_ne]; omega
    have d2 : ¬ (f1 : Int) = 0 := by omega
    go_enter Try.func30, Try.ntmps30
    go_wp2_with fail
    refine (HL.out _).mono ?_
    rintro e w1 ⟨rfl, hb1⟩
    have o1 := dhid ((hb1.block w.heap.size (by simp)).trans (heap_alloc_new w _))
    have B1 := dhid ((bel1 w _).trans (hb1.mono (by simp)))
    have hz1 : w.heap.size < w1.heap.size := (Array.getElem?_eq_some_iff.1 o1.out).1
    have o2 := dhid (fun o => (Below.heap_alloc w1 o w.heap.size hz1).trans o1.out)
    clear HL
    go_wp2_with (refine wpList_storeF rfl _ _ rfl w.heap.size fz0 ⟨at_, f1, k, f3, f4, f5⟩ rfl rfl (o2.out _) ?_)
    exact bodyPost_ret (resFzB (p := 8) (u := 9) (by kernel_rfl) _ _ w.heap.size _ rfl (setRow_heap _ _ _ _ _ _ (o2.out _)) _ rfl rfl) rfl ⟨rfl, (B1.out.alloc B1.out.size _).trans ((KpSetRow (S := fun i => i = w.heap.size) _ _ _ rfl).below (by simp; omega) (fun i e => by omega))⟩
end Go.Proofs.Ytdpghhkimnifjaa
namespace Go.Proofs.Ytdpghhkimnifjaa
open Go.RowKit Go.WideShapes Go.Shelf
set_option maxRecDepth 100000

/-- MATHEMATICS: what a row takes lies in the stretch -/
theorem rwF_le {L : List (Nat × Nat)} (hwf : Wfc L) : ∀ (P : List Pt) (f : Fz), (∀ pt ∈ P, PtOk pt) → f.len ≤ L.length → (rwF L P f).len ≤ L.length
  | [], f, _, h => h
  | pt :: r, f, hP, h => by
    unfold rwF
    split
    · rename_i hb
      have h1 := hP pt (by simp) (L.drop f.len) f (wfc_drop hwf _) hb
      rw [List.length_drop] at h1
      exact rwF_le hwf r _ (fun q hq => hP q (by simp [hq])) (by omega)
    · exact Nat.zero_le _
theorem shFold_le {L : List (Nat × Nat)} (hwf : Wfc L) (k : Nat) : (shFold k L).len ≤ L.length := by
  have := (lnP_le hwf 0 L.length).1
  unfold shFold
  split
  · simp only; omega
  · exact Nat.zero_le _
theorem shRow_le {L : List (Nat × Nat)} (hwf : Wfc L) {P : List Pt} (hP : ∀ pt ∈ P, PtOk pt) : (shRow P L).len ≤ L.length := rwF_le hwf P fz0 hP (Nat.zero_le _)
theorem shK_le {L : List (Nat × Nat)} (hwf : Wfc L) (k : Nat) : (shK k L).len ≤ L.length := by
  unfold shK
  split
  · exact shRow_le hwf (by simp only [List.mem_singleton, forall_eq]; exact ok_any)
  · exact shFold_le hwf 2
  · exact shFold_le hwf 3
  · exact shFold_le hwf 4
  · exact shRow_le hwf (by simp only [List.forall_mem_cons, List.not_mem_nil, false_imp_iff, implies_true, and_true]; exact ⟨ok_c, ok_bin⟩)
  · exact shRow_le hwf (by simp only [List.forall_mem_cons, List.not_mem_nil, false_imp_iff, implies_true, and_true]; exact ⟨ok_c, ok_cmp⟩)
  · exact shRow_le hwf (by simp only [List.forall_mem_cons, List.not_mem_nil, false_imp_iff, implies_true, and_true]; exact ⟨ok_c, ok_arg⟩)
  · exact shRow_le hwf (by simp only [List.forall_mem_cons, List.not_mem_nil, false_imp_iff, implies_true, and_true]; exact ⟨ok_c, ok_only 5⟩)
  · exact shRow_le hwf (by simp only [List.forall_mem_cons, List.not_mem_nil, false_imp_iff, implies_true, and_true]; exact ⟨ok_c, ok_load⟩)
  · exact shRow_le hwf (by simp only [List.forall_mem_cons, List.not_mem_nil, false_imp_iff, implies_true, and_true]; exact ⟨ok_c, ok_store⟩)
  · exact shRow_le hwf (by simp only [List.forall_mem_cons, List.not_mem_nil, false_imp_iff, implies_true, and_true]; exact ⟨ok_local, ok_arg⟩)
  · exact shRow_le hwf (by simp only [List.forall_mem_cons, List.not_mem_nil, false_imp_iff, implies_true, and_true]; exact ⟨ok_local, ok_load⟩)
  · exact shRow_le hwf (by simp only [List.forall_mem_cons, List.not_mem_nil, false_imp_iff, implies_true, and_true]; exact ⟨ok_local, ok_only 31, ok_bin⟩)
  · exact shRow_le hwf (by simp only [List.forall_mem_cons, List.not_mem_nil, false_imp_iff, implies_true, and_true]; exact ⟨ok_local, ok_only 31, ok_cmp⟩)
  · exact shRow_le hwf (by simp only [List.forall_mem_cons, List.not_mem_nil, false_imp_iff, implies_true, and_true]; exact ⟨ok_local, ok_same, ok_only 31, ok_cb, ok_harm, ok_only 34⟩)
  · exact Nat.zero_le _
/-- the thing that a shape makes of a stretch that begins at an index -/
def fkV (L : List (Nat × Nat)) (at_ k : Nat) : Fz × Bool := fitV (shK k) k L at_
theorem fkV_le {L : List (Nat × Nat)} (hwf : Wfc L) (at_ k : Nat) : (fkV L at_ k).1.len ≤ L.length := by
  unfold fkV fitV
  split
  · exact Nat.zero_le _
  · exact shK_le hwf k
/-- the longest of the first k shapes' things, the least kind of several -/
def bst (L : List (Nat × Nat)) (at_ : Nat) : Nat → Fz
  | 0 => fz0
  | k + 1 => if (bst L at_ k).len < (fkV L at_ (k + 1)).1.len then (fkV L at_ (k + 1)).1 else bst L at_ k
theorem bst_le {L : List (Nat × Nat)} (hwf : Wfc L) (at_ : Nat) : ∀ k, (bst L at_ k).len ≤ L.length
  | 0 => Nat.zero_le _
  | k + 1 => by
    unfold bst
    split
    · exact fkV_le hwf at_ (k + 1)
    · exact bst_le hwf at_ k
theorem bst_up (L : List (Nat × Nat)) (at_ : Nat) (k : Nat) : (bst L at_ k).len ≤ (bst L at_ (k + 1)).len := by
  show _ ≤ (if _ then _ else _ : Fz).len
  split
  · omega
  · exact Nat.le_refl _
/-- FuseOne: just where the first instruction may be -/
theorem shK_one (p : Nat × Nat) (R : List (Nat × Nat)) : shK 1 (p :: R) = if erV p.1 p.2 = 0 then ⟨0, 1, 0, p.1, p.2, 0⟩ else fz0 := by
  show rwF (p :: R) [ptSingle lkAny] fz0 = _
  unfold rwF
  show (if (ptSingle lkAny ((p :: R).drop 0) fz0).2 = true then rwF _ [] (ptSingle lkAny ((p :: R).drop 0) fz0).1 else fz0) = _
  rw [List.drop_zero]
  unfold ptSingle
  by_cases h : erV p.1 p.2 = 0
  · simp only [h, if_true]; rfl
  · simp only [h, if_false]; rfl
theorem fkV_one (p : Nat × Nat) (R : List (Nat × Nat)) (at_ : Nat) : fkV (p :: R) at_ 1 = if erV p.1 p.2 = 0 then (⟨at_, 1, 1, p.1, p.2, 0⟩, true) else (fz0, false) := by
  unfold fkV fitV
  rw [shK_one]
  by_cases h : erV p.1 p.2 = 0
  · simp only [h, if_true]; rfl
  · simp only [h, if_false]; rfl
theorem bst_pos {p : Nat × Nat} {R : List (Nat × Nat)} (h : erV p.1 p.2 = 0) (at_ : Nat) : ∀ k, 1 ≤ (bst (p :: R) at_ (k + 1)).len
  | 0 => by
    show 1 ≤ (if (bst (p :: R) at_ 0).len < (fkV (p :: R) at_ 1).1.len then (fkV (p :: R) at_ 1).1 else bst (p :: R) at_ 0).len
    rw [fkV_one, if_pos h, show (bst (p :: R) at_ 0).len = 0 from rfl, if_pos (show 0 < 1 by decide)]
    exact Nat.le_refl _
  | k + 1 => Nat.le_trans (bst_pos h at_ k) (bst_up _ _ _)
/-- what Longest answers -/
def flE (L : List (Nat × Nat)) (a e : Nat) : Nat := lnE L a e
def flV (L : List (Nat × Nat)) (a e : Nat) : Fz := if flE L a e = 0 then bst ((L.drop a).take (e - a)) a 15 else fz0
/-- the things of a stretch, from the left -/
def thS : Nat → List (Nat × Nat) → Nat → List Fz
  | 0, _, _ => []
  | _ + 1, [], _ => []
  | n + 1, p :: R, at_ => if erV p.1 p.2 = 0 then bst (p :: R) at_ 15 :: thS n ((p :: R).drop (bst (p :: R) at_ 15).len) (at_ + (bst (p :: R) at_ 15).len) else []
end Go.Proofs.Ytdpghhkimnifjaa
