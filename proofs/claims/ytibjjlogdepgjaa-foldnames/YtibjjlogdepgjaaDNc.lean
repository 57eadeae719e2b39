import Derived.Test.YtibjjlogdepgjaaDAw
import Derived.Test.YtibjjlogdepgjaaDSh
import Derived.Test.YtibjjlogdepgjaaRNo
namespace Go.Proofs.Ytibjjlogdepgjaa
open Go.RowKit Go.WideShapes
set_option maxRecDepth 100000

set_option maxHeartbeats 2000000 in
theorem asked_any (ao : Option Addr) (cap a e : Nat) (L : List (Nat × Nat)) (w : World) (hL : L.length ≤ 140737488355328) (hcap : L.length ≤ cap) (ha : a < 4294967296) (he : e < 4294967296) (hwf : Wfc L) (hr : CRd w ao L w.heap.size) :
    Calls Try.prog 6 #[.slice ao L.length cap, .int .u32 (a : Int), .int .u32 (e : Int)] w fun x w' => x = .returned (.agg (pcA (lnP L a e).1 (lnP L a e).2)) ∧ Below w.heap.size w w' := by
  have F1 := Longest_any ao cap a e L (w.alloc (.cells #[.int .u32 0, .int .u32 0, .int .u8 0, .int .u32 0] 30)) hL hcap ha he hwf ((hr.below (bel (Below.refl _ _))).mono (by simp))
  have hA : Below w.heap.size w (w.alloc (.cells #[.int .u32 0, .int .u32 0, .int .u8 0, .int .u32 0] 30)) := bel (Below.refl _ _)
  have hbad := lnP_bad L a e
  generalize lnP L a e = q at *
  obtain ⟨q0, q1, q2, q3⟩ := q
  simp only [pcA] at F1 ⊢
  by_cases hE : lnE L a e = 0
  · rw [hE] at F1
    clear hbad hE hr
    go_enter Try.func6, Try.ntmps6
    go_wp2_with fail
    refine F1.mono ?_
    rintro x w1 ⟨rfl, hb1⟩
    have o1 := dhid (fun o => (Below.heap_alloc w1 o _ (by have := hb1.size; simp at this; omega)).trans ((hb1.block w.heap.size (by simp)).trans (heap_alloc_new w _)))
    have R1 := dhid (fun o => (hA.trans (hb1.mono (by simp))).alloc (by have := hb1.size; simp at this; omega) o)
    clear F1
    go_wp2_with (refine wpList_store_rowD rfl _ _ _ rfl w.heap.size _ #[.int .u32 (q0 : Int), .int .u32 (q1 : Int), .int .u8 (q2 : Int), .int .u32 (q3 : Int)] rfl rfl (o1.out _) (by rw [sizeDPc]; rfl) rfl (by simp [Value.oneCell']) ?_)
    exact bodyPost_ret (resDPc (p := 6) (by kernel_rfl) _ w.heap.size _ rfl (setRow_heap _ _ _ _ _ _ (o1.out _)) _ rfl) rfl ⟨rfl, (R1.out _).trans ((KpSetRow (S := fun k => k = w.heap.size) _ w.heap.size _ rfl).below (R1.out _).size (fun i e => by omega))⟩
  · have hb := hbad hE
    simp only [Prod.mk.injEq] at hb
    obtain ⟨rfl, rfl, rfl, rfl⟩ := hb
    have dE : ((lnE L a e : Int) != 0) = true := by simp; omega
    have dE' : ¬ (lnE L a e : Int) = 0 := by omega
    clear hbad hr
    generalize lnE L a e = er at *
    go_enter Try.func6, Try.ntmps6
    go_wp2_with fail
    refine F1.mono ?_
    rintro x w1 ⟨rfl, hb1⟩
    have o1 := dhid (fun o => (Below.heap_alloc w1 o _ (by have := hb1.size; simp at this; omega)).trans ((hb1.block w.heap.size (by simp)).trans (heap_alloc_new w _)))
    have R1 := dhid (fun o => (hA.trans (hb1.mono (by simp))).alloc (by have := hb1.size; simp at this; omega) o)
    clear F1
    go_wp2_with (refine wpList_store_rowD rfl _ _ _ rfl w.heap.size _ #[.int .u32 0, .int .u32 0, .int .u8 0, .int .u32 0] rfl rfl (o1.out _) (by rw [sizeDPc]; rfl) rfl (by simp [Value.oneCell']) ?_)
    exact bodyPost_ret (resDPc (p := 6) (by kernel_rfl) _ w.heap.size _ rfl (setRow_heap _ _ _ _ _ _ (o1.out _)) _ rfl) rfl ⟨rfl, (R1.out _).trans ((KpSetRow (S := fun k => k = w.heap.size) _ w.heap.size _ rfl).below (R1.out _).size (fun i e => by omega))⟩
theorem fnone_no (v : Value) (w : World) (h : NoMd w v) : Calls Try.prog 11 #[v] w fun e w' => e = .returned (.bool true) ∧ w' = w := by
  have hM := vbits_no v w h
  clear h
  go_enter Try.func11, Try.ntmps11
  go_wp2_with (go_at_call 22; with_reducible refine hM.mono ?_; rintro e wq ⟨rfl, hq⟩; subst wq)
  go_ret
  exact ⟨rfl, rfl⟩
theorem pieces_no (v : Value) (w : World) (h : NoMd w v) : Calls Try.prog 8 #[v] w fun e w' => e = .returned (.tuple #[.slice none 0 0, .int .i64 1]) ∧ w' = w := by
  have hM := fnone_no v w h
  clear h
  go_enter Try.func8, Try.ntmps8
  go_wp2_with (go_at_call 11; with_reducible refine hM.mono ?_; rintro e wq ⟨rfl, hq⟩; subst wq)
  go_ret2
  exact ⟨rfl, rfl⟩
def nmL : List (Nat × Nat) := [(8, 2), (8, 3), (41, 0), (38, 0), (8, 5), (8, 0), (42, 0), (8, 1), (11, 0), (13, 4), (1, 0), (8, 7), (10, 0), (31, 0), (1, 0), (1, 0)]
def nmM : List (Nat × Nat) := [(8, 2), (8, 3), (41, 0), (38, 0), (8, 5), (8, 0), (42, 0), (8, 1), (11, 0), (14, 4), (1, 0), (8, 7), (10, 0), (31, 0), (1, 0), (1, 0)]
abbrev nmC : Array Value := #[.int .u8 8, .int .u32 2, .int .u8 8, .int .u32 3, .int .u8 41, .int .u32 0, .int .u8 38, .int .u32 0, .int .u8 8, .int .u32 5, .int .u8 8, .int .u32 0, .int .u8 42, .int .u32 0, .int .u8 8, .int .u32 1, .int .u8 11, .int .u32 0, .int .u8 13, .int .u32 4, .int .u8 1, .int .u32 0, .int .u8 8, .int .u32 7, .int .u8 10, .int .u32 0, .int .u8 31, .int .u32 0, .int .u8 1, .int .u32 0, .int .u8 1, .int .u32 0]
abbrev nmD : Array Value := #[.int .u8 8, .int .u32 2, .int .u8 8, .int .u32 3, .int .u8 41, .int .u32 0, .int .u8 38, .int .u32 0, .int .u8 8, .int .u32 5, .int .u8 8, .int .u32 0, .int .u8 42, .int .u32 0, .int .u8 8, .int .u32 1, .int .u8 11, .int .u32 0, .int .u8 14, .int .u32 4, .int .u8 1, .int .u32 0, .int .u8 8, .int .u32 7, .int .u8 10, .int .u32 0, .int .u8 31, .int .u32 0, .int .u8 1, .int .u32 0, .int .u8 1, .int .u32 0]
theorem nmL_wf : Wfc nmL := by unfold Wfc nmL; decide +kernel
theorem nmM_wf : Wfc nmM := by unfold Wfc nmM; decide +kernel
theorem nmq0 : lnP nmL 0 16 = (0, 4, 2, 4294967290) := by decide +kernel
theorem nmc0 (b : Nat) (w : World) (h : w.heap[b]? = some (.cells nmC 26)) :
    Calls Try.prog 6 #[.slice (some ⟨b, 0, none⟩) 16 16, .int .u32 0, .int .u32 16] w fun x w' => x = .returned (.agg #[.int .u32 0, .int .u32 4, .int .u8 2, .int .u32 4294967290]) ∧ Below w.heap.size w w' := by
  have := asked_any (some ⟨b, 0, none⟩) 16 0 16 nmL w (by decide) (by decide) (by decide) (by decide) nmL_wf (crd_blkD h rfl)
  rw [nmq0] at this
  exact this
theorem nmq1 : lnP nmL 0 3 = (0, 3, 2, 6) := by decide +kernel
theorem nmc1 (b : Nat) (w : World) (h : w.heap[b]? = some (.cells nmC 26)) :
    Calls Try.prog 6 #[.slice (some ⟨b, 0, none⟩) 16 16, .int .u32 0, .int .u32 3] w fun x w' => x = .returned (.agg #[.int .u32 0, .int .u32 3, .int .u8 2, .int .u32 6]) ∧ Below w.heap.size w w' := by
  have := asked_any (some ⟨b, 0, none⟩) 16 0 3 nmL w (by decide) (by decide) (by decide) (by decide) nmL_wf (crd_blkD h rfl)
  rw [nmq1] at this
  exact this
theorem nmq2 : lnP nmL 0 2 = (0, 1, 1, 0) := by decide +kernel
theorem nmc2 (b : Nat) (w : World) (h : w.heap[b]? = some (.cells nmC 26)) :
    Calls Try.prog 6 #[.slice (some ⟨b, 0, none⟩) 16 16, .int .u32 0, .int .u32 2] w fun x w' => x = .returned (.agg #[.int .u32 0, .int .u32 1, .int .u8 1, .int .u32 0]) ∧ Below w.heap.size w w' := by
  have := asked_any (some ⟨b, 0, none⟩) 16 0 2 nmL w (by decide) (by decide) (by decide) (by decide) nmL_wf (crd_blkD h rfl)
  rw [nmq2] at this
  exact this
theorem nmq3 : lnP nmL 4 16 = (4, 1, 1, 0) := by decide +kernel
theorem nmc3 (b : Nat) (w : World) (h : w.heap[b]? = some (.cells nmC 26)) :
    Calls Try.prog 6 #[.slice (some ⟨b, 0, none⟩) 16 16, .int .u32 4, .int .u32 16] w fun x w' => x = .returned (.agg #[.int .u32 4, .int .u32 1, .int .u8 1, .int .u32 0]) ∧ Below w.heap.size w w' := by
  have := asked_any (some ⟨b, 0, none⟩) 16 4 16 nmL w (by decide) (by decide) (by decide) (by decide) nmL_wf (crd_blkD h rfl)
  rw [nmq3] at this
  exact this
theorem nmq4 : lnP nmL 6 16 = (6, 1, 1, 0) := by decide +kernel
theorem nmc4 (b : Nat) (w : World) (h : w.heap[b]? = some (.cells nmC 26)) :
    Calls Try.prog 6 #[.slice (some ⟨b, 0, none⟩) 16 16, .int .u32 6, .int .u32 16] w fun x w' => x = .returned (.agg #[.int .u32 6, .int .u32 1, .int .u8 1, .int .u32 0]) ∧ Below w.heap.size w w' := by
  have := asked_any (some ⟨b, 0, none⟩) 16 6 16 nmL w (by decide) (by decide) (by decide) (by decide) nmL_wf (crd_blkD h rfl)
  rw [nmq4] at this
  exact this
theorem nmq5 : lnP nmL 7 16 = (7, 3, 3, 4) := by decide +kernel
theorem nmc5 (b : Nat) (w : World) (h : w.heap[b]? = some (.cells nmC 26)) :
    Calls Try.prog 6 #[.slice (some ⟨b, 0, none⟩) 16 16, .int .u32 7, .int .u32 16] w fun x w' => x = .returned (.agg #[.int .u32 7, .int .u32 3, .int .u8 3, .int .u32 4]) ∧ Below w.heap.size w w' := by
  have := asked_any (some ⟨b, 0, none⟩) 16 7 16 nmL w (by decide) (by decide) (by decide) (by decide) nmL_wf (crd_blkD h rfl)
  rw [nmq5] at this
  exact this
theorem nmq6 : lnP nmL 10 16 = (10, 3, 4, 0) := by decide +kernel
theorem nmc6 (b : Nat) (w : World) (h : w.heap[b]? = some (.cells nmC 26)) :
    Calls Try.prog 6 #[.slice (some ⟨b, 0, none⟩) 16 16, .int .u32 10, .int .u32 16] w fun x w' => x = .returned (.agg #[.int .u32 10, .int .u32 3, .int .u8 4, .int .u32 0]) ∧ Below w.heap.size w w' := by
  have := asked_any (some ⟨b, 0, none⟩) 16 10 16 nmL w (by decide) (by decide) (by decide) (by decide) nmL_wf (crd_blkD h rfl)
  rw [nmq6] at this
  exact this
theorem nmq7 : lnP nmL 14 16 = (14, 2, 4, 0) := by decide +kernel
theorem nmc7 (b : Nat) (w : World) (h : w.heap[b]? = some (.cells nmC 26)) :
    Calls Try.prog 6 #[.slice (some ⟨b, 0, none⟩) 16 16, .int .u32 14, .int .u32 16] w fun x w' => x = .returned (.agg #[.int .u32 14, .int .u32 2, .int .u8 4, .int .u32 0]) ∧ Below w.heap.size w w' := by
  have := asked_any (some ⟨b, 0, none⟩) 16 14 16 nmL w (by decide) (by decide) (by decide) (by decide) nmL_wf (crd_blkD h rfl)
  rw [nmq7] at this
  exact this
theorem nmq8 : lnP nmM 7 16 = (7, 3, 4, 0) := by decide +kernel
theorem nmc8 (b : Nat) (w : World) (h : w.heap[b]? = some (.cells nmD 26)) :
    Calls Try.prog 6 #[.slice (some ⟨b, 0, none⟩) 16 16, .int .u32 7, .int .u32 16] w fun x w' => x = .returned (.agg #[.int .u32 7, .int .u32 3, .int .u8 4, .int .u32 0]) ∧ Below w.heap.size w w' := by
  have := asked_any (some ⟨b, 0, none⟩) 16 7 16 nmM w (by decide) (by decide) (by decide) (by decide) nmM_wf (crd_blkD h rfl)
  rw [nmq8] at this
  exact this
theorem nmq9 : lnP nmM 3 3 = (0, 0, 0, 0) ∧ lnE nmM 3 3 = 2 := by decide +kernel
theorem nmc9 (b : Nat) (w : World) (h : w.heap[b]? = some (.cells nmD 26)) :
    Calls Try.prog 7 #[.slice (some ⟨b, 0, none⟩) 16 16, .int .u32 3, .int .u32 3] w fun x w' => x = .returned (.tuple #[.agg #[.int .u32 0, .int .u32 0, .int .u8 0, .int .u32 0], .int .i64 2]) ∧ Below w.heap.size w w' := by
  have := Longest_any (some ⟨b, 0, none⟩) 16 3 3 nmM w (by decide) (by decide) (by decide) (by decide) nmM_wf (crd_blkD h rfl)
  rw [nmq9.1, nmq9.2] at this
  exact this
theorem nmq10 : lnP nmM 0 17 = (0, 0, 0, 0) ∧ lnE nmM 0 17 = 2 := by decide +kernel
theorem nmc10 (b : Nat) (w : World) (h : w.heap[b]? = some (.cells nmD 26)) :
    Calls Try.prog 7 #[.slice (some ⟨b, 0, none⟩) 16 16, .int .u32 0, .int .u32 17] w fun x w' => x = .returned (.tuple #[.agg #[.int .u32 0, .int .u32 0, .int .u8 0, .int .u32 0], .int .i64 2]) ∧ Below w.heap.size w w' := by
  have := Longest_any (some ⟨b, 0, none⟩) 16 0 17 nmM w (by decide) (by decide) (by decide) (by decide) nmM_wf (crd_blkD h rfl)
  rw [nmq10.1, nmq10.2] at this
  exact this
end Go.Proofs.Ytibjjlogdepgjaa
