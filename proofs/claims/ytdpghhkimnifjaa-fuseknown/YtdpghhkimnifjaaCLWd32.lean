import Derived.Test.YtdpghhkimnifjaaCLNum
import Derived.Laws.AppendOwn
import Derived.Laws.MakeOwn
import Derived.Lib.Tables
import Derived.Laws.CopyOwn
import Derived.Test.YtdpghhkimnifjaaCITab
import Derived.Test.YtdpghhkimnifjaaCISiz
import Derived.Deep.AppendLies
namespace Go.Proofs.Ytdpghhkimnifjaa
open Go.RowKit
set_option maxRecDepth 100000


set_option maxRecDepth 100000 in
theorem or_u32 (x c : Int) (s : Nat) (hs : s < 32) (x0 : 0 ≤ x) (x1 : x < 2 ^ s) (c0 : 0 ≤ c) (c1 : c ≤ 255) (hc : c * 2 ^ s < 4294967296) : bits .or .u32 x (c * 2 ^ s) = x + c * 2 ^ s := by
  obtain ⟨n, rfl⟩ := Int.eq_ofNat_of_zero_le x0
  obtain ⟨m, rfl⟩ := Int.eq_ofNat_of_zero_le c0
  have h1 : n < 2 ^ s := by exact_mod_cast x1
  have e1 : ((m * 2 ^ s : Nat) : Int) = (m : Int) * 2 ^ s := by push_cast; rfl
  have h2 : m * 2 ^ s < 4294967296 := by rw [← e1] at hc; omega
  have h3 : (2 : Nat) ^ s < 4294967296 := Nat.lt_of_lt_of_le (Nat.pow_lt_pow_right (by omega) hs) (by decide)
  have := u32_or_nat n (m * 2 ^ s) (by omega) h2
  rw [shl_or m n s h1] at this
  rw [← e1, this]
  push_cast
  rfl
end Go.Proofs.Ytdpghhkimnifjaa
namespace Go.Proofs.Ytdpghhkimnifjaa
open Go.RowKit
set_option maxRecDepth 100000

def wordsV : Array Value := ((List.range 60).map fun k => Value.string (opWd k)).toArray
def wordsZ : Array Value := (List.replicate 60 (Value.string ⟨#[]⟩)).toArray
theorem upon_value_of {P : Program} {o : Oper} {a : Act} {next : Act → World → Prop} {Q : Exit → Act → World → Prop} {w : World} (v : Value) (w' : World)
    (hr : (execOp a.eval o).run P w = .ok (.value v) w') (h : next (a.put o.dst v) w') : o.upon P a next Q ((execOp a.eval o).run P w) := by
  rw [hr]; exact h
theorem upon_skip_of {P : Program} {o : Oper} {a : Act} {next : Act → World → Prop} {Q : Exit → Act → World → Prop} {w : World} (w' : World)
    (hr : (execOp a.eval o).run P w = .ok .skip w') (h : next (a.put o.dst undef) w') : o.upon P a next Q ((execOp a.eval o).run P w) := by
  rw [hr]; exact h
theorem wp_act_eq {P : Program} {c : Code} {Q : Exit → Act → World → Prop} {a : Act} {w : World} (a' : Act) (h : a = a') (hw : c.wp P Q a' w) : c.wp P Q a w := by
  rw [h]; exact hw
theorem store_new (o : Oper) (t : Nat) (p q : Operand) (ho : o.op = .store t p q) (a : Act) (w : World) (cs cs' : Array Value) (h0 : a.eval p = .pointer (some ⟨w.heap.size, 0, none⟩)) (h1 : a.eval q = .agg cs')
    (hi : (Try.prog.info? t).map (·.size) = some cs'.size) (hs : cs.size = cs'.size) (h2 : cs'.all (·.oneCell') = true) :
    (execOp a.eval o).run Try.prog (w.alloc (.cells cs t)) = .ok .skip (w.alloc (.cells cs' t)) := by
  have := run_storeAt_new (P := Try.prog) w t cs cs' hi hs h2
  simp only [execOp, ho, h0, h1, Sem.run_bind, this, Result.andThen, Sem.run_pure]
theorem alloc_new (o : Oper) (t : Nat) (ho : o.op = .alloc t) (a : Act) (w : World) (cs : Array Value) (hz : ∀ w, (zeroValue t).run Try.prog w = .ok (.agg cs) w) :
    (execOp a.eval o).run Try.prog w = .ok (.value (.pointer (some ⟨w.heap.size, 0, none⟩))) (w.alloc (.cells cs t)) := by
  simp [execOp, ho, Instr.alloc, hz, Result.andThen, go_sem]
theorem wordsV_all : wordsV.all (·.oneCell') = true := by kernel_rfl
theorem wordsV_size : wordsV.size = 60 := by kernel_rfl
theorem wordsZ_size : wordsZ.size = 60 := by kernel_rfl
theorem wordsV_get (k : Nat) (h : k < 60) : wordsV[k]? = some (.string (opWd k)) := by
  unfold wordsV
  rw [List.getElem?_toArray, List.getElem?_map, List.getElem?_range h]
  rfl
end Go.Proofs.Ytdpghhkimnifjaa
namespace Go.Proofs.Ytdpghhkimnifjaa
open Go.RowKit
set_option maxRecDepth 100000
theorem heap3 (w : World) (A B C : Obj) : (((w.alloc A).alloc B).alloc C).heap[w.heap.size]? = some A := by
  rw [Below.heap_alloc _ _ _ (by simp; omega), Below.heap_alloc _ _ _ (by simp)]
  exact heap_alloc_last w A
theorem rowRs {fn : Func} (hres : fn.results = #[.cell 2 60, .tmp 3]) (t2 : Value) (W : World) (b : Nat) (cs : Array Value) (h6 : cs.size = 6) (hb : W.heap[b]? = some (.cells cs 60)) (tmps : Array Value) (h2 : tmps.getD 2 undef = .pointer (some ⟨b, 0, none⟩)) (h3 : tmps.getD 3 undef = t2) :
    (results fn tmps).run Try.prog W = .ok (.tuple #[.agg cs, t2]) W := by
  obtain ⟨fs, hu⟩ := undR
  rw [results_cell_tmp hres, h2, h3]
  have := run_loadVar_row (P := Try.prog) W b 60 60 cs (0, 0) _ hb hu rfl (by rw [infoR, h6])
  simp only [asAddr, Sem.run_pure, Result.andThen, this]
end Go.Proofs.Ytdpghhkimnifjaa
namespace Go.Proofs.Ytdpghhkimnifjaa
open Go.RowKit
set_option maxRecDepth 100000
end Go.Proofs.Ytdpghhkimnifjaa
namespace Go.Proofs.Ytdpghhkimnifjaa
open Go.RowKit
set_option maxRecDepth 100000
end Go.Proofs.Ytdpghhkimnifjaa
namespace Go.Proofs.Ytdpghhkimnifjaa
open Go.RowKit
set_option maxRecDepth 100000
end Go.Proofs.Ytdpghhkimnifjaa
namespace Go.Proofs.Ytdpghhkimnifjaa
open Go.RowKit
set_option maxRecDepth 100000
end Go.Proofs.Ytdpghhkimnifjaa
namespace Go.Proofs.Ytdpghhkimnifjaa
open Go.RowKit
set_option maxRecDepth 100000
end Go.Proofs.Ytdpghhkimnifjaa
namespace Go.Proofs.Ytdpghhkimnifjaa
open Go.RowKit
set_option maxRecDepth 100000
end Go.Proofs.Ytdpghhkimnifjaa
namespace Go.Proofs.Ytdpghhkimnifjaa
open Go.RowKit
set_option maxRecDepth 100000
end Go.Proofs.Ytdpghhkimnifjaa
namespace Go.Proofs.Ytdpghhkimnifjaa
open Go.RowKit
set_option maxRecDepth 100000

set_option maxHeartbeats 1000000 in
theorem check_any (op arg : Nat) (w : World) (h : op < 256) :
    Calls Try.prog 16 #[.agg #[.int .u8 op, .int .u32 arg]] w fun e w' => e = .returned (.int .i64 (erV op arg)) ∧ Below w.heap.size w w' := by
  have hI := fun w => sized_any op arg w h
  go_enter Try.func16, Try.ntmps16
  go_wp2_with (go_at_call 29; refine (hI _).mono ?_; rintro e wq ⟨rfl, hq⟩)
  go_ret
  exact ⟨rfl, bt (bel (Below.refl _ _)) hq⟩
theorem sz_of_er (op arg : Nat) (h : ¬ erV op arg = 0) : szV op arg = 0 := by
  unfold erV at h; unfold szV
  split at h
  · rw [if_pos (by assumption)]
  · rw [if_neg (by assumption)]
    split at h
    · rw [if_pos (by assumption)]
    · exact absurd rfl h
theorem sz_ok (op arg : Nat) (h : erV op arg = 0) : szV op arg = 1 + opWi op := by
  unfold erV at h; unfold szV
  split at h
  · cases h
  · rw [if_neg (by assumption)]
    split at h
    · cases h
    · rw [if_neg (by assumption)]
end Go.Proofs.Ytdpghhkimnifjaa
namespace Go.Proofs.Ytdpghhkimnifjaa
open Go.RowKit
set_option maxRecDepth 100000

/-- code as values -/
def cv (L : List (Nat × Nat)) : List Value := L.flatMap fun p => [.int .u8 p.1, .int .u32 p.2]
theorem cv_append (L M : List (Nat × Nat)) : cv (L ++ M) = cv L ++ cv M := by simp [cv]
theorem cv_one (p : Nat × Nat) : cv [p] = [.int .u8 p.1, .int .u32 p.2] := rfl
theorem cv_len (L : List (Nat × Nat)) : (cv L).length = L.length * 2 := by
  induction L with
  | nil => rfl
  | cons p L ih =>
    rw [show cv (p :: L) = [.int .u8 p.1, .int .u32 p.2] ++ cv L from rfl, List.length_append, ih, List.length_cons]
    simp; omega
/-- what a slice of instructions that is read holds -/
def CRd (w : World) (ao : Option Addr) (L : List (Nat × Nat)) (B : Nat) : Prop :=
  0 < L.length → ∃ b off, ao = some ⟨b, off, none⟩ ∧ b < B ∧ ∀ j, j < L.length → w.cell? ⟨b, off + j * 2, none⟩ = some (.int .u8 (L.getD j (0, 0)).1) ∧ w.cell? ⟨b, off + j * 2 + 1, none⟩ = some (.int .u32 (L.getD j (0, 0)).2)
theorem CRd.below {w w' : World} {ao : Option Addr} {L : List (Nat × Nat)} {B : Nat} (h : CRd w ao L B) (hb : Below B w w') : CRd w' ao L B := by
  intro hl
  obtain ⟨b, off, e, hlt, hc⟩ := h hl
  exact ⟨b, off, e, hlt, fun j hj => ⟨(hb.cell (p := ⟨b, off + j * 2, none⟩) hlt).trans (hc j hj).1, (hb.cell (p := ⟨b, off + j * 2 + 1, none⟩) hlt).trans (hc j hj).2⟩⟩
theorem CRd.mono {w : World} {ao : Option Addr} {L : List (Nat × Nat)} {B C : Nat} (h : CRd w ao L B) (hb : B ≤ C) : CRd w ao L C := by
  intro hl
  obtain ⟨b, off, e, hlt, hc⟩ := h hl
  exact ⟨b, off, e, Nat.lt_of_lt_of_le hlt hb, hc⟩
/-- each number is one of its kind -/
def Wfc (L : List (Nat × Nat)) : Prop := ∀ p ∈ L, p.1 < 256 ∧ p.2 < 4294967296
theorem Wfc.at {L : List (Nat × Nat)} (h : Wfc L) {k : Nat} (hk : k < L.length) : (L.getD k (0, 0)).1 < 256 ∧ (L.getD k (0, 0)).2 < 4294967296 := by
  apply h
  rw [List.getD_eq_getElem?_getD, List.getElem?_eq_getElem hk]
  exact List.getElem_mem hk
theorem ptake {α : Type} (d : α) (zs : List α) (k : Nat) (h : k < zs.length) : zs.take (k + 1) = zs.take k ++ [zs.getD k d] := by
  rw [List.take_add_one, List.getD_eq_getElem?_getD, List.getElem?_eq_getElem h]; rfl

def okI (p : Nat × Nat) : Bool := erV p.1 p.2 == 0
def enc1 (p : Nat × Nat) : List Int := (p.1 : Int) :: nb (opWi p.1) p.2
def encF (L : List (Nat × Nat)) : List Int := L.flatMap enc1
theorem encF_append (L M : List (Nat × Nat)) : encF (L ++ M) = encF L ++ encF M := by simp [encF]
theorem encF_one (p : Nat × Nat) : encF [p] = (p.1 : Int) :: nb (opWi p.1) p.2 := by simp [encF, enc1]
theorem enc1_len (p : Nat × Nat) : (enc1 p).length = 1 + opWi p.1 := by simp [enc1, nb_len]; omega
theorem encF_le (L : List (Nat × Nat)) : (encF L).length ≤ 5 * L.length := by
  induction L with
  | nil => simp [encF]
  | cons p L ih =>
    have := opWi_le p.1
    rw [show encF (p :: L) = enc1 p ++ encF L from rfl, List.length_append, enc1_len, List.length_cons]; omega
/-- the number of instructions ahead of the first that may not be -/
def badAt : List (Nat × Nat) → Nat
  | [] => 0
  | p :: L => if okI p then badAt L + 1 else 0
def allOk (L : List (Nat × Nat)) : Bool := L.all okI
theorem badAt_of (L : List (Nat × Nat)) (k : Nat) (hk : k < L.length) (h : ∀ j, j < k → okI (L.getD j (0, 0)) = true) (hb : okI (L.getD k (0, 0)) = false) : badAt L = k ∧ allOk L = false := by
  induction L generalizing k with
  | nil => simp at hk
  | cons p L ih =>
    cases k with
    | zero => 
      have hb' : okI p = false := hb
      simp [badAt, allOk, hb']
    | succ k =>
      have h0 : okI p = true := h 0 (by omega)
      obtain ⟨e1, e2⟩ := ih k (by simpa using hk) (fun j hj => h (j + 1) (by omega)) hb
      refine ⟨by rw [badAt, if_pos h0, e1], ?_⟩
      simp only [allOk, List.all_cons, h0, Bool.true_and] at e2 ⊢
      exact e2
theorem allOk_of (L : List (Nat × Nat)) (h : ∀ j, j < L.length → okI (L.getD j (0, 0)) = true) : allOk L = true := by
  rw [allOk, List.all_eq_true]
  intro p hp
  obtain ⟨j, hj, rfl⟩ := List.getElem_of_mem hp
  have := h j hj
  rwa [List.getD_eq_getElem?_getD, List.getElem?_eq_getElem hj] at this
def encB (L : List (Nat × Nat)) : List Int := if 16384 < L.length then [] else if allOk L then encF L else []
def encI (L : List (Nat × Nat)) : Nat := if 16384 < L.length then 16384 else if allOk L then 0 else badAt L
def encX (L : List (Nat × Nat)) : Nat := if 16384 < L.length then 73 else if allOk L then 0 else erV (L.getD (badAt L) (0, 0)).1 (L.getD (badAt L) (0, 0)).2
theorem opWi_cases (k : Nat) : opWi k = 0 ∨ opWi k = 1 ∨ opWi k = 2 ∨ opWi k = 4 := by
  by_cases h : 1 ≤ k ∧ k ≤ 59
  · have : ∀ j, j < 60 → (opWi j = 0 ∨ opWi j = 1 ∨ opWi j = 2 ∨ opWi j = 4) := by decide
    exact this k (by omega)
  · exact Or.inl (opT_zero k h).2.1

theorem nb_mod (w : Nat) : ∀ (x : Int) (k : Nat), w ≤ k → nb w (x % 256 ^ k) = nb w x := by
  induction w with
  | zero => intro x k _; rfl
  | succ w ih =>
    intro x k hk
    obtain ⟨m, rfl⟩ : ∃ m, k = m + 1 := ⟨k - 1, by omega⟩
    have hP := pow256_pos m
    have e1 : x % 256 ^ (m + 1) % 256 = x % 256 := by
      rw [pow256, Int.mul_comm, emod_256 _ _ hP]; omega
    have e2 : x % 256 ^ (m + 1) / 256 = x / 256 % 256 ^ m := by
      rw [pow256, Int.mul_comm, emod_256 _ _ hP]; omega
    show x % 256 ^ (m + 1) % 256 :: nb w (x % 256 ^ (m + 1) / 256) = x % 256 :: nb w (x / 256)
    rw [e1, e2, ih _ _ (by omega)]
end Go.Proofs.Ytdpghhkimnifjaa
