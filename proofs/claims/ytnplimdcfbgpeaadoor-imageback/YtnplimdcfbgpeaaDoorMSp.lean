import Derived.Test.YtnplimdcfbgpeaaDoorCLBase
import Derived.Deep.MidRow
import Derived.Deep.RegionHeld3
import Derived.Deep.WholeRow
import Derived.BigQuiet
import Derived.Shelf.SlSortCmp.QuietGrown
namespace Go.Proofs.YtnplimdcfbgpeaaDoor
open Go.RowKit Go.WideShapes Go.Sort
set_option maxRecDepth 100000

theorem hidS {p : Prop} (h : p) : Hid p := h
theorem belS {a w : World} {o : Obj} (h : Below a.heap.size a w) : Below a.heap.size a (w.alloc o) := h.alloc h.size o
theorem btS {w a b : World} (h1 : Below w.heap.size w a) (h2 : Below a.heap.size a b) : Below w.heap.size w b := h1.trans (h2.mono h1.size)
/-- spans as values -/
def sv (L : List (Nat × Nat)) : List Value := L.flatMap fun p => [.int .u32 p.1, .int .u32 p.2]
theorem sv_append (L M : List (Nat × Nat)) : sv (L ++ M) = sv L ++ sv M := by simp [sv]
theorem sv_len (L : List (Nat × Nat)) : (sv L).length = L.length * 2 := by
  induction L with
  | nil => rfl
  | cons p L ih =>
    rw [show sv (p :: L) = [.int .u32 p.1, .int .u32 p.2] ++ sv L from rfl, List.length_append, ih, List.length_cons]
    simp; omega
theorem sv_get (L : List (Nat × Nat)) : ∀ j, j < L.length → (sv L)[j * 2]? = some (.int .u32 (L.getD j (0, 0)).1) ∧ (sv L)[j * 2 + 1]? = some (.int .u32 (L.getD j (0, 0)).2) := by
  induction L with
  | nil => intro j hj; simp at hj
  | cons p L ih =>
    intro j hj
    have e : sv (p :: L) = .int .u32 p.1 :: .int .u32 p.2 :: sv L := rfl
    cases j with
    | zero => rw [e]; exact ⟨rfl, rfl⟩
    | succ j =>
      have := ih j (by simpa using hj)
      rw [e, show (j + 1) * 2 = j * 2 + 1 + 1 by omega]
      simpa using this
theorem sv_one' (L : List (Nat × Nat)) : ∀ u ∈ sv L, u.oneCell' = true := by
  intro u hu
  simp [sv] at hu
  obtain ⟨a, b, _, h | h⟩ := hu <;> subst h <;> rfl
theorem Tryd.infoS : (Tryd.prog.info? 47).map (fun i => (i.zero, i.size, i.bytes)) = some (some (.agg #[.int .u32 0, .int .u32 0]), 2, 8) := by kernel_rfl
theorem infoS2 : (Tryd.prog.info? 47).map (·.size) = some 2 := by kernel_rfl
theorem undS2 : ∃ fs, Tryd.prog.underlying 47 = some (.struct fs) := by
  have h : (match Tryd.prog.underlying 47 with | some (.struct _) => true | _ => false) = true := by kernel_rfl
  split at h
  · exact ⟨_, by assumption⟩
  · cases h
/-- what a slice of spans that is read holds -/
def SRd (w : World) (ao : Option Addr) (L : List (Nat × Nat)) (B : Nat) : Prop :=
  0 < L.length → ∃ b off, ao = some ⟨b, off, none⟩ ∧ b < B ∧ ∀ j, j < L.length → w.cell? ⟨b, off + j * 2, none⟩ = some (.int .u32 (L.getD j (0, 0)).1) ∧ w.cell? ⟨b, off + j * 2 + 1, none⟩ = some (.int .u32 (L.getD j (0, 0)).2)
theorem SRd.below {w w' : World} {ao : Option Addr} {L : List (Nat × Nat)} {B : Nat} (h : SRd w ao L B) (hb : Below B w w') : SRd w' ao L B := by
  intro hl
  obtain ⟨b, off, e, hlt, hc⟩ := h hl
  exact ⟨b, off, e, hlt, fun j hj => ⟨(hb.cell (p := ⟨b, off + j * 2, none⟩) hlt).trans (hc j hj).1, (hb.cell (p := ⟨b, off + j * 2 + 1, none⟩) hlt).trans (hc j hj).2⟩⟩
theorem SRd.mono {w : World} {ao : Option Addr} {L : List (Nat × Nat)} {B C : Nat} (h : SRd w ao L B) (hb : B ≤ C) : SRd w ao L C := by
  intro hl
  obtain ⟨b, off, e, hlt, hc⟩ := h hl
  exact ⟨b, off, e, Nat.lt_of_lt_of_le hlt hb, hc⟩
theorem SRd.take {w : World} {ao : Option Addr} {L : List (Nat × Nat)} {B : Nat} (h : SRd w ao L B) (m : Nat) : SRd w ao (L.take m) B := by
  intro hl
  rw [List.length_take] at hl
  obtain ⟨b, off, e, hlt, hc⟩ := h (by omega)
  refine ⟨b, off, e, hlt, fun j hj => ?_⟩
  rw [List.length_take] at hj
  have : (L.take m).getD j (0, 0) = L.getD j (0, 0) := by simp [List.getD_eq_getElem?_getD, show j < m by omega]
  rw [this]
  exact hc j (by omega)
theorem own_srd {w : World} {B : Nat} {v : Value} {L : List (Nat × Nat)} (h : w.ownsRow B 47 2 v L.length (sv L)) : ∃ ao cap, v = .slice ao L.length cap ∧ SRd w ao L w.heap.size := by
  rcases h.2 with ⟨rfl, h0⟩ | ⟨g, cap, cur, rfl, hh⟩
  · exact ⟨none, 0, by rw [h0], fun hp => absurd hp (by omega)⟩
  · refine ⟨some ⟨g, 0, none⟩, cap, rfl, fun _ => ⟨g, 0, rfl, (h.lt g rfl).2, fun j hj => ?_⟩⟩
    obtain ⟨e0, e1⟩ := sv_get L j hj
    have x0 := h.cells (g := g) rfl _ _ e0
    have x1 := h.cells (g := g) rfl _ _ e1
    rw [add_plain] at x0 x1
    exact ⟨x0, by rw [← x1]; congr 2⟩

/-- each number is one of its kind -/
def Wfs (L : List (Nat × Nat)) : Prop := ∀ p ∈ L, p.1 < 4294967296 ∧ p.2 < 4294967296
def lapB (a b : Nat × Nat) : Bool := decide (0 < a.2) && decide (0 < b.2) && decide (a.1 < b.1 + b.2) && decide (b.1 < a.1 + a.2)
set_option maxHeartbeats 1000000 in
theorem end_any (a b : Nat) (w : World) (ha : a < 4294967296) (hb : b < 4294967296) :
    Calls Tryd.prog 50 #[.agg #[.int .u32 a, .int .u32 b]] w fun e w' => e = .returned (.int .u64 ((a : Int) + (b : Int))) ∧ ∃ q os', w' = grow (w.drewN q) os' := by
  have haI : (a : Int) < 4294967296 := by omega
  have hbI : (b : Int) < 4294967296 := by omega
  clear ha hb
  go_enter Tryd.func50, Tryd.ntmps50
  go_wp2
  go_ret
  exact ⟨rfl, 0, _, by rw [alloc_eq_grow]; rfl⟩
end Go.Proofs.YtnplimdcfbgpeaaDoor
