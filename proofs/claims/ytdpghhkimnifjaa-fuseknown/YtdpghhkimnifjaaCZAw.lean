import Derived.Test.YtdpghhkimnifjaaCZLn
import Derived.Test.YtdpghhkimnifjaaCDLg
import Derived.Test.YtdpghhkimnifjaaCDPn
import Derived.ProofKit
import Derived.OpenShut
import Derived.SizedLaws
import Derived.JoinedCond
namespace Go.Proofs.Ytdpghhkimnifjaa
open Go.RowKit Go.WideShapes Go.Shelf
set_option maxRecDepth 100000

def fzT (f : Fz) : Nat × Nat × Nat × Nat × Nat × Nat := (f.at_, f.len, f.kind, f.op, f.a, f.b)
theorem fzT_inj {f : Fz} {a b c d e g : Nat} (h : fzT f = (a, b, c, d, e, g)) : f = ⟨a, b, c, d, e, g⟩ := by
  obtain ⟨f0, f1, f2, f3, f4, f5⟩ := f
  simp only [fzT, Prod.mk.injEq] at h
  obtain ⟨rfl, rfl, rfl, rfl, rfl, rfl⟩ := h
  rfl
def zwL : List (Nat × Nat) := [(9, 8), (9, 8), (31, 0), (8, 1), (39, 0), (34, 0)]
theorem zwL_wf : Wfc zwL := by unfold Wfc zwL; decide +kernel
theorem zw1 : fzT (flV zwL 0 6) = (0, 6, 15, 39, 8, 1) ∧ flE zwL 0 6 = 0 := by decide +kernel
abbrev zwC : Array Value := #[.int .u8 9, .int .u32 8, .int .u8 9, .int .u32 8, .int .u8 31, .int .u32 0, .int .u8 8, .int .u32 1, .int .u8 39, .int .u32 0, .int .u8 34, .int .u32 0]
theorem zw1_call (b : Nat) (w : World) (h : w.heap[b]? = some (.cells zwC 36)) :
    Calls Try.prog 8 #[.slice (some ⟨b, 0, none⟩) 6 6, .int .u32 0, .int .u32 6] w fun x w' => x = .returned (.tuple #[.agg #[.int .u32 0, .int .u32 6, .int .u8 15, .int .u8 39, .int .u32 8, .int .u32 1], .int .i64 0]) ∧ Below w.heap.size w w' := by
  have := flongest_any (some ⟨b, 0, none⟩) 6 0 6 zwL w (by decide) (by decide) (by decide) (by decide) zwL_wf (crd_blkD h rfl)
  rw [fzT_inj zw1.1, zw1.2] at this
  exact this
set_option maxHeartbeats 1000000 in
theorem zawake_any (w : World) : Calls Try.prog 7 #[] w fun x w' => x = .returned (.bool true) ∧ Below w.heap.size w w' := by
  have hbd : Below w.heap.size w w := Below.refl _ _
  have H1 := dhid (fun o => zw1_call w.heap.size (w.alloc o))
  go_enter Try.func7, Try.ntmps7
  go_wp2_with fail
  with_reducible refine (H1.out _ ?_).mono ?_
  · exact heap_alloc_new w _
  rintro x w1 ⟨rfl, hb1⟩
  have hB1 := dhid ((hbd.alloc (Nat.le_refl _) _).trans (hb1.mono (by simp)))
  clear H1
  go_wp2_with fail
  go_ret
  exact ⟨rfl, hB1.out.alloc hB1.out.size _⟩
end Go.Proofs.Ytdpghhkimnifjaa
namespace Go.Proofs.Ytdpghhkimnifjaa
open Go.ChangeShapes Go.WideShapes Go.ChangeAt Go.RowKit

theorem Try.own : ownKnob Try.prog.godebug = none := by kernel_rfl
theorem Try.laidOut : laidOutB Try.prog = true := by kernel_rfl
theorem Try.cells5 : Try.prog.cellsOf 5 = 1 := by kernel_rfl
theorem Try.bytes5 : Try.prog.bytesOf 5 = 1 := by kernel_rfl
theorem int_wf {z : Int} (h : (Lit.int .i64 z).wf = true) : -9223372036854775808 ≤ z ∧ z ≤ 9223372036854775807 := by
  have h1 : IntKind.i64.min = -9223372036854775808 := rfl
  have h2 : IntKind.i64.max = 9223372036854775807 := rfl
  simp only [Lit.wf, Bool.and_eq_true, decide_eq_true_eq] at h
  omega
theorem byte_wf {z : Int} (h : (Lit.int .u8 z).wf = true) : 0 ≤ z ∧ z ≤ 255 := by
  simpa [Lit.wf, IntKind.min, IntKind.max, IntKind.signed, IntKind.bits] using h
theorem bulk_lits {H : Type} (k : IntKind) (zs : List Int) : Rows.uptoBulkAll (lits (H := H) k zs) = zs.length := by
  induction zs with
  | nil => rfl
  | cons z zs ih =>
    have e : lits (H := H) k (z :: zs) = .lit (.int k z) :: lits k zs := rfl
    rw [e]
    simp only [Rows.uptoBulkAll, Rows.uptoBulk, ih, List.length_cons]
    omega

/-- a slice of bytes that is handed in, or lies in what is -/
theorem bytes_cells {H : Type} {enc : TypeId × Value → H} {W : World} {fuel : Nat} {cs : List Value} {d : DataW H} {p : List MemPlace}
    (hf : DataW.trod enc Try.prog W 0 (fun _ => true) true fuel 25 cs = some (d, p)) (hlt : ∀ x ∈ p, x.block < W.heap.size) :
    ∃ (a0 : Option Addr) (cap : Nat) (zs : List Int), cs = [.slice a0 zs.length cap] ∧ zs.length ≤ cap ∧ (∀ z ∈ zs, 0 ≤ z ∧ z ≤ 255) ∧ Reads W a0 zs W.heap.size ∧ (d = .nil ∧ zs = [] ∨ ∃ sp, d = .slice (lits .u8 zs) (lits .u8 sp)) := by
  rcases open_ints Try.underlying25 Try.underlying5 Try.cells5 hf with ⟨hcs, hx⟩ | ⟨a, len, cap, zs, hcs, _, hl, hm, hz, hx, hcell, hwz⟩
  · simp only [Prod.mk.injEq] at hx
    exact ⟨none, 0, [], hcs, by simp, by simp, Reads.nil _ _ _, .inl ⟨hx.1, rfl⟩⟩
  · simp only [Prod.mk.injEq] at hx
    obtain ⟨rfl, rfl⟩ := hx
    simp only [if_true] at hz
    have hlz : (zs.take len).length = len := by simp; omega
    refine ⟨some a, cap, zs.take len, by rw [hlz]; exact hcs, by rw [hlz]; exact hl, fun z hz' => byte_wf (hwz z (List.mem_of_mem_take hz')), fun hpos => ?_, .inr ⟨_, rfl⟩⟩
    obtain ⟨b, off, spot⟩ := a
    have hspot : spot = none := by simpa [Addr.add] using World.cell?_spot (hcell 0 (by omega))
    subst hspot
    have hbW : b < W.heap.size := hlt (.cell b off) (MemPlace.mem_row.2 ⟨0, by omega, by simp⟩)
    refine ⟨b, off, rfl, hbW, fun j hj => ?_⟩
    rw [hlz] at hj
    rw [← add_plain, hcell j (by omega)]
    simp [hj]
theorem bytes_open {H : Type} {enc : TypeId × Value → H} {W : World} {a0 : Option Addr} {len cap : Nat} {d : DataW H} {p : List MemPlace}
    (h : DataW.Trod enc Try.prog W 0 (fun _ => true) true 25 (.slice a0 len cap) d p) (hlt : ∀ x ∈ p, x.block < W.heap.size) :
    ∃ zs : List Int, zs.length = len ∧ zs.length ≤ cap ∧ (∀ z ∈ zs, 0 ≤ z ∧ z ≤ 255) ∧ Reads W a0 zs W.heap.size ∧ (d = .nil ∧ zs = [] ∨ ∃ sp, d = .slice (lits .u8 zs) (lits .u8 sp)) := by
  obtain ⟨fuel, hf⟩ := h
  obtain ⟨a, c, zs, hcs, hcp, h1, h2, h3⟩ := bytes_cells hf hlt
  simp [Value.cells] at hcs
  obtain ⟨rfl, rfl, rfl⟩ := hcs
  exact ⟨zs, rfl, hcp, h1, h2, h3⟩
theorem quad_wf {z : Int} (h : (Lit.int .u64 z).wf = true) : 0 ≤ z ∧ z < 18446744073709551616 := by
  have h1 : IntKind.u64.min = 0 := rfl
  have h2 : IntKind.u64.max = 18446744073709551615 := rfl
  simp only [Lit.wf, Bool.and_eq_true, decide_eq_true_eq] at h
  omega
theorem word_wf {z : Int} (h : (Lit.int .u32 z).wf = true) : 0 ≤ z ∧ z ≤ 4294967295 := by
  simpa [Lit.wf, IntKind.min, IntKind.max, IntKind.signed, IntKind.bits] using h
theorem weightsAll_mem {H : Type} {P : Program} {e : TypeId} : ∀ {l : List (DataW H)} {d : DataW H}, d ∈ l → ∀ n ∈ d.weights P e, n ∈ DataW.weightsAll P e l
  | d' :: r, d, hd, n, hn => by
    simp only [DataW.weightsAll, List.mem_append]
    rcases List.mem_cons.1 hd with rfl | h
    · exact Or.inl hn
    · exact Or.inr (weightsAll_mem h n hn)
theorem lits_len {H : Type} (k : IntKind) (zs : List Int) : (lits (H := H) k zs).length = zs.length := by simp [lits]
end Go.Proofs.Ytdpghhkimnifjaa
