import Derived.Test.YtonmoidalkcmoaaCZCn
namespace Go.Proofs.Ytonmoidalkcmoaa
set_option maxHeartbeats 4000000
open Go.RowKit Go.WideShapes
set_option maxRecDepth 100000
/-- a function value that lays a value into a thing -/
def LyS (B : Nat) (w : World) (v : Value) (lay : Fz → Nat → Fz) : Prop :=
  ∃ g lb, v = .func (.func g) #[] lb ∧ (∀ args w, (callFunc g args).run Try.prog w = .ok (.enter g args) w) ∧ ∀ W, Fr B w W → ∀ (f : Fz) (x : Nat),
    Calls Try.prog g (#[.agg (fzA f), .int .u32 (x : Int)] ++ lb) W fun e w' => e = .returned (.agg (fzA (lay f x))) ∧ Below W.heap.size W w'
/-- a constant -/
def ptConst (lay : Fz → Nat → Fz) : Pt := fun L f => (lay { f with len := f.len + (cnV L).1 } (cnV L).2, decide (0 < (cnV L).1))
theorem constantInto1_any {B : Nat} (gb : Nat) (lay : Fz → Nat → Fz) (v : Value) (ao : Option Addr) (cap : Nat) (L : List (Nat × Nat)) (f : Fz) (w : World) (hg : gb < w.heap.size) (hv : w.cell? ⟨gb, 0, none⟩ = some v) (hly : LyS B w v lay)
    (hcap : L.length ≤ cap) (hlen : f.len + L.length < 4294967296) (hwf : Wfc L) (hr : CRd w ao L w.heap.size) :
    Calls Try.prog 57 #[.slice ao L.length cap, .agg (fzA f), .pointer (some ⟨gb, 0, none⟩)] w fun e w' => e = .returned (.tuple #[.agg (fzA (ptConst lay L f).1), .bool (ptConst lay L f).2]) ∧ Below w.heap.size w w' := by
  have HC := dhid (fun o o' => constantOf_any ao cap L ((w.alloc o).alloc o') hcap (by omega) hwf ((hr.below (zbel2 w o o')).mono (by simp; omega)))
  have hcl := cnV_le hwf
  obtain ⟨f0, f1, f2, f3, f4, f5⟩ := f
  rw [show ptConst lay L ⟨f0, f1, f2, f3, f4, f5⟩ = (lay ⟨f0, f1 + (cnV L).1, f2, f3, f4, f5⟩ (cnV L).2, decide (0 < (cnV L).1)) from rfl]
  generalize cnV L = c at *
  obtain ⟨c1, c2⟩ := c
  simp only at hcl hlen
  obtain ⟨g, lb, rfl, eg, hcall⟩ := hly
  have HL := dhid (fun W (hW : Below w.heap.size w W) => hcall W (Fr.of hW) ⟨f0, f1 + c1, f2, f3, f4, f5⟩ c2)
  have HN := dhid (Bs.new w ⟨f0, f1, f2, f3, f4, f5⟩ fz0)
  have HLV := dhid (fun V (hV : Below w.heap.size w V) => (hV.cell (p := ⟨gb, 0, none⟩) hg).trans hv)
  have hs : f1 + c1 < 4294967296 := by omega
  have hz : decide ((0 : Int) < (c1 : Int)) = decide (0 < c1) := by
    by_cases h : 0 < c1
    · rw [decide_eq_true h, decide_eq_true (by omega)]
    · rw [decide_eq_false h, decide_eq_false (by omega)]
  generalize lay ⟨f0, f1 + c1, f2, f3, f4, f5⟩ c2 = q at HL ⊢
  simp only [fzA, fz0] at HN HC ⊢
  simp only [fzA] at HL
  clear hcall hr hwf
  go_enter Try.func57, Try.ntmps57
  go_wp2_with (go_at_call 58; with_reducible refine (HC.out _ _).mono ?_; rintro e w1 ⟨rfl, hb1⟩
               have N1 := dhid (HN.out.next hb1)
               have k1 := N1.out.cells.2.1
               have k2 := obj_frozen N1.out.c0 1
               have M1 := dhid (N1.out.setLen (f1 + c1))
               have HS1 := M1.out.cells
               have HG1 := HLV.out _ M1.out.bw
               rw [show ((f1 + c1 : Nat) : Int) = (f1 : Int) + (c1 : Int) from rfl] at M1 HS1 HG1
               obtain ⟨j0, j1, j2, j3, j4, j5⟩ := HS1)
  refine (HL.out _ M1.out.bw).mono ?_
  rintro e w2 ⟨rfl, hb2⟩
  have M2 := dhid (M1.out.next hb2)
  clear hb2 HL HLV HN HC N1 M1 k1 k2 j0 j1 j2 j3 j4 j5 HG1 hb1
  go_wp2_with (refine wpList_storeF rfl _ _ rfl (w.heap.size + 1) fz0 q rfl rfl M2.out.c1 ?_)
  have M3 := M2.out.row q
  exact bodyPost_ret (resFzB (p := 5) (u := 6) (by kernel_rfl) _ _ (w.heap.size + 1) _ rfl M3.c1 _ rfl rfl) rfl ⟨(by first | rfl | exact congrArg (fun b => Ending.returned (Value.tuple #[Value.agg _, Value.bool b])) hz), M3.bw⟩
/-- a whole piece of a kind -/
def shFold (k : Nat) : Shp := fun L => if (lnP L 0 L.length).2.2.1 = k then ⟨0, (lnP L 0 L.length).2.1, 0, 0, (lnP L 0 L.length).2.2.2, 0⟩ else fz0
theorem folded1_any (gb k : Nat) (ao : Option Addr) (cap : Nat) (L : List (Nat × Nat)) (w : World) (hg : gb < w.heap.size) (hv : w.cell? ⟨gb, 0, none⟩ = some (.int .u8 (k : Int)))
    (hcap : L.length ≤ cap) (hlen : L.length < 4294967296) (hwf : Wfc L) (hr : CRd w ao L w.heap.size) :
    Calls Try.prog 62 #[.slice ao L.length cap, .pointer (some ⟨gb, 0, none⟩)] w fun e w' => e = .returned (.agg (fzA (shFold k L))) ∧ Below w.heap.size w w' := by
  have F := dhid (fun o => Longest_any ao cap 0 L.length L (w.alloc o) (by omega) hcap (by decide) hlen hwf ((hr.below ((Below.refl _ w).alloc (Nat.le_refl _) o)).mono (by simp)))
  rw [show ((0 : Nat) : Int) = 0 from rfl] at F
  unfold shFold
  generalize lnE L 0 L.length = er at F
  generalize lnP L 0 L.length = q at *
  obtain ⟨qa, ql, qk, qv⟩ := q
  simp only [pcA] at F ⊢
  have hbd : Below w.heap.size w w := Below.refl _ _
  have HLV := dhid (fun V (hV : Below w.heap.size w V) => (hV.cell (p := ⟨gb, 0, none⟩) hg).trans hv)
  clear hr hwf
  by_cases hk : qk = k
  · rw [if_pos hk]
    subst hk
    go_enter Try.func62, Try.ntmps62
    go_wp2_with (first
      | (go_at_call 63; with_reducible refine (F.out _).mono ?_; rintro e w1 ⟨rfl, hb1⟩
         have o1 := dhid ((hb1.block w.heap.size (by simp)).trans (heap_alloc_new w _))
         have B1 := dhid ((hbd.alloc (Nat.le_refl _) _).trans (hb1.mono (by simp)))
         have hz : w.heap.size < w1.heap.size := (Array.getElem?_eq_some_iff.1 o1.out).1
         have y0 := fun o => HLV.out (w1.alloc o) (B1.out.alloc B1.out.size o)
         have o2 := dhid (fun o => (Below.heap_alloc w1 o w.heap.size hz).trans o1.out)
         have hgz : gb < w1.heap.size := by omega
         have y1 := HLV.out w1 B1.out)
      | (refine wpList_storeF rfl _ _ rfl w.heap.size fz0 ⟨0, ql, 0, 0, qv, 0⟩ rfl rfl (o2.out _) ?_))
    exact bodyPost_ret (resFz (p := 3) (by kernel_rfl) _ w.heap.size _ rfl (setRow_heap _ _ _ _ _ _ (o2.out _)) _ rfl) rfl ⟨rfl, (B1.out.alloc B1.out.size _).trans ((KpSetRow (S := fun i => i = w.heap.size) _ _ _ rfl).below (by simp; omega) (fun i e => by omega))⟩
  · rw [if_neg hk]
    have d1 : ((qk : Int) != (k : Int)) = true := by simp; omega
    have d2 : ¬ (qk : Int) = (k : Int) := by omega
    go_enter Try.func62, Try.ntmps62
    go_wp2_with (first
      | (go_at_call 63; with_reducible refine (F.out _).mono ?_; rintro e w1 ⟨rfl, hb1⟩
         have o1 := dhid ((hb1.block w.heap.size (by simp)).trans (heap_alloc_new w _))
         have B1 := dhid ((hbd.alloc (Nat.le_refl _) _).trans (hb1.mono (by simp)))
         have hz : w.heap.size < w1.heap.size := (Array.getElem?_eq_some_iff.1 o1.out).1
         have y0 := fun o => HLV.out (w1.alloc o) (B1.out.alloc B1.out.size o)
         have o2 := dhid (fun o => (Below.heap_alloc w1 o w.heap.size hz).trans o1.out)
         have hgz : gb < w1.heap.size := by omega
         have y1 := HLV.out w1 B1.out)
      | (refine wpList_storeF rfl _ _ rfl w.heap.size fz0 fz0 rfl rfl (o2.out _) ?_))
    exact bodyPost_ret (resFz (p := 3) (by kernel_rfl) _ w.heap.size _ rfl (setRow_heap _ _ _ _ _ _ (o2.out _)) _ rfl) rfl ⟨rfl, (B1.out.alloc B1.out.size _).trans ((KpSetRow (S := fun i => i = w.heap.size) _ _ _ rfl).below (by simp; omega) (fun i e => by omega))⟩
end Go.Proofs.Ytonmoidalkcmoaa
