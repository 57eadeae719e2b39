import Derived.Test.YtonmoidalkcmoaaCZSh
namespace Go.Proofs.Ytonmoidalkcmoaa
open Go.RowKit Go.WideShapes Go.Shelf
set_option maxRecDepth 100000
def liB (n a e : Nat) : Bool := decide (a < e ∧ e ≤ n)
theorem lies_any (ao : Option Addr) (cap n a e : Nat) (w : World) (hn : n ≤ 9223372036854775807) (_ha : a < 4294967296) (he : e < 4294967296) :
    Calls Try.prog 12 #[.slice ao n cap, .int .u32 (a : Int), .int .u32 (e : Int)] w fun x w' => x = .returned (.bool (liB n a e)) ∧ w' = w := by
  by_cases h1 : a < e
  · have d1 : decide ((a : Int) < (e : Int)) = true := decide_eq_true (by omega)
    have d1' : (a : Int) < (e : Int) := by omega
    by_cases h2 : e ≤ n
    · have d2 : decide ((e : Int) ≤ (n : Int)) = true := decide_eq_true (by omega)
      have d2' : (e : Int) ≤ (n : Int) := by omega
      rw [show liB n a e = true from decide_eq_true ⟨h1, h2⟩]
      go_enter Try.func12, Try.ntmps12
      go_wp2
      go_ret
      exact ⟨rfl, rfl⟩
    · have d2 : decide ((e : Int) ≤ (n : Int)) = false := decide_eq_false (by omega)
      have d2' : ¬ (e : Int) ≤ (n : Int) := by omega
      rw [show liB n a e = false from decide_eq_false (fun h => h2 h.2)]
      go_enter Try.func12, Try.ntmps12
      go_wp2
      go_ret
      exact ⟨rfl, rfl⟩
  · have d1 : decide ((a : Int) < (e : Int)) = false := decide_eq_false (by omega)
    have d1' : ¬ (a : Int) < (e : Int) := by omega
    rw [show liB n a e = false from decide_eq_false (fun h => h1 h.1)]
    go_enter Try.func12, Try.ntmps12
    go_wp2
    go_ret
    exact ⟨rfl, rfl⟩
/-- what a shape makes of a stretch at an index -/
def fitV (sh : Shp) (k : Nat) (L : List (Nat × Nat)) (at_ : Nat) : Fz × Bool := if (sh L).len = 0 then (fz0, false) else ({ sh L with at_ := at_, kind := k }, true)
set_option maxHeartbeats 4000000 in
theorem fit_any {B : Nat} (v : Value) (sh : Shp) (k at_ : Nat) (ao : Option Addr) (cap : Nat) (L : List (Nat × Nat)) (w w0 : World) (hv : ShS B w0 v sh) (hw : Fr B w0 w) (h0 : 0 < L.length) (hcap : L.length ≤ cap) (hlen : L.length < 4294967296) (hwf : Wfc L) (hr : CRd w ao L w.heap.size) :
    Calls Try.prog 26 #[v, .int .u8 (k : Int), .slice ao L.length cap, .int .u32 (at_ : Int)] w fun e w' => e = .returned (.tuple #[.agg (fzA (fitV sh k L at_).1), .bool (fitV sh k L at_).2]) ∧ Below w.heap.size w w' := by
  obtain ⟨g, lb, rfl, eg, hcall⟩ := hv
  have HL := dhid (fun o => hcall (w.alloc o) (hw.trans (Fr.of (bel1 w o))) ao cap L h0 hcap hlen hwf ((hr.below (bel1 w o)).mono (by simp)))
  unfold fitV
  generalize sh L = f at *
  obtain ⟨f0, f1, f2, f3, f4, f5⟩ := f
  simp only [fzA] at HL
  have hbd : Below w.heap.size w w := Below.refl _ _
  clear hcall hr hwf
  by_cases hz : f1 = 0
  · subst hz
    rw [if_pos rfl]
    go_enter Try.func26, Try.ntmps26
    go_wp2_with fail
    refine (HL.out _).mono ?_
    rintro e w1 ⟨rfl, hb1⟩
    have o1 := dhid ((hb1.block w.heap.size (by simp)).trans (heap_alloc_new w _))
    have B1 := dhid ((bel1 w _).trans (hb1.mono (by simp)))
    have hz1 : w.heap.size < w1.heap.size := (Array.getElem?_eq_some_iff.1 o1.out).1
    have o2 := dhid (fun o => (Below.heap_alloc w1 o w.heap.size hz1).trans o1.out)
    clear HL
    go_wp2_with (refine wpList_storeF rfl _ _ rfl w.heap.size fz0 fz0 rfl rfl (o2.out _) ?_)
    exact bodyPost_ret (resFzB (p := 8) (u := 9) (by kernel_rfl) _ _ w.heap.size _ rfl (setRow_heap _ _ _ _ _ _ (o2.out _)) _ rfl rfl) rfl ⟨rfl, (B1.out.alloc B1.out.size _).trans ((KpSetRow (S := fun i => i = w.heap.size) _ _ _ rfl).below (by simp; omega) (fun i e => by omega))⟩
  · rw [if_neg hz]
    have d1 : ((f1 : Int) == 0) = false := by rw [beq_eq_false_iff_ne]; omega
    have d2 : ¬ (f1 : Int) = 0 := by omega
    go_enter Try.func26, Try.ntmps26
    go_wp2_with fail
    refine (HL.out _).mono ?_
    rintro e w1 ⟨rfl, hb1⟩
    have o1 := dhid ((hb1.block w.heap.size (by simp)).trans (heap_alloc_new w _))
    have B1 := dhid ((bel1 w _).trans (hb1.mono (by simp)))
    have hz1 : w.heap.size < w1.heap.size := (Array.getElem?_eq_some_iff.1 o1.out).1
    have o2 := dhid (fun o => (Below.heap_alloc w1 o w.heap.size hz1).trans o1.out)
    clear HL
    go_wp2_with (refine wpList_storeF rfl _ _ rfl w.heap.size fz0 ⟨at_, f1, k, f3, f4, f5⟩ rfl rfl (o2.out _) ?_)
    exact bodyPost_ret (resFzB (p := 8) (u := 9) (by kernel_rfl) _ _ w.heap.size _ rfl (setRow_heap _ _ _ _ _ _ (o2.out _)) _ rfl rfl) rfl ⟨rfl, (B1.out.alloc B1.out.size _).trans ((KpSetRow (S := fun i => i = w.heap.size) _ _ _ rfl).below (by simp; omega) (fun i e => by omega))⟩
end Go.Proofs.Ytonmoidalkcmoaa
