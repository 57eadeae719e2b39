import Derived.Test.YtdpghhkimnifjaaCZLn
import Derived.Test.YtdpghhkimnifjaaZCl
namespace Go.Proofs.Ytdpghhkimnifjaa
open Go.RowKit Go.WideShapes Go.Shelf
set_option maxRecDepth 100000
attribute [local go_sem] Oper.semAt_some

/-- what Row hands out: a value that goes through the things of S from at on -/
structure RowS (w : World) (S : List (Nat × Nat)) (at_ : Nat) (v : Value) (w' : World) : Prop where
  ex : ∃ b1 b2 ao cap, v = .func (.func 32) #[] #[.pointer (some ⟨b1, 0, none⟩), .pointer (some ⟨b2, 0, none⟩)] ∧ S.length ≤ cap ∧ Boxed w' b1 23 (.int .u32 (at_ : Int)) ∧ Boxed w' b2 22 (.slice ao S.length cap) ∧ CRd w' ao S w'.heap.size ∧ w.heap.size ≤ b1 ∧ w.heap.size ≤ b2
  bl : Below w.heap.size w w'
def rwS (L : List (Nat × Nat)) (a e : Nat) : List (Nat × Nat) := if a < e ∧ e ≤ L.length then (L.drop a).take (e - a) else []
set_option maxHeartbeats 4000000 in
theorem frow_any (ao : Option Addr) (cap a e : Nat) (L : List (Nat × Nat)) (w : World) (hn : L.length * 8 ≤ 140737488355328) (hcap : L.length ≤ cap) (ha : a < 4294967296) (he : e < 4294967296) (hr : CRd w ao L w.heap.size) :
    Calls Try.prog 15 #[.slice ao L.length cap, .int .u32 (a : Int), .int .u32 (e : Int)] w fun en w' => ∃ v, en = .returned v ∧ RowS w (rwS L a e) a v w' := by
  have HL := dhid (fun W => lies_any ao cap L.length a e W (by omega) ha he)
  have HT := dhid (fun (n : Nat) (ao : Option Addr) (len cap : Nat) (W : World) => (callsIn_wide (n := 9)).1 (things_in 9 ao len cap a W))
  by_cases hl : a < e ∧ e ≤ L.length
  · rw [show liB L.length a e = true from decide_eq_true hl] at HL
    rw [show rwS L a e = (L.drop a).take (e - a) from if_pos hl]
    obtain ⟨S, hS⟩ : ∃ S, S = (L.drop a).take (e - a) := ⟨_, rfl⟩
    have hSl : S.length = e - a := by rw [hS, List.length_take, List.length_drop]; omega
    rw [← hS]
    have hr' := hr
    obtain ⟨b, off, rfl, hbl, -⟩ := hr (by omega)
    have HSR := dhid (show CRd w (some ⟨b, off + a * 2, none⟩) S w.heap.size by rw [hS]; exact crd_takeZ (crd_drop hr' a) _)
    have HC := dhid (zclone_any b (off + a * 2) (cap - a) S w (by rw [hSl]; omega) HSR.out)
    rw [hSl] at HC
    have HSL := dhid hSl
    have hac : ¬ a = cap := by omega
    have hac' : ¬ cap = a := by omega
    have haeI : (a : Int) ≤ (e : Int) := by omega
    have hecI : (e : Int) ≤ (cap : Int) := by omega
    clear hS hSl hr' hr
    go_enter Try.func15, Try.ntmps15
    go_wp2_with (first
      | (go_at_call 18; refine (HL.out _).mono ?_; rintro en w1 ⟨rfl, hw1⟩; subst hw1)
      | (go_at_call 28; refine HC.out.mono ?_; rintro en w2 ⟨a2, c2, rfl, hc2, hr2, hb2⟩)
      | (go_at_call 19; refine (HT.out 0 _ _ _ _).mono ?_; rintro en wq ⟨rfl, hq⟩; subst wq))
    go_ret
    have hz := hb2.size
    refine ⟨_, rfl, ⟨w2.heap.size + 1, w2.heap.size, a2, c2, rfl, by rw [HSL.out]; exact hc2, ?_, ?_, ?_, by omega, by omega⟩, (hb2.alloc hz _).alloc (by simp; omega) _⟩
    · simpa using Boxed.new (w2.alloc (.cells #[.slice a2 (e - a) c2] 22)) 23 (.int .u32 (a : Int))
    · rw [HSL.out]; exact (Boxed.new w2 22 (.slice a2 (e - a) c2)).alloc _
    · exact (hr2.below ((bel1 w2 _).alloc (by simp) _)).mono (by simp; omega)
  · rw [show liB L.length a e = false from decide_eq_false hl] at HL
    rw [show rwS L a e = [] from if_neg hl]
    go_enter Try.func15, Try.ntmps15
    go_wp2_with (first
      | (go_at_call 18; refine (HL.out _).mono ?_; rintro en w1 ⟨rfl, hw1⟩; subst hw1)
      | (go_at_call 19; refine (HT.out 0 _ _ _ _).mono ?_; rintro en wq ⟨rfl, hq⟩; subst wq))
    go_ret
    refine ⟨_, rfl, ⟨_, _, none, 0, rfl, Nat.le_refl _, ?_, ?_, fun h => absurd h (by simp), by simp, by simp⟩, (bel1 _ _).alloc (by simp) _⟩
    · simpa using Boxed.new (w1.alloc (.cells #[.slice none 0 0] 22)) 23 (.int .u32 (a : Int))
    · exact (Boxed.new w1 22 (.slice none 0 0)).alloc _
end Go.Proofs.Ytdpghhkimnifjaa
