import Derived.Test.YtonmoidalkcmoaaCZPt
namespace Go.Proofs.Ytonmoidalkcmoaa
set_option maxHeartbeats 4000000
open Go.RowKit Go.WideShapes
set_option maxRecDepth 100000
/-- the constant with which instructions begin: its length and value -/
def cnV (L : List (Nat × Nat)) : Nat × Nat :=
  if (lnP L 0 (min L.length 16)).2.2.1 = 2 then ((lnP L 0 (min L.length 16)).2.1, (lnP L 0 (min L.length 16)).2.2.2)
  else if (lnP L 0 (min L.length 16)).2.2.1 = 1 ∧ (L.getD 0 (0, 0)).1 = 8 then (1, (L.getD 0 (0, 0)).2) else (0, 0)
theorem lgV_le (M : List (Nat × Nat)) (hM : ∀ p ∈ M, p.1 < 256) (h0 : 0 < M.length) : (lgV M).1 ≤ M.length := by
  have hb := lgF_bst M [] 0 (1, 1, 0) hM (by decide) (fun _ => rfl)
  unfold lgV
  rcases hb with ⟨n, k, v, n1, n2, n3, n4, n5, n6⟩ | ⟨a1, a2⟩
  · rw [n5]; simpa using n2
  · rw [a2]; exact h0
theorem lnP_le {L : List (Nat × Nat)} (hwf : Wfc L) (a e : Nat) : (lnP L a e).2.1 ≤ e - a ∧ (a < e ∧ e ≤ L.length ∨ lnP L a e = (0, 0, 0, 0)) := by
  unfold lnP
  split
  · rename_i h
    refine ⟨?_, .inl ⟨h.1, h.2.1⟩⟩
    have hl : ((L.drop a).take (e - a)).length = e - a := by simp; omega
    have := lgV_le ((L.drop a).take (e - a)) (fun p hp => (wfc_sub hwf a (e - a) p hp).1) (by omega)
    rw [hl] at this
    exact this
  · exact ⟨Nat.zero_le _, .inr rfl⟩
theorem cnV_le {L : List (Nat × Nat)} (hwf : Wfc L) : (cnV L).1 ≤ L.length := by
  have h := lnP_le hwf 0 (min L.length 16)
  unfold cnV
  split
  · have := h.1; simp only; omega
  · split
    · rename_i h2
      rcases h.2 with h3 | h3
      · simp only; omega
      · rw [h3] at h2; simp at h2
    · exact Nat.zero_le _
theorem constantOf_lt (ao : Option Addr) (cap : Nat) (L : List (Nat × Nat)) (w : World) (hcap : L.length ≤ cap) (hlen : L.length < 4294967296) (hwf : Wfc L) (hr : CRd w ao L w.heap.size) (hs : L.length ≤ 16) :
    Calls Try.prog 58 #[.slice ao L.length cap] w fun e w' => e = .returned (.tuple #[.int .u32 ((cnV L).1 : Int), .int .u32 ((cnV L).2 : Int)]) ∧ Below w.heap.size w w' := by
  have hmin : min L.length 16 = L.length := by omega
  have hle := lnP_le hwf 0 (L.length)
  have F := dhid (Longest_any ao cap 0 (L.length) L w (by omega) hcap (by decide) (by omega) hwf hr)
  unfold cnV
  rw [hmin]
  clear hmin
  generalize lnE L 0 (L.length) = er at F
  have s2 : ¬ (16 : Int) < (L.length : Int) := by omega
  have s4 : (L.length : Int) ≤ 16 := by omega
  generalize lnP L 0 (L.length) = q at *
  obtain ⟨qa, ql, qk, qv⟩ := q
  simp only [pcA] at F ⊢
  rw [show ((0 : Nat) : Int) = 0 from rfl] at F
  have hbd : Below w.heap.size w w := Below.refl _ _
  by_cases h2 : qk = 2
  · subst h2
    rw [if_pos rfl]
    clear hr hle hwf
    go_enter Try.func58, Try.ntmps58
    go_wp2_with (go_at_call 63; with_reducible refine F.out.mono ?_; rintro e w1 ⟨rfl, hb1⟩)
    go_region
    all_goals go_wp2
    all_goals go_ret2
    all_goals exact ⟨rfl, (hb1.alloc hb1.size _).drew⟩
  · rw [if_neg h2]
    have d2 : ((qk : Int) == 2) = false := by rw [beq_eq_false_iff_ne]; omega
    by_cases h1 : qk = 1
    · subst h1
      have hL0 : 0 < L.length := by
        rcases hle.2 with h | h
        · omega
        · simp at h
      obtain ⟨b, off, rfl, hbl, hc⟩ := hr hL0
      have x0 := (hc 0 hL0).1
      have x1 := (hc 0 hL0).2
      simp only [Nat.zero_mul, Nat.add_zero] at x0 x1
      generalize L.getD 0 (0, 0) = p at *
      obtain ⟨op, arg⟩ := p
      simp only [true_and] at x0 x1 ⊢
      have i1 : (0 : Int) < (L.length : Int) := by omega
      have HLV := dhid (fun V (hV : Below w.heap.size w V) => And.intro ((hV.cell (p := ⟨b, off, none⟩) hbl).trans x0) ((hV.cell (p := ⟨b, off + 1, none⟩) hbl).trans x1))
      clear hc hle hwf hr
      by_cases h8 : op = 8
      · subst h8
        rw [if_pos rfl]
        go_enter Try.func58, Try.ntmps58
        go_wp2_with (go_at_call 63; with_reducible refine F.out.mono ?_; rintro e w1 ⟨rfl, hb1⟩
                     have y0 := fun o => (HLV.out (w1.alloc o) (hb1.alloc hb1.size o)).1
                     have y1 := fun o => (HLV.out (w1.alloc o) (hb1.alloc hb1.size o)).2
                     have z0 := (HLV.out w1 hb1).1
                     have z1 := (HLV.out w1 hb1).2
                     have hz := hb1.size
                     have hbl1 : b < w1.heap.size := by omega)
        go_region
        all_goals go_wp2
        all_goals go_ret2
        all_goals exact ⟨rfl, (hb1.alloc hb1.size _).drew⟩
      · rw [if_neg h8]
        have d8 : ((op : Int) == 8) = false := by rw [beq_eq_false_iff_ne]; omega
        go_enter Try.func58, Try.ntmps58
        go_wp2_with (go_at_call 63; with_reducible refine F.out.mono ?_; rintro e w1 ⟨rfl, hb1⟩
                     have y0 := fun o => (HLV.out (w1.alloc o) (hb1.alloc hb1.size o)).1
                     have z0 := (HLV.out w1 hb1).1
                     have hz := hb1.size
                     have hbl1 : b < w1.heap.size := by omega)
        go_ret2
        exact ⟨rfl, hb1.alloc hb1.size _⟩
    · rw [if_neg (fun h => h1 h.1)]
      have d1 : ((qk : Int) == 1) = false := by rw [beq_eq_false_iff_ne]; omega
      clear hr hle hwf
      go_enter Try.func58, Try.ntmps58
      go_wp2_with (go_at_call 63; with_reducible refine F.out.mono ?_; rintro e w1 ⟨rfl, hb1⟩)
      go_ret2
      exact ⟨rfl, hb1.alloc hb1.size _⟩
theorem constantOf_ge (ao : Option Addr) (cap : Nat) (L : List (Nat × Nat)) (w : World) (hcap : L.length ≤ cap) (hlen : L.length < 4294967296) (hwf : Wfc L) (hr : CRd w ao L w.heap.size) (hs : 16 < L.length) :
    Calls Try.prog 58 #[.slice ao L.length cap] w fun e w' => e = .returned (.tuple #[.int .u32 ((cnV L).1 : Int), .int .u32 ((cnV L).2 : Int)]) ∧ Below w.heap.size w w' := by
  have hmin : min L.length 16 = 16 := by omega
  have hle := lnP_le hwf 0 (16)
  have F := dhid (Longest_any ao cap 0 (16) L w (by omega) hcap (by decide) (by omega) hwf hr)
  unfold cnV
  rw [hmin]
  clear hmin
  generalize lnE L 0 (16) = er at F
  have s1 : ¬ (L.length : Int) < 16 := by omega
  have s2 : ¬ (L.length : Int) ≤ 16 := by omega
  have s4 : (16 : Int) < (L.length : Int) := by omega
  generalize lnP L 0 (16) = q at *
  obtain ⟨qa, ql, qk, qv⟩ := q
  simp only [pcA] at F ⊢
  rw [show ((0 : Nat) : Int) = 0 from rfl, show ((16 : Nat) : Int) = 16 from rfl] at F
  have hbd : Below w.heap.size w w := Below.refl _ _
  by_cases h2 : qk = 2
  · subst h2
    rw [if_pos rfl]
    clear hr hle hwf
    go_enter Try.func58, Try.ntmps58
    go_wp2_with (go_at_call 63; with_reducible refine F.out.mono ?_; rintro e w1 ⟨rfl, hb1⟩)
    go_region
    all_goals go_wp2
    all_goals go_ret2
    all_goals exact ⟨rfl, (hb1.alloc hb1.size _).drew⟩
  · rw [if_neg h2]
    have d2 : ((qk : Int) == 2) = false := by rw [beq_eq_false_iff_ne]; omega
    by_cases h1 : qk = 1
    · subst h1
      have hL0 : 0 < L.length := by
        rcases hle.2 with h | h
        · omega
        · simp at h
      obtain ⟨b, off, rfl, hbl, hc⟩ := hr hL0
      have x0 := (hc 0 hL0).1
      have x1 := (hc 0 hL0).2
      simp only [Nat.zero_mul, Nat.add_zero] at x0 x1
      generalize L.getD 0 (0, 0) = p at *
      obtain ⟨op, arg⟩ := p
      simp only [true_and] at x0 x1 ⊢
      have i1 : (0 : Int) < (L.length : Int) := by omega
      have HLV := dhid (fun V (hV : Below w.heap.size w V) => And.intro ((hV.cell (p := ⟨b, off, none⟩) hbl).trans x0) ((hV.cell (p := ⟨b, off + 1, none⟩) hbl).trans x1))
      clear hc hle hwf hr
      by_cases h8 : op = 8
      · subst h8
        rw [if_pos rfl]
        go_enter Try.func58, Try.ntmps58
        go_wp2_with (go_at_call 63; with_reducible refine F.out.mono ?_; rintro e w1 ⟨rfl, hb1⟩
                     have y0 := fun o => (HLV.out (w1.alloc o) (hb1.alloc hb1.size o)).1
                     have y1 := fun o => (HLV.out (w1.alloc o) (hb1.alloc hb1.size o)).2
                     have z0 := (HLV.out w1 hb1).1
                     have z1 := (HLV.out w1 hb1).2
                     have hz := hb1.size
                     have hbl1 : b < w1.heap.size := by omega)
        go_region
        all_goals go_wp2
        all_goals go_ret2
        all_goals exact ⟨rfl, (hb1.alloc hb1.size _).drew⟩
      · rw [if_neg h8]
        have d8 : ((op : Int) == 8) = false := by rw [beq_eq_false_iff_ne]; omega
        go_enter Try.func58, Try.ntmps58
        go_wp2_with (go_at_call 63; with_reducible refine F.out.mono ?_; rintro e w1 ⟨rfl, hb1⟩
                     have y0 := fun o => (HLV.out (w1.alloc o) (hb1.alloc hb1.size o)).1
                     have z0 := (HLV.out w1 hb1).1
                     have hz := hb1.size
                     have hbl1 : b < w1.heap.size := by omega)
        go_ret2
        exact ⟨rfl, hb1.alloc hb1.size _⟩
    · rw [if_neg (fun h => h1 h.1)]
      have d1 : ((qk : Int) == 1) = false := by rw [beq_eq_false_iff_ne]; omega
      clear hr hle hwf
      go_enter Try.func58, Try.ntmps58
      go_wp2_with (go_at_call 63; with_reducible refine F.out.mono ?_; rintro e w1 ⟨rfl, hb1⟩)
      go_ret2
      exact ⟨rfl, hb1.alloc hb1.size _⟩
theorem constantOf_any (ao : Option Addr) (cap : Nat) (L : List (Nat × Nat)) (w : World) (hcap : L.length ≤ cap) (hlen : L.length < 4294967296) (hwf : Wfc L) (hr : CRd w ao L w.heap.size) :
    Calls Try.prog 58 #[.slice ao L.length cap] w fun e w' => e = .returned (.tuple #[.int .u32 ((cnV L).1 : Int), .int .u32 ((cnV L).2 : Int)]) ∧ Below w.heap.size w w' := by
  by_cases hs : L.length ≤ 16
  · exact constantOf_lt ao cap L w hcap hlen hwf hr hs
  · exact constantOf_ge ao cap L w hcap hlen hwf hr (by omega)
end Go.Proofs.Ytonmoidalkcmoaa
