import Derived.Test.YtiohmcfabjmcoaaSJoin
namespace Go.Proofs.Ytiohmcfabjmcoaa
open Go.RowKit

def jw (p : Int × Bool × Nat × Int) : Nat := if p.1 = 1 then 2143289344 else if p.1 = 2 then wrd p.2.1 2139095040 else sx p.2.1 (fx p.2.2.1 p.2.2.2)
theorem jw_lt (p : Int × Bool × Nat × Int) : jw p < 4294967296 := by
  unfold jw
  split
  · decide
  · split
    · exact wrd_lt _ _ (by decide)
    · exact sx_lt _ _ (fx_lt _ _)
theorem joined_any (p : Int × Bool × Nat × Int) (w : World) :
    Calls Try.prog 23 #[pv p] w fun e w' => e = .returned (.int .u32 (jw p)) ∧ ∃ o k, w' = (w.alloc o).drewN k := by
  obtain ⟨s, m, n, q⟩ := p
  unfold jw
  by_cases h1 : s = 1
  · subst h1; rw [if_pos rfl]; exact joined1 m n q w
  · rw [if_neg h1]
    by_cases h2 : s = 2
    · subst h2; rw [if_pos rfl]; exact joined2 m n q w
    · rw [if_neg h2]; exact joinedg s m n q w (by simp; omega) (by simp; omega)
theorem bdn {a w : World} {n : Nat} (h : Below a.heap.size a w) : Below a.heap.size a (w.drewN n) := h.trans ⟨rfl, rfl, rfl, Nat.le_refl _, fun _ _ => rfl⟩
set_option maxRecDepth 100000 in
set_option maxHeartbeats 2000000 in
theorem join_any (p : Int × Bool × Nat × Int) (w : World) :
    Calls Try.prog 9 #[pv p] w fun e w' => e = .returned (if prt (jw p) = p then .tuple #[.int .u32 (jw p), .int .i64 0] else .tuple #[.int .u32 0, .int .i64 30]) ∧ Below w.heap.size w w' := by
  have j := fun w => joined_any p w
  have hX := jw_lt p
  have sp := fun w => split_any (jw p) w hX
  generalize jw p = X at *
  generalize prt X = P at *
  obtain ⟨s, m, n, q⟩ := p
  obtain ⟨s', m', n', q'⟩ := P
  simp only [pv] at j sp ⊢
  by_cases hE : (s', m', n', q') = (s, m, n, q)
  · rw [if_pos hE]
    simp only [Prod.mk.injEq] at hE
    obtain ⟨rfl, rfl, rfl, rfl⟩ := hE
    have gb : eqb s' m' n' q' s' m' n' q' = true := by simp [eqb]
    go_enter Try.func9, Try.ntmps9
    go_wp2_with (first
      | (go_at_call 23; refine (j _).mono ?_; rintro e wq ⟨rfl, o, k, hq⟩; subst wq))
    go_region_with (first
      | (go_at_call 7; refine (sp _).mono ?_; rintro e wq ⟨rfl, hq⟩; have c0 : wq.cell? ⟨w.heap.size, 0, none⟩ = some (.int .u8 s') := (hq.cell (p := ⟨w.heap.size, 0, none⟩) (by simp; omega)).trans (by simp); have c1 : wq.cell? ⟨w.heap.size, 1, none⟩ = some (.bool m') := (hq.cell (p := ⟨w.heap.size, 1, none⟩) (by simp; omega)).trans (by simp); have c2 : wq.cell? ⟨w.heap.size, 2, none⟩ = some (.int .u32 (n' : Int)) := (hq.cell (p := ⟨w.heap.size, 2, none⟩) (by simp; omega)).trans (by simp); have c3 : wq.cell? ⟨w.heap.size, 3, none⟩ = some (.int .i64 q') := (hq.cell (p := ⟨w.heap.size, 3, none⟩) (by simp; omega)).trans (by simp)))
    all_goals go_wp2
    all_goals go_ret2
    all_goals exact ⟨rfl, bt (by repeat (first | exact Below.refl _ _ | refine bel ?_ | refine Below.drew ?_ | refine bdn ?_)) hq⟩
  · rw [if_neg hE]
    by_cases h1 : s' = s
    · have h1 := h1.symm
      subst h1
      by_cases h2 : m' = m
      · have h2 := h2.symm
        subst h2
        by_cases h3 : n' = n
        · have h3 := h3.symm
          subst h3
          have h4 : (q' == q) = false := by
            simp; intro h; apply hE; rw [h]
          clear hE
          go_enter Try.func9, Try.ntmps9
          go_wp2_with (first
            | (go_at_call 23; refine (j _).mono ?_; rintro e wq ⟨rfl, o, k, hq⟩; subst wq))
          go_region_with (first
            | (go_at_call 7; refine (sp _).mono ?_; rintro e wq ⟨rfl, hq⟩; have c0 : wq.cell? ⟨w.heap.size, 0, none⟩ = some (.int .u8 s) := (hq.cell (p := ⟨w.heap.size, 0, none⟩) (by simp; omega)).trans (by simp); have c1 : wq.cell? ⟨w.heap.size, 1, none⟩ = some (.bool m) := (hq.cell (p := ⟨w.heap.size, 1, none⟩) (by simp; omega)).trans (by simp); have c2 : wq.cell? ⟨w.heap.size, 2, none⟩ = some (.int .u32 (n : Int)) := (hq.cell (p := ⟨w.heap.size, 2, none⟩) (by simp; omega)).trans (by simp); have c3 : wq.cell? ⟨w.heap.size, 3, none⟩ = some (.int .i64 q) := (hq.cell (p := ⟨w.heap.size, 3, none⟩) (by simp; omega)).trans (by simp)))
          all_goals go_wp2
          all_goals go_ret2
          all_goals exact ⟨rfl, bt (by repeat (first | exact Below.refl _ _ | refine bel ?_ | refine Below.drew ?_ | refine bdn ?_)) hq⟩
        · have h4 : ((n' : Int) == (n : Int)) = false := by simp; omega
          clear hE h3
          go_enter Try.func9, Try.ntmps9
          go_wp2_with (first
            | (go_at_call 23; refine (j _).mono ?_; rintro e wq ⟨rfl, o, k, hq⟩; subst wq))
          go_region_with (first
            | (go_at_call 7; refine (sp _).mono ?_; rintro e wq ⟨rfl, hq⟩; have c0 : wq.cell? ⟨w.heap.size, 0, none⟩ = some (.int .u8 s) := (hq.cell (p := ⟨w.heap.size, 0, none⟩) (by simp; omega)).trans (by simp); have c1 : wq.cell? ⟨w.heap.size, 1, none⟩ = some (.bool m) := (hq.cell (p := ⟨w.heap.size, 1, none⟩) (by simp; omega)).trans (by simp); have c2 : wq.cell? ⟨w.heap.size, 2, none⟩ = some (.int .u32 (n : Int)) := (hq.cell (p := ⟨w.heap.size, 2, none⟩) (by simp; omega)).trans (by simp); have c3 : wq.cell? ⟨w.heap.size, 3, none⟩ = some (.int .i64 q) := (hq.cell (p := ⟨w.heap.size, 3, none⟩) (by simp; omega)).trans (by simp)))
          all_goals go_wp2
          all_goals go_ret2
          all_goals exact ⟨rfl, bt (by repeat (first | exact Below.refl _ _ | refine bel ?_ | refine Below.drew ?_ | refine bdn ?_)) hq⟩
      · have h4 : (m' == m) = false := by simp; exact h2
        clear hE h2
        go_enter Try.func9, Try.ntmps9
        go_wp2_with (first
          | (go_at_call 23; refine (j _).mono ?_; rintro e wq ⟨rfl, o, k, hq⟩; subst wq))
        go_region_with (first
          | (go_at_call 7; refine (sp _).mono ?_; rintro e wq ⟨rfl, hq⟩; have c0 : wq.cell? ⟨w.heap.size, 0, none⟩ = some (.int .u8 s) := (hq.cell (p := ⟨w.heap.size, 0, none⟩) (by simp; omega)).trans (by simp); have c1 : wq.cell? ⟨w.heap.size, 1, none⟩ = some (.bool m) := (hq.cell (p := ⟨w.heap.size, 1, none⟩) (by simp; omega)).trans (by simp); have c2 : wq.cell? ⟨w.heap.size, 2, none⟩ = some (.int .u32 (n : Int)) := (hq.cell (p := ⟨w.heap.size, 2, none⟩) (by simp; omega)).trans (by simp); have c3 : wq.cell? ⟨w.heap.size, 3, none⟩ = some (.int .i64 q) := (hq.cell (p := ⟨w.heap.size, 3, none⟩) (by simp; omega)).trans (by simp)))
        all_goals go_wp2
        all_goals go_ret2
        all_goals exact ⟨rfl, bt (by repeat (first | exact Below.refl _ _ | refine bel ?_ | refine Below.drew ?_ | refine bdn ?_)) hq⟩
    · have h4 : (s' == s) = false := by simp; exact h1
      clear hE h1
      go_enter Try.func9, Try.ntmps9
      go_wp2_with (first
        | (go_at_call 23; refine (j _).mono ?_; rintro e wq ⟨rfl, o, k, hq⟩; subst wq))
      go_region_with (first
        | (go_at_call 7; refine (sp _).mono ?_; rintro e wq ⟨rfl, hq⟩; have c0 : wq.cell? ⟨w.heap.size, 0, none⟩ = some (.int .u8 s) := (hq.cell (p := ⟨w.heap.size, 0, none⟩) (by simp; omega)).trans (by simp); have c1 : wq.cell? ⟨w.heap.size, 1, none⟩ = some (.bool m) := (hq.cell (p := ⟨w.heap.size, 1, none⟩) (by simp; omega)).trans (by simp); have c2 : wq.cell? ⟨w.heap.size, 2, none⟩ = some (.int .u32 (n : Int)) := (hq.cell (p := ⟨w.heap.size, 2, none⟩) (by simp; omega)).trans (by simp); have c3 : wq.cell? ⟨w.heap.size, 3, none⟩ = some (.int .i64 q) := (hq.cell (p := ⟨w.heap.size, 3, none⟩) (by simp; omega)).trans (by simp)))
      all_goals go_wp2
      all_goals go_ret2
      all_goals exact ⟨rfl, bt (by repeat (first | exact Below.refl _ _ | refine bel ?_ | refine Below.drew ?_ | refine bdn ?_)) hq⟩
end Go.Proofs.Ytiohmcfabjmcoaa
