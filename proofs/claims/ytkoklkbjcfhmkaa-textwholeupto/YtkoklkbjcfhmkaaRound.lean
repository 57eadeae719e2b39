import Derived.Sort.QuietIn
namespace Go.Proofs.Ytkoklkbjcfhmkaa

/-- no operation defers -/
def noDefer (L : List Oper) : Bool := L.all fun o => match o.op with | .defer _ => false | _ => true
theorem noDefer_spec {L : List Oper} (h : noDefer L = true) {o : Oper} (ho : o ∈ L) : ∀ c, o.op ≠ .defer c := by
  intro c hc
  have := List.all_eq_true.1 h o ho
  rw [hc] at this
  cases this

section
variable {F : Fence} {n : Nat} {P : Program} {Q : Exit → Act → World → Prop} {L : List Oper}
theorem wpIn_round {o : Oper} {a : Act} {w : World} {K K' : Act → World → Prop} (l : Nat) (hro : F.round = none) (ho : ∀ c, o.op ≠ .defer c) (hK : ∀ a w, K a w → K' a w) (h : o.wpIn F n P a w K Q) : o.wpIn (F.inRound l) n P a w K' Q := by
  have h2 := Oper.wpIn_mono hK h
  refine ⟨h2.1, ?_⟩
  have e : o.semAt (F.inRound l).round a.eval = o.semAt F.round a.eval := by
    rw [hro, Oper.semAt_none, Fence.inRound_round, Oper.semAt_some l _ o ho]
  rw [e]
  exact h2.2
theorem wpAny_round (l : Nat) (hro : F.round = none) (hnd : noDefer L = true) : ∀ (fuel : Nat) (listed : Array Bool) (a : Act) (w : World), wpAnyIn F n P .any L.toArray Q fuel listed a w → wpAnyIn (F.inRound l) n P .any L.toArray Q fuel listed a w
  | 0, _, _, _, h => h
  | fuel + 1, listed, a, w, h => by
    refine ⟨h.1, fun i hi => ?_⟩
    have hh := h.2 i hi
    unfold wpOpIn at hh ⊢
    cases ho : L.toArray[i]? with
    | none =>
      simp only [ho] at hh ⊢
      exact wpAny_round l hro hnd fuel _ _ _ hh
    | some o =>
      simp only [ho] at hh ⊢
      have hm : o ∈ L := by
        have := Array.mem_of_getElem? ho
        simpa using this
      split
      · rename_i hw
        simp only [hw, if_true] at hh
        exact wpIn_round l hro (noDefer_spec hnd hm) (fun a w => wpAny_round l hro hnd fuel _ a w) hh
      · rename_i hw
        simp only [hw] at hh
        exact ⟨hh.1, wpAny_round l hro hnd fuel _ _ _ hh.2⟩

/-- one walk in the order of the text, in a round of a loop over a function -/
theorem region_quiet_round {id : Nat} {a : Act} {w : World} {l : Nat} (hro : F.round = none) (hm : P.follows .mixedOrders = true) (hB : Region.lexB .any L.toArray = true) (hnd : noDefer L = true)
    (h : wpQuietIn F n P L.toArray (fun w' => ∃ n, w' = w.drewN n) (fun a' => ∀ w', (∃ n, w' = w.drewN n) → Q .normal a' w') L a) : (Code.region id L.toArray true).wpIn (F.inRound l) n P Q a w := by
  simp only [Region.lexB, Bool.and_eq_true] at hB
  refine wpIn_region_any hm (wpAny_round l hro hnd _ _ _ _ (wpAnyIn_of_quiet (C := fun w' => ∃ n, w' = w.drewN n) (Q := fun a' => ∀ w', (∃ n, w' = w.drewN n) → Q .normal a' w') hro (fun _ w' hw' h => h w' hw') _ _ _ _ ⟨1, rfl⟩ ?_))
  have := wpAnyQIn_lex (F := F) (n := n) (C := fun w' => ∃ n, w' = w.drewN n) (md := .any) hB.1 L 0 (Array.replicate L.toArray.size false) a (by simp) (by simpa using hB.2) h
  simpa using this
end
end Go.Proofs.Ytkoklkbjcfhmkaa
