import Derived.Test.YtdpghhkimnifjaaCZAw
namespace Go.Proofs.Ytdpghhkimnifjaa
open Go.RowKit Go.WideShapes
set_option maxRecDepth 100000

/-- code that is read is put behind a row -/
theorem append_crdB {w : World} {ops : Array Oper} {rest : List Oper} {o : Oper} {a : Act} {Q : Exit → Act → World → Prop} (hgd : o.guard = none) (s x : Operand)
    (ho : o.op = .call { callee := .builtin .append, args := #[s, x], argTypes := #[22, 22] })
    (base : Nat) (v : Value) (A : List (Nat × Nat)) (hs : a.eval s = v) (hown : w.ownsRow base 36 2 v A.length (cv A))
    (ao : Option Addr) (cap : Nat) (L : List (Nat × Nat)) (hx : a.eval x = .slice ao L.length cap) (hn : ao = none → cap = 0) (hr : CRd w ao L w.heap.size)
    (hb : (A.length + L.length) * 8 ≤ 140737488355328) (hbase : base ≤ w.heap.size)
    (h : ∀ v' w', w'.ownsRow base 36 2 v' (A ++ L).length (cv (A ++ L)) → w.grownBy w' v.ownBlock → wpList Try.prog ops Q rest (a.put o.dst v') w') : wpList Try.prog ops Q (o :: rest) a w := by
  obtain ⟨i, hi, hz0, hz1, hz2⟩ := infoDI
  cases ao with
  | none =>
    have hL : L = [] := by
      cases L with
      | nil => rfl
      | cons p L => obtain ⟨b, off, e, _⟩ := hr (by simp); cases e
    subst hL
    rw [hn rfl] at hx
    refine wpList_append_own_none hgd s x 22 ho base 36 i 2 Try.underlying22 hi v A.length (cv A) hs hown hx ?_
    exact h v w (by simpa using hown) (World.grownBy.refl _ _)
  | some ad =>
    refine wpList_append_own w hgd s x 22 ho base 36 i (.agg #[.int .u8 0, .int .u32 0]) 2 8 Try.underlying22 hi hz0 hz1 hz2 rfl (by decide) v A.length (cv A) hs hown ad L.length cap (cv L) hx (cv_len L) ?_ (cvD_one L) (by unfold maxLen; omega) (by omega) hbase (fun v' w' h1 h2 _ => h v' w' (by rw [List.length_append, cv_append]; exact h1) h2)
    intro j u hj
    have hjl : j < L.length * 2 := by
      have := (List.getElem?_eq_some_iff.1 hj).1
      rwa [cv_len] at this
    obtain ⟨b, off, e, hlt, hc⟩ := hr (by omega)
    cases e
    have hd := hc (j / 2) (by omega)
    have hg := cvD_get L (j / 2) (by omega)
    rw [show w.cell? ((⟨b, off, none⟩ : Addr).add j) = w.cell? ⟨b, off + j, none⟩ by rw [Go.WideShapes.add_plain]]
    rcases Nat.mod_two_eq_zero_or_one j with hm | hm
    · rw [show (cv L)[j]? = (cv L)[j / 2 * 2]? from congrArg (fun k => (cv L)[k]?) (by omega), hg.1] at hj
      cases hj
      rw [show off + j = off + j / 2 * 2 by omega]
      exact hd.1
    · rw [show (cv L)[j]? = (cv L)[j / 2 * 2 + 1]? from congrArg (fun k => (cv L)[k]?) (by omega), hg.2] at hj
      cases hj
      rw [show off + j = off + j / 2 * 2 + 1 by omega]
      exact hd.2
theorem nil_eqZ (a : Option Addr) (n c : Nat) (w : World) : (binOp .eql 22 (.slice a n c) (.slice none 0 0)).run Try.prog w = .ok (.bool a.isNone) w := by
  have e : binOp .eql 22 (.slice a n c) (.slice none 0 0) = (do pure (.bool (← Op.equal 22 (.slice a n c) (.slice none 0 0)))) := rfl
  rw [e, Sem.run_bind, run_equal_slice_nil w _ _ a n c Try.underlying22]
  rfl
set_option maxHeartbeats 1000000 in
theorem zclone_any (b off cap : Nat) (L : List (Nat × Nat)) (w : World) (hn : L.length * 8 ≤ 140737488355328) (hr : CRd w (some ⟨b, off, none⟩) L w.heap.size) :
    Calls Try.prog 28 #[.slice (some ⟨b, off, none⟩) L.length cap] w fun e w' => ∃ a c, e = .returned (.slice a L.length c) ∧ L.length ≤ c ∧ CRd w' a L w'.heap.size ∧ Below w.heap.size w w' := by
  have hq := nil_eqZ (some ⟨b, off, none⟩) L.length cap w
  simp only [Option.isNone_some] at hq
  have own0 := World.ownsRow_lit (size := 2) (base := w.heap.size) (e := 36) w #[] 0 (Nat.le_refl _) (by decide) rfl
  have hb0 : Below w.heap.size w (w.alloc (.cells #[] 36)) := (Below.refl w.heap.size w).alloc (Nat.le_refl _) _
  have HR := dhid ((hr.below hb0).mono hb0.size)
  clear hr
  go_enter Try.func28, Try.ntmps28
  go_wp2_with (at_builtin; refine append_crdB rfl _ _ rfl w.heap.size _ [] rfl own0 (some ⟨b, off, none⟩) cap L rfl (fun e => by cases e) HR.out (by simp; omega) hb0.size ?_)
  intro v' w1 own1 hg1
  obtain ⟨a, c, rfl, hc, hcr⟩ := own_crdD own1
  have R2 : Below w.heap.size w w1 := hb0.grown hg1 (by simp) (fun k e => by simp [Value.ownBlock] at e; omega)
  have HC := dhid hcr
  clear own0 hb0 HR own1 hg1 hcr
  go_wp2
  go_ret
  exact ⟨_, _, rfl, hc, HC.out, R2⟩
end Go.Proofs.Ytdpghhkimnifjaa
