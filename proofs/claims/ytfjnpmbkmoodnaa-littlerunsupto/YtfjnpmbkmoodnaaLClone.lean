import Derived.Test.YtfjnpmbkmoodnaaLMark
import Derived.WideShapes
import Derived.Laws.Cover3
namespace Go.Proofs.Ytfjnpmbkmoodnaa
open Go.RowKit Go.WideShapes

theorem nil_eq (a : Option Addr) (n c : Nat) (w : World) : (binOp .eql 26 (.slice a n c) (.slice none 0 0)).run Try.prog w = .ok (.bool a.isNone) w := by
  have e : binOp .eql 26 (.slice a n c) (.slice none 0 0) = (do pure (.bool (← Op.equal 26 (.slice a n c) (.slice none 0 0)))) := rfl
  rw [e, Sem.run_bind, run_equal_slice_nil w _ _ a n c Try.underlying26]
  rfl

set_option maxRecDepth 100000 in
set_option maxHeartbeats 1000000 in
theorem clone_any (ao : Option Addr) (cap : Nat) (zs : List Int) (w : World) (hn : zs.length ≤ 140737488355328) (hnil : ao = none → zs = []) (hr : Reads w ao zs w.heap.size) :
    Calls Try.prog 22 #[.slice ao zs.length cap] w fun e w' => ∃ v, e = .returned v ∧ w'.ownsRow w.heap.size 5 1 v zs.length (bv zs) ∧ Below w.heap.size w w' := by
  obtain ⟨i0, hi, hz0, hz1, hz2⟩ := info_parts Try.info5
  have hq := nil_eq ao zs.length cap w
  cases ao with
  | none =>
    obtain rfl := hnil rfl
    simp only [List.length_nil] at hq
    go_enter Try.func22, Try.ntmps22
    go_wp2
    go_ret
    exact ⟨_, rfl, World.ownsRow_nil _ _ _ _, Below.refl _ _⟩
  | some ad =>
    clear hnil
    have own0 := World.ownsRow_lit (size := 1) (base := w.heap.size) (e := 5) w #[] 0 (Nat.le_refl _) (by decide) rfl
    have hb0 : Below w.heap.size w (w.alloc (.cells #[] 5)) := (Below.refl w.heap.size w).alloc (Nat.le_refl _) _
    have hr0 := hr.below hb0
    have hcl : ∀ j u, (bv zs)[j]? = some u → (w.alloc (.cells #[] 5)).cell? (ad.add j) = some u := by
      intro j u hj
      have hjl : j < zs.length := by
        have := (List.getElem?_eq_some_iff.1 hj).1
        simpa [bv] using this
      obtain ⟨b, off, e, hlt, hc⟩ := hr0 (by omega)
      simp only [Option.some.injEq] at e
      subst e
      rw [add_plain, hc j hjl]
      simp [bv, hjl] at hj
      simp [hjl, hj]
    have HC : Hid (∀ j u, (bv zs)[j]? = some u → (w.alloc (.cells #[] 5)).cell? (ad.add j) = some u) := hcl
    clear hcl hr0 hr
    go_enter Try.func22, Try.ntmps22
    go_wp2_with (at_builtin; refine wpList_append_own _ rfl _ _ 26 rfl w.heap.size 5 i0 (.int .u8 0) 1 1 Try.underlying26 hi hz0 hz1 hz2 rfl (by decide) _ 0 [] rfl own0 ad zs.length cap (bv zs) rfl ?d0 HC.out ?d2 ?d3 ?d4 ?d5 ?_)
    case d0 => simp [bv]
    case d2 => intro u hu; simp [bv] at hu; obtain ⟨z, _, rfl⟩ := hu; rfl
    case d3 => unfold maxLen; omega
    intro v' w1 hown' hgrow _
    have R2 : Below w.heap.size w w1 := hb0.grown hgrow (by simp) (fun k e => by simp [Value.ownBlock] at e; omega)
    clear hgrow own0 hb0 HC
    go_wp2
    go_ret
    exact ⟨_, rfl, hown', R2⟩
end Go.Proofs.Ytfjnpmbkmoodnaa
