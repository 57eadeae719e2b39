import Derived.Test.YtbaigjckimpkmaaMSea
import Derived.Deep.AppendLies
namespace Go.Proofs.Ytbaigjckimpkmaa
open Go.RowKit Go.WideShapes Go.Sort
set_option maxRecDepth 100000

theorem nil_eqS (a : Option Addr) (n c : Nat) (w : World) : (binOp .eql 30 (.slice a n c) (.slice none 0 0)).run Try.prog w = .ok (.bool a.isNone) w := by
  have e : binOp .eql 30 (.slice a n c) (.slice none 0 0) = (do pure (.bool (← Op.equal 30 (.slice a n c) (.slice none 0 0)))) := rfl
  rw [e, Sem.run_bind, run_equal_slice_nil w _ _ a n c Try.underlying30]
  rfl
theorem own_capS {w : World} {B e sz g n c : Nat} {xs : List Value} (h : w.ownsRow B e sz (.slice (some ⟨g, 0, none⟩) n c) n xs) : n ≤ c := by
  rcases h.2 with ⟨e1, _⟩ | ⟨g', cap', cur, e1, _, _, hc, _⟩
  · simp at e1
  · simp only [Value.slice.injEq] at e1
    rw [e1.2.2]; exact hc
set_option maxHeartbeats 1000000 in
theorem sclone_any (ad : Addr) (cap : Nat) (L : List (Nat × Nat)) (w : World) (hn : L.length ≤ 1048576) (hpos : 0 < L.length) (hr : SRd w (some ad) L w.heap.size) :
    Calls Try.prog 57 #[.slice (some ad) L.length cap] w fun e w' => ∃ g c, e = .returned (.slice (some ⟨g, 0, none⟩) L.length c) ∧ L.length ≤ c ∧ w'.ownsRow w.heap.size 27 2 (.slice (some ⟨g, 0, none⟩) L.length c) L.length (sv L) ∧ Below w.heap.size w w' := by
  obtain ⟨i0, hi, hz0, hz1, hz2⟩ := info_parts Try.infoS
  have hq := nil_eqS (some ad) L.length cap w
  have own0 := World.ownsRow_lit (size := 2) (base := w.heap.size) (e := 27) w #[] 0 (Nat.le_refl _) (by decide) rfl
  have hb0 : Below w.heap.size w (w.alloc (.cells #[] 27)) := (Below.refl w.heap.size w).alloc (Nat.le_refl _) _
  have hr0 := hr.below hb0
  have hcl : ∀ j u, (sv L)[j]? = some u → (w.alloc (.cells #[] 27)).cell? (ad.add j) = some u := by
    intro j u hj
    have hjl : j < L.length * 2 := by
      have := (List.getElem?_eq_some_iff.1 hj).1
      rwa [sv_len] at this
    obtain ⟨b, off, e, hlt, hc⟩ := hr0 (by omega)
    simp only [Option.some.injEq] at e
    subst e
    obtain ⟨c0, c1⟩ := hc (j / 2) (by omega)
    obtain ⟨s0, s1⟩ := sv_get L (j / 2) (by omega)
    rw [add_plain]
    rcases Nat.mod_two_eq_zero_or_one j with h | h
    · have e2 : j / 2 * 2 = j := by omega
      rw [e2] at c0 s0
      rw [c0, ← hj, s0]
    · have e2 : j / 2 * 2 + 1 = j := by omega
      rw [Nat.add_assoc, e2] at c1
      rw [e2] at s1
      rw [c1, ← hj, s1]
  have HC : Hid (∀ j u, (sv L)[j]? = some u → (w.alloc (.cells #[] 27)).cell? (ad.add j) = some u) := hcl
  clear hcl hr0 hr
  go_enter Try.func57, Try.ntmps57
  go_wp2_with (at_builtin; refine wpList_append_lies _ rfl _ _ 30 rfl w.heap.size 27 i0 (.agg #[.int .u32 0, .int .u32 0]) 2 8 Try.underlying30 hi hz0 hz1 hz2 rfl (by decide) _ 0 [] rfl own0 ad L.length cap (sv L) rfl (sv_len L) HC.out (sv_one' L) hpos ?d3 ?d4 ?d5 (w.heap.size + 1) ?d6 ?_)
  case d3 => unfold maxLen; omega
  case d4 => omega
  intro g c w1 hown' hgrow _ _
  have R2 : Below w.heap.size w w1 := hb0.grown hgrow (by simp) (fun k e => by simp [Value.ownBlock] at e; omega)
  try simp only [Nat.zero_add, List.nil_append] at hown'
  have hc := own_capS hown'
  clear hgrow own0 hb0 HC
  go_wp2
  go_ret
  exact ⟨_, _, rfl, hc, hown', R2⟩
end Go.Proofs.Ytbaigjckimpkmaa
