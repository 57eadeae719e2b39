import Derived.Test.YtcmfephbhbgoiaaDoorJWd
import Derived.Deep.AppendLies
namespace Go.Proofs.YtcmfephbhbgoiaaDoor
open Go.RowKit Go.WideShapes Go.Shelf
set_option maxRecDepth 100000
theorem nil_eqD (a : Option Addr) (n c : Nat) (w : World) : (binOp .eql 24 (.slice a n c) (.slice none 0 0)).run Tryd.prog w = .ok (.bool a.isNone) w := by
  have e : binOp .eql 24 (.slice a n c) (.slice none 0 0) = (do pure (.bool (← Op.equal 24 (.slice a n c) (.slice none 0 0)))) := rfl
  rw [e, Sem.run_bind, run_equal_slice_nil w _ _ a n c Tryd.underlying24]
  rfl
def nv32 (J : List Nat) : List Value := J.map fun (z : Nat) => Value.int .u32 (z : Int)
/-- words in a block that was not there -/
def WNw (w w' : World) (a : Option Addr) (J : List Nat) : Prop := 0 < J.length → ∃ g, a = some ⟨g, 0, none⟩ ∧ w.heap.size ≤ g ∧ g < w'.heap.size ∧ ∀ j, j < J.length → w'.cell? ⟨g, j, none⟩ = some (.int .u32 (J.getD j 0 : Nat))
/-- what slices.Clone of words leaves -/
def CnD (w : World) (l : List Nat) (e : Ending) (w' : World) : Prop := ∃ a c, e = .returned (.slice a l.length c) ∧ WNw w w' a l ∧ Below w.heap.size w w'
set_option maxHeartbeats 1000000 in
theorem dclone_any (a : Option Addr) (cap : Nat) (l : List Nat) (w : World) (hn : l.length ≤ 1048576) (hr : WRd w a l w.heap.size) :
    Calls Tryd.prog 28 #[.slice a l.length cap] w (CnD w l) := by
  obtain ⟨i0, hi, hz0, hz1, hz2⟩ := info_parts Tryd.infoD
  have hq := nil_eqD a l.length cap w
  have own0 := World.ownsRow_lit (size := 1) (base := w.heap.size) (e := 23) w #[] 0 (Nat.le_refl _) (by decide) rfl
  have hb0 : Below w.heap.size w (w.alloc (.cells #[] 23)) := (Below.refl w.heap.size w).alloc (Nat.le_refl _) _
  by_cases hpos : 0 < l.length
  · obtain ⟨b, off, rfl, hlt, hc⟩ := hr hpos
    have HC : Hid (∀ j u, (nv32 l)[j]? = some u → (w.alloc (.cells #[] 23)).cell? ((⟨b, off, none⟩ : Addr).add j) = some u) := by
      refine fjhid fun j u hj => ?_
      have hjl : j < l.length := by
        have := (List.getElem?_eq_some_iff.1 hj).1
        simpa [nv32] using this
      have hadd : (⟨b, off, none⟩ : Addr).add j = ⟨b, off + j, none⟩ := by unfold Addr.add; split <;> simp_all
      rw [hadd, hb0.cell hlt, hc j hjl, ← hj]
      simp [nv32, hjl]
    have HD : Hid ((nv32 l).length = l.length * 1) := by simp [nv32, Hid]
    have HE : Hid (∀ u ∈ nv32 l, u.oneCell' = true) := fjhid fun u hu => by
      simp only [nv32, List.mem_map] at hu
      obtain ⟨z, _, rfl⟩ := hu
      rfl
    clear hc hr
    simp only [Option.isNone_some] at hq
    go_enter Tryd.func28, Tryd.ntmps28
    go_wp2_with (at_builtin; refine wpList_append_lies _ rfl _ _ 24 rfl w.heap.size 23 i0 (.int .u32 0) 1 4 Tryd.underlying24 hi hz0 hz1 hz2 rfl (by decide) _ 0 [] rfl own0 ⟨b, off, none⟩ l.length cap (nv32 l) rfl HD.out HC.out HE.out hpos ?d3 ?d4 ?d5 (w.heap.size + 1) ?d6 ?_)
    case d3 => unfold maxLen; omega
    case d4 => omega
    intro g c w1 hown' hgrow _ _
    have R2 : Below w.heap.size w w1 := hb0.grown hgrow (by simp) (fun k e => by simp [Value.ownBlock] at e; omega)
    try simp only [Nat.zero_add, List.nil_append] at hown'
    clear hgrow own0 hb0 HC HD HE
    have HO := fjhid hown'
    clear hown'
    go_wp2
    go_ret
    have hl := HO.out.lt g rfl
    refine ⟨_, _, rfl, fun _ => ⟨g, rfl, hl.1, hl.2, fun j hj => ?_⟩, R2⟩
    have := HO.out.cellAt j (by omega)
    rw [this]
    simp [nv32, hj, List.getD]
  · have hl0 : l.length = 0 := by omega
    have hnil : ∀ (W : World) (a : Option Addr), WNw w W a l := fun W a q => absurd q hpos
    have HN := fjhid hnil
    clear hr hnil hpos
    rw [hl0] at hq
    unfold CnD
    rw [hl0]
    cases a with
    | none =>
      simp only [Option.isNone_none] at hq
      go_enter Tryd.func28, Tryd.ntmps28
      go_wp2
      go_ret
      exact ⟨_, ⟨_, rfl⟩, HN.out _ _, Below.refl _ _⟩
    | some ad =>
      simp only [Option.isNone_some] at hq
      go_enter Tryd.func28, Tryd.ntmps28
      go_wp2
      go_ret
      exact ⟨_, ⟨_, rfl⟩, HN.out _ _, hb0⟩
end Go.Proofs.YtcmfephbhbgoiaaDoor
