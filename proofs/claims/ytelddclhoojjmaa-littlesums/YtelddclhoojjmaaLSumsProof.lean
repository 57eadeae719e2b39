import Derived.Test.YtelddclhoojjmaaLSums
import Derived.Test.YtelddclhoojjmaaLOpen
import Derived.Deep.Slices
import Derived.ChangeSame
namespace Go.Proofs.Ytelddclhoojjmaa
open Go.ChangeShapes Go.WideShapes Go.ChangeAt Go.RowKit

theorem Try.cellsOp : Try.prog.cellsOf 27 = 5 := by kernel_rfl
theorem Try.bytesOp : Try.prog.bytesOf 27 = 48 := by kernel_rfl
theorem Try.cells3 : Try.prog.cellsOf 3 = 1 := by kernel_rfl
theorem Try.cells4 : Try.prog.cellsOf 4 = 1 := by kernel_rfl
theorem Try.cellsW : Try.prog.cellsOf 23 = 1 := by kernel_rfl
theorem Try.cellsB : Try.prog.cellsOf 25 = 1 := by kernel_rfl

theorem sop_open {H : Type} {enc : TypeId × Value → H} {W : World} {n b o : Nat} {cs : List Value} {d : DataW H} {p : List MemPlace}
    (hc : W.cells? 0 ⟨b, o, none⟩ 5 = some cs) (h : DataW.trod enc Try.prog W 0 (fun _ => true) true n 27 cs = some (d, p)) (hlt : ∀ x ∈ p, x.block < W.heap.size)
    (hw : ∀ x ∈ d.weights Try.prog 27, x ≤ reachBytes) :
    ∃ x : SOp, x.At W b o ∧ x.Ok W := by
  obtain ⟨_, hlen, hcell⟩ := World.cells?_some hc
  obtain ⟨xs, k, hk, hxy, _, hxl, hf⟩ := DataW.trod_struct Try.underlying27 h
  match xs, hxl, cs, hlen with
  | [y0, y1, y2, y3, y4], _, [v0, v1, v2, v3, v4], _ =>
    have g0 := hf 0 _ rfl
    have g1 := hf 1 _ rfl
    have g2 := hf 2 _ rfl
    have g3 := hf 3 _ rfl
    have g4 := hf 4 _ rfl
    simp [Try.cells3, Try.cells4, Try.cellsW, Try.cellsB] at g0 g1 g2 g3 g4
    have e0 := hcell 0 (by omega)
    have e1 := hcell 1 (by omega)
    have e2 := hcell 2 (by omega)
    have e3 := hcell 3 (by omega)
    have e4 := hcell 4 (by omega)
    simp [add_plain] at e0 e1 e2 e3 e4
    simp only [Prod.mk.injEq] at hxy
    obtain ⟨hd, hp⟩ := hxy
    obtain ⟨J, hv0, _⟩ := DataW.trod_bool Try.underlying4 g0
    obtain ⟨d1, p1⟩ := y1
    obtain ⟨ao, cap, zs, hv1, hwf, hr, hdd⟩ := bytes_cells g1 (fun x hx => hlt x (by rw [hp]; simp [hx]))
    obtain ⟨A, hv2, _, hA⟩ := DataW.trod_int Try.underlying23 g2
    obtain ⟨B, hv3, _, hB⟩ := DataW.trod_int Try.underlying23 g3
    obtain ⟨N, hv4, _, hN⟩ := DataW.trod_int Try.underlying3 g4
    simp only [List.cons.injEq, and_true] at hv0 hv1 hv2 hv3 hv4
    subst hv0 hv1 hv2 hv3 hv4
    refine ⟨⟨J, ao, cap, zs, A, B, N⟩, ⟨e0, e1, e2, e3, e4⟩, ⟨?_, hwf, hr, word_wf hA, word_wf hB, int_wf hN⟩⟩
    show zs.length ≤ 140737488351232
    rcases hdd with ⟨_, rfl⟩ | ⟨sp, rfl⟩
    · simp
    · have := hw ((zs.length + sp.length) * 1) (by
        rw [hd]
        simp only [DataW.weights, Try.underlying27]
        refine DataW.weights_mem_each (j := 1) (t := 25) rfl rfl _ ?_
        simp [DataW.weights, Try.underlying25, Try.bytes5, lits_len])
      simp only [reachBytes] at this
      omega

theorem script_open {H : Type} {enc : TypeId × Value → H} {W : World} {a0 : Option Addr} {len cap : Nat} {d : DataW H} {p : List MemPlace}
    (h : DataW.Trod enc Try.prog W 0 (fun _ => true) true 22 (.slice a0 len cap) d p) (hlt : ∀ x ∈ p, x.block < W.heap.size)
    (hw : ∀ x ∈ d.weights Try.prog 22, x ≤ reachBytes) :
    len ≤ 140737488355328 ∧ ∃ S, Script W a0 len S := by
  obtain ⟨fuel, hf⟩ := h
  rcases Go.Deep.open_slice Try.underlying22 hf with ⟨hcs, hx⟩ | ⟨a, len', cap', m, n, D, Pl, hcs, _, hl, hm, hmm, hx, hel⟩
  · simp [Value.cells] at hcs
    obtain ⟨rfl, rfl, rfl⟩ := hcs
    exact ⟨by omega, fun _ => ⟨false, none, 0, [], 0, 0, 0⟩, fun i hi => absurd hi (Nat.not_lt_zero _)⟩
  · simp [Value.cells] at hcs
    obtain ⟨rfl, rfl, rfl⟩ := hcs
    simp only [Prod.mk.injEq] at hx
    obtain ⟨rfl, rfl⟩ := hx
    simp only [if_true] at hmm
    subst hmm
    have hlen : len ≤ 140737488355328 := by
      have := hw ((((List.range len).map D).length + ((List.range (m - len)).map fun j => D (len + j)).length) * Try.prog.bytesOf 27) (by
        simp only [DataW.weights, Try.underlying22]; exact List.mem_cons_self)
      rw [Try.bytesOp] at this
      simp only [List.length_map, List.length_range, reachBytes] at this
      omega
    refine ⟨hlen, ?_⟩
    rw [Try.cellsOp] at hel hlt
    have each : ∀ i, i < len → ∃ x : SOp, ∃ b off, some a = some (⟨b, off, none⟩ : Addr) ∧ b < W.heap.size ∧ x.At W b (off + i * 5) ∧ x.Ok W := by
      intro i hi
      obtain ⟨cs', h1, h2⟩ := hel i (by omega)
      obtain ⟨b, off, spot⟩ := a
      have hspot : spot = none := by
        obtain ⟨cs0, h10, _⟩ := hel 0 (by omega)
        have hc0 := (World.cells?_some h10).2.2 0 (by omega)
        have hl' : cs0.length = 5 := (World.cells?_some h10).2.1
        rw [List.getElem?_eq_getElem (by omega)] at hc0
        have := World.cell?_spot hc0
        simpa [Addr.add] using this
      subst hspot
      rw [add_plain] at h1
      have hbW : b < W.heap.size := hlt (.cell b off) (List.mem_append_left _ (MemPlace.mem_row.2 ⟨0, by omega, by simp⟩))
      obtain ⟨x, hx1, hx2⟩ := sop_open h1 h2 (fun y hy => hlt y (List.mem_append_right _ (List.mem_flatMap.2 ⟨i, List.mem_range.2 (by omega), hy⟩))) (fun y hy => hw y (by
        simp only [DataW.weights, Try.underlying22, List.mem_cons, List.mem_append]
        exact Or.inr (Or.inl (weightsAll_mem (List.mem_map.2 ⟨i, List.mem_range.2 hi, rfl⟩) _ hy))))
      exact ⟨x, b, off, rfl, hbW, hx1, hx2⟩
    haveI : Inhabited SOp := ⟨⟨false, none, 0, [], 0, 0, 0⟩⟩
    obtain ⟨S, hS⟩ := Go.Deep.choose_lt each
    exact ⟨S, hS⟩

set_option maxRecDepth 100000 in
theorem sums_lifted (os : Os) (started : os.Started) (H : Type) (enc : TypeId × Value → H) :
    ReturnsInHanded {} Try.checked os 3 .any (Rows.littleSumsSpec.pre6 enc Try.prog Try.f3 Rows.littleSumsRow.domain false) (Rows.littleSumsSpec.post enc Try.prog Try.f3 false true false false) := by
  refine returnsInHanded_of_change_sized (C := Try.checked) Try.own started (by kernel_rfl) Try.func3
    (ChangeSpec.witness6 (enc := enc) (C := Try.checked) false ⟨#[], #[.slice none 0 0], []⟩ 8 (by kernel_rfl) (by kernel_rfl) (by kernel_rfl) (by kernel_rfl)) ?_
  intro W base args ds gs before hval0 hW _ hsz0 _
  have hsz : (DataW.weightsEach Try.prog (Try.f3.params.toList ++ Rows.littleSumsSpec.plain.varTypes Try.prog) (ds ++ gs)).all (· ≤ reachBytes) = true := hsz0
  clear hsz0
  have hval : ∀ (j : Nat) t v, Try.f3.params[j]? = some t → args[j]? = some v → Value.okWide Try.prog W .any base t v := hval0
  have hW' := hW
  obtain ⟨p, q, hA0, hV, rfl, hfz, hnd⟩ := hW
  have hA : DataW.TrodAll enc Try.prog W 0 (fun _ => true) true Try.f3.params.toList args.toList ds p := hA0
  rw [Try.params3] at hA hval hsz
  obtain ⟨v0, vs0, d0, ds0, p0, q0, hargs, rfl, rfl, h0, r0⟩ := trodAll_cons hA
  obtain ⟨rfl, rfl, rfl⟩ := trodAll_nil r0
  obtain rfl : args = #[v0] := by cases args; simp_all
  obtain ⟨rfl, rfl⟩ := trodVars_none hV
  obtain ⟨a0, len, cap, rfl⟩ := okWide_slice Try.underlying22 (hval 0 22 v0 rfl rfl)
  clear hA0 hval0
  simp only [List.append_nil] at hW' hsz
  have hlt : ∀ x ∈ p0, x.block < W.heap.size := fun x hx => by simpa using hW'.lt x (by simp [hx])
  obtain ⟨hs, S, hS⟩ := script_open h0 hlt (fun x hx => of_decide_eq_true (List.all_eq_true.1 hsz x (DataW.weights_mem_each (j := 0) (t := 22) rfl rfl x hx)))
  refine (sums_any a0 len cap S W hs hS).mono fun e W' ⟨he, hnx⟩ => ?_
  subst he
  have hback : DataW.Trod enc Try.prog W' 0 (fun b => decide (b < W.heap.size)) true 22 (.slice a0 len cap) d0 p0 :=
    Below.trod Try.laidOut (by kernel_rfl) (of_decide_eq_true (by kernel_rfl)) h0 hnx hlt
  refine ⟨_, rfl, _, _, _, [], p0 ++ [], [], hW', ?_, ?_, rfl, hnx.frame _, fun h => by cases h⟩
  · exact trodAll_cons_mk (shut_bool Try.underlying4 _) trodAll_mk0
  · exact trodAll_cons_mk hback trodAll_mk0

theorem sums_holds : Rows.LittleSumsSaid :=
  OpenClaim.holds_of_wide 3 Try.f3 rfl rfl rfl rfl rfl rfl rfl ⟨rfl, rfl, rfl, rfl, rfl⟩ rfl rfl rfl rfl rfl (by kernel_rfl) Try.func3 (by kernel_rfl)
    (of_decide_eq_true (by kernel_rfl)) (by unfold Func.isWrapper; first | (rw [if_pos (by decide +kernel)]; kernel_rfl) | (rw [if_neg (by decide +kernel)]; exact ⟨rfl, rfl⟩))
    (fun os started H enc _ => sums_lifted os started H enc)
end Go.Proofs.Ytelddclhoojjmaa
