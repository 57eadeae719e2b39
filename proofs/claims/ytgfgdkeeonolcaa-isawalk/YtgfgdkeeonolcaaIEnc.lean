import Derived.Test.YtgfgdkeeonolcaaIOb
namespace Go.Proofs.Ytgfgdkeeonolcaa
open Go.RowKit
set_option maxRecDepth 100000

theorem Try.infoB : (Try.prog.info? 5).map (fun i => (i.zero, i.size, i.bytes)) = some (some (.int .u8 0), 1, 1) := by kernel_rfl
theorem wpList_append_nones {P : Program} {w : World} {ops : Array Oper} {rest : List Oper} {o : Oper} {a : Act} {Q : Exit → Act → World → Prop} (hgd : o.guard = none) (s x : Operand) (t : TypeId)
    (ho : o.op = .call { callee := .builtin .append, args := #[s, x], argTypes := #[t, t] })
    (e : TypeId) (i : TypeInfo) (z : Value) (ht : P.underlying t = some (.slice e)) (hi : P.info? e = some i) (hz : i.zero = some z)
    (ad : Addr) (n c c2 : Nat) (hs : a.eval s = .slice (some ad) n c) (hx : a.eval x = .slice none 0 c2) (hnc : n ≤ c)
    (h : wpList P ops Q rest (a.put o.dst (.slice (some ad) n c)) w) : wpList P ops Q (o :: rest) a w := by
  refine wpList_plain hgd fun _ hK => ?_
  have hr : (Builtin.append_ #[t, t] o.type #[.slice (some ad) n c, .slice none 0 c2]).run P w = .ok (.slice (some ad) n c) w := by
    simp [Builtin.append_, run_underlying ht, sizeOf, typeInfo, zeroValue, hi, hz, Builtin.lenOf, hnc, run_firstCells_none, storeCells]
  unfold Oper.wp execOp
  simp only [ho, resolve, invoke, builtin, Sem.run_bind, Sem.run_pure, Result.andThen_ok, List.map_toArray, List.map_cons, List.map_nil, hs, hx, hr]
  exact hK _ _ h
theorem enc_err (L : List (Nat × Nat)) (k : Nat) (hk : k < L.length) (h : ∀ j, j < k → okI (L.getD j (0, 0)) = true) (hb : okI (L.getD k (0, 0)) = false) (hl : ¬ 16384 < L.length) :
    encB L = [] ∧ encI L = k ∧ encX L = erV (L.getD k (0, 0)).1 (L.getD k (0, 0)).2 := by
  obtain ⟨e1, e2⟩ := badAt_of L k hk h hb
  simp [encB, encI, encX, hl, e1, e2]
theorem enc_ok (L : List (Nat × Nat)) (h : ∀ j, j < L.length → okI (L.getD j (0, 0)) = true) (hl : ¬ 16384 < L.length) :
    encB L = encF L ∧ encI L = 0 ∧ encX L = 0 := by
  simp [encB, encI, encX, hl, allOk_of L h]
theorem enc_long (L : List (Nat × Nat)) (hl : 16384 < L.length) : encB L = [] ∧ encI L = 16384 ∧ encX L = 73 := by
  simp [encB, encI, encX, hl]
theorem fresh_ne {w : World} {B e sz : Nat} {v : Value} {n : Nat} {xs : List Value} (h : w.ownsRow B e sz v n xs) : some w.heap.size ≠ v.ownBlock := by
  intro e
  have := (h.lt _ e.symm).2
  omega
theorem own_cap {w : World} {B e sz g n c : Nat} {xs : List Value} (h : w.ownsRow B e sz (.slice (some ⟨g, 0, none⟩) n c) n xs) : n ≤ c := by
  by_cases hn : 0 < n
  · obtain ⟨g', c', e, hc⟩ := own_form h hn
    simp only [Value.slice.injEq] at e
    omega
  · omega
theorem grown_below2 {B e sz : Nat} {a w w' : World} {xs : List Value} {v : Value} {n : Nat} (h : Below B a w) (hB : B ≤ w.heap.size) (hown : w.ownsRow B e sz v n xs) (hg : w.grownBy w' v.ownBlock) : Below B a w' :=
  h.grown hg hB (fun k e => (hown.lt k e).1)
theorem hid_of {p : Prop} (h : p) : Hid p := h
end Go.Proofs.Ytgfgdkeeonolcaa
