import Derived.Test.YtnplimdcfbgpeaaDoorCIOb
import Derived.Test.YtnplimdcfbgpeaaDoorCLBase
import Derived.Laws.AppendOwnNone
namespace Go.Proofs.YtnplimdcfbgpeaaDoor
open Go.RowKit
set_option maxRecDepth 100000

theorem opWd_ne : ∀ k, k < 60 → 1 ≤ k → ¬ (opWd k).toList = [] := by decide +kernel
theorem Tryd.infoC : (Tryd.prog.info? 54).map (fun i => (i.zero, i.size, i.bytes)) = some (some (.agg #[.int .u8 0, .int .u32 0]), 2, 8) := by kernel_rfl
def fit1 (p : Nat × Nat) : Nat × Nat := (1 + p.1 % 59, if opMo (1 + p.1 % 59) < 4294967295 then p.2 % (opMo (1 + p.1 % 59) + 1) else p.2)
def fitL (L : List (Nat × Nat)) : List (Nat × Nat) := (L.take 16384).map fit1
theorem fit_take (L : List (Nat × Nat)) (k : Nat) (h : k < L.length) : (L.take (k + 1)).map fit1 = (L.take k).map fit1 ++ [fit1 (L.getD k (0, 0))] := by
  rw [ptake (0, 0) L k h, List.map_append]; rfl
theorem fit_ok (p : Nat × Nat) (h : p.2 < 4294967296) : okI (fit1 p) = true := by
  have hI : isOp (1 + p.1 % 59) = true := decide_eq_true (by omega)
  have hM := opMo_lt (1 + p.1 % 59)
  unfold okI fit1 erV
  simp only [hI]
  rw [if_neg (by simp), if_neg]
  · rfl
  · split
    · have := Nat.mod_lt p.2 (show opMo (1 + p.1 % 59) + 1 > 0 by omega); omega
    · omega
theorem fitL_ok (L : List (Nat × Nat)) (h : Wfc L) : allOk (fitL L) = true := by
  rw [allOk, List.all_eq_true]
  intro p hp
  obtain ⟨q, hq, rfl⟩ := List.mem_map.1 hp
  exact fit_ok q (h q (List.mem_of_mem_take hq)).2
theorem fitL_len (L : List (Nat × Nat)) : (fitL L).length ≤ 16384 := by simp [fitL]; omega
theorem fit_wf (p : Nat × Nat) (h : p.2 < 4294967296) : (fit1 p).1 < 256 ∧ (fit1 p).2 < 4294967296 := by
  refine ⟨by simp only [fit1]; omega, ?_⟩
  simp only [fit1]
  split
  · exact Nat.lt_of_le_of_lt (Nat.mod_le _ _) h
  · exact h
theorem fitL_wf (L : List (Nat × Nat)) (h : Wfc L) : Wfc (fitL L) := by
  intro p hp
  obtain ⟨q, hq, rfl⟩ := List.mem_map.1 hp
  exact fit_wf q (h q (List.mem_of_mem_take hq)).2
theorem own_snocC {w1 : World} {B : Nat} {v' : Value} {L M : List (Nat × Nat)} {n : Nat} {p : Nat × Nat} (hM : M = L ++ [p]) (hn : n = L.length)
    (h : w1.ownsRow B 54 2 v' (n + 1) (cv L ++ [.int .u8 p.1, .int .u32 p.2])) : w1.ownsRow B 54 2 v' M.length (cv M) := by
  subst hM hn
  rw [cv_append, List.length_append]
  exact h
theorem cellE {w W : World} {b i : Nat} {v : Value} (h : Below w.heap.size w W) (hb : b < w.heap.size) (hc : w.cell? ⟨b, i, none⟩ = some v) (o : Obj) : (W.alloc o).cell? ⟨b, i, none⟩ = some v := by
  have := h.size
  rw [World.cell?_alloc_old _ _ _ (by show b ≠ W.heap.size; omega)]
  exact (h.cell (p := ⟨b, i, none⟩) hb).trans hc
end Go.Proofs.YtnplimdcfbgpeaaDoor
namespace Go.Proofs.YtnplimdcfbgpeaaDoor
open Go.RowKit
set_option maxRecDepth 100000

theorem wpList_append_row {P : Program} {w : World} {ops : Array Oper} {rest : List Oper} {o : Oper} {a : Act} {Q : Exit → Act → World → Prop} (hgd : o.guard = none) (s x : Operand) (t : TypeId)
    (ho : o.op = .call { callee := .builtin .append, args := #[s, x], argTypes := #[t, t] })
    (base : Nat) (e : TypeId) (i : TypeInfo) (z : Value) (size bytes : Nat) (ht : P.underlying t = some (.slice e)) (hi : P.info? e = some i) (hz : i.zero = some z)
    (hsize : i.size = size) (hby : i.bytes = bytes) (hzs : z.cells.size = size) (hsz : 0 < size)
    (v : Value) (n : Nat) (xs : List Value) (hs : a.eval s = v) (hown : w.ownsRow base e size v n xs)
    (u : Value) (m B : Nat) (news : List Value) (hx : a.eval x = u) (hou : w.ownsRow B e size u m news) (h1 : ∀ u ∈ news, u.oneCell' = true)
    (h63 : n + m ≤ maxLen) (hbytes : (n + m) * bytes ≤ 140737488355328) (hbase : base ≤ w.heap.size)
    (h : ∀ v' w', w'.ownsRow base e size v' (n + m) (xs ++ news) → w.grownBy w' v.ownBlock → wpList P ops Q rest (a.put o.dst v') w') : wpList P ops Q (o :: rest) a w := by
  rcases hou.2 with ⟨rfl, rfl⟩ | ⟨g, cap, cur, rfl, _⟩
  · have hnl : news = [] := List.eq_nil_of_length_eq_zero (by simpa using hou.1)
    subst hnl
    refine wpList_append_own_none hgd s x t ho base e i size ht hi v n xs hs hown hx ?_
    exact h v w (by simpa using hown) (World.grownBy.refl _ _)
  · exact wpList_append_own w hgd s x t ho base e i z size bytes ht hi hz hsize hby hzs hsz v n xs hs hown ⟨g, 0, none⟩ m cap news hx hou.1 (hou.cells rfl) h1 h63 hbytes hbase (fun v' w' h1 h2 _ => h v' w' h1 h2)
theorem cv_one' (L : List (Nat × Nat)) : ∀ u ∈ cv L, u.oneCell' = true := by
  intro u hu
  simp [cv] at hu
  obtain ⟨a, b, _, h | h⟩ := hu <;> subst h <;> rfl
theorem bv_one' (L : List Int) : ∀ u ∈ bv L, u.oneCell' = true := by
  intro u hu; simp [bv] at hu; obtain ⟨z, _, rfl⟩ := hu; rfl
theorem cv_get (L : List (Nat × Nat)) : ∀ j, j < L.length → (cv L)[j * 2]? = some (.int .u8 (L.getD j (0, 0)).1) ∧ (cv L)[j * 2 + 1]? = some (.int .u32 (L.getD j (0, 0)).2) := by
  induction L with
  | nil => intro j hj; simp at hj
  | cons p L ih =>
    intro j hj
    have e : cv (p :: L) = .int .u8 p.1 :: .int .u32 p.2 :: cv L := rfl
    cases j with
    | zero => rw [e]; exact ⟨rfl, rfl⟩
    | succ j =>
      have := ih j (by simpa using hj)
      rw [e, show (j + 1) * 2 = j * 2 + 1 + 1 by omega]
      exact this
theorem own_crd {w : World} {B : Nat} {v : Value} {L : List (Nat × Nat)} (h : w.ownsRow B 54 2 v L.length (cv L)) : ∃ ao cap, v = .slice ao L.length cap ∧ CRd w ao L w.heap.size := by
  rcases h.2 with ⟨rfl, h0⟩ | ⟨g, cap, cur, rfl, hh⟩
  · exact ⟨none, 0, by rw [h0], fun hp => absurd hp (by omega)⟩
  · refine ⟨some ⟨g, 0, none⟩, cap, rfl, fun _ => ⟨g, 0, rfl, (h.lt g rfl).2, fun j hj => ?_⟩⟩
    obtain ⟨c0, c1⟩ := cv_get L j hj
    have a0 := h.cells (g := g) rfl _ _ c0
    have a1 := h.cells (g := g) rfl _ _ c1
    rw [Go.WideShapes.add_plain] at a0 a1
    exact ⟨a0, by rw [Nat.add_assoc]; exact a1⟩
theorem own_crd2 {w : World} {B : Nat} {ao : Option Addr} {cap : Nat} {L : List (Nat × Nat)} (h : w.ownsRow B 54 2 (.slice ao L.length cap) L.length (cv L)) : CRd w ao L w.heap.size := by
  obtain ⟨a, c, e, hr⟩ := own_crd h
  simp only [Value.slice.injEq] at e
  rw [e.1]; exact hr
theorem own_reads5 {w : World} {B : Nat} {v : Value} {zs : List Int} (h : w.ownsRow B 5 1 v zs.length (bv zs)) : ∃ ao cap, v = .slice ao zs.length cap ∧ Reads w ao zs w.heap.size := own_reads h
theorem ones_apart {w : World} {B C e e' s s' n n' : Nat} {v v' : Value} {xs xs' : List Value} {wl : World} (h : wl.ownsRow B e s v n xs) (h' : w.ownsRow C e' s' v' n' xs') (hl : wl.heap.size ≤ C) : v.ownBlock = none ∨ v.ownBlock ≠ v'.ownBlock := by
  cases hb : v.ownBlock with
  | none => exact .inl rfl
  | some b =>
    right
    intro e
    have h1 := (h.lt b hb).2
    have h2 := (h'.lt b e.symm).1
    omega
theorem encB_ok (L : List (Nat × Nat)) (h : allOk L = true) (hl : L.length ≤ 16384) : encB L = encF L ∧ encI L = 0 ∧ encX L = 0 := by
  simp [encB, encI, encX, h, show ¬ 16384 < L.length by omega]
theorem encode_ok (ao : Option Addr) (cap : Nat) (L : List (Nat × Nat)) (w : World) (hwf : Wfc L) (hr : CRd w ao L w.heap.size) (h : allOk L = true) (hl : L.length ≤ 16384) :
    Calls Tryd.prog 34 #[.slice ao L.length cap] w fun e w' => ∃ v, e = .returned (.tuple #[v, .int .i64 0, .int .i64 0]) ∧ w'.ownsRow w.heap.size 5 1 v (encF L).length (bv (encF L)) ∧ Below w.heap.size w w' := by
  refine (encode_any ao cap L w (by omega) hwf hr).mono ?_
  obtain ⟨e1, e2, e3⟩ := encB_ok L h hl
  rintro e w' ⟨v, rfl, h1, h2⟩
  rw [e1] at h1
  exact ⟨v, by rw [e2, e3]; rfl, h1, h2⟩
theorem encode_n (ao : Option Addr) (cap n : Nat) (L : List (Nat × Nat)) (w : World) (hn : L.length = n) (hwf : Wfc L) (hr : CRd w ao L w.heap.size) (h : allOk L = true) (hl : L.length ≤ 16384) :
    Calls Tryd.prog 34 #[.slice ao n cap] w fun e w' => ∃ v, e = .returned (.tuple #[v, .int .i64 0, .int .i64 0]) ∧ w'.ownsRow w.heap.size 5 1 v (encF L).length (bv (encF L)) ∧ Below w.heap.size w w' := by
  subst hn; exact encode_ok ao cap L w hwf hr h hl
theorem same_nn (n m : Nat) (ao bo : Option Addr) (ca cb : Nat) (xs ys : List Int) (w : World) (h1 : xs.length = n) (h2 : ys.length = m) (hn : n ≤ 140737488355328) (ha : Reads w ao xs w.heap.size) (hr : Reads w bo ys w.heap.size) :
    Calls Tryd.prog 14 #[.slice ao n ca, .slice bo m cb] w fun e w' => e = .returned (.bool (decide (xs = ys))) ∧ ∃ m, w' = w.drewN m := by
  subst h1 h2; exact same_any ao bo ca cb xs ys w hn ha hr
theorem below_drew0 {w : World} (n : Nat) : Below w.heap.size w (w.drewN n) := below_drewN (Below.refl _ _) n
end Go.Proofs.YtnplimdcfbgpeaaDoor
