import Derived.Test.YtpndbbepfjocgaaCKGa
import Derived.Test.YtpndbbepfjocgaaCKTk
import Derived.Lib.AppendStr
import Derived.Laws.BytesArg
namespace Go.Proofs.Ytpndbbepfjocgaa
open Go.RowKit
set_option maxRecDepth 100000

/-- tokens with their texts -/
abbrev Tt := Nat × Int × ByteArray
def ktO (y : Tt) : Kt := (y.1, y.2.2)
/-- what a slice of tokens that is read holds -/
def TRd (w : World) (ao : Option Addr) (Y : List Tt) (B : Nat) : Prop :=
  0 < Y.length → ∃ b off, ao = some ⟨b, off, none⟩ ∧ b < B ∧ ∀ i y, Y[i]? = some y → w.cell? ⟨b, off + i * 3, none⟩ = some (.int .u8 y.1) ∧ w.cell? ⟨b, off + i * 3 + 1, none⟩ = some (.int .i64 y.2.1) ∧ w.cell? ⟨b, off + i * 3 + 2, none⟩ = some (.string y.2.2)
theorem TRd.below {w w' : World} {ao : Option Addr} {Y : List Tt} {B : Nat} (h : TRd w ao Y B) (hb : Below B w w') : TRd w' ao Y B := by
  intro hl
  obtain ⟨b, off, e, hlt, hc⟩ := h hl
  refine ⟨b, off, e, hlt, fun i y hy => ?_⟩
  obtain ⟨c0, c1, c2⟩ := hc i y hy
  exact ⟨(hb.cell (p := ⟨b, off + i * 3, none⟩) hlt).trans c0, (hb.cell (p := ⟨b, off + i * 3 + 1, none⟩) hlt).trans c1, (hb.cell (p := ⟨b, off + i * 3 + 2, none⟩) hlt).trans c2⟩
def lastK (p : Nat) (X : List Kt) : Nat := match X.getLast? with
  | some x => x.1
  | none => p
theorem lastK_cons (p : Nat) (x : Kt) (X : List Kt) : lastK p (x :: X) = lastK x.1 X := by
  cases X with
  | nil => rfl
  | cons y X =>
    unfold lastK
    rw [List.getLast?_cons_cons, List.getLast?_eq_some_getLast (by simp : (y :: X) ≠ [])]
theorem gls_snoc (x : Kt) : ∀ (X : List Kt) (p : Nat), gls p (X ++ [x]) = gls p X ++ (sepOf (lastK p X) x ++ bz x.2)
  | [], p => by simp [gls, lastK]
  | y :: X, p => by
    rw [List.cons_append, gls, gls_snoc x X y.1, gls, lastK_cons]
    simp [List.append_assoc]
theorem gls_app (Z : List Kt) : ∀ (X : List Kt) (p : Nat), (gls p X).length ≤ (gls p (X ++ Z)).length
  | [], p => by simp [gls]
  | y :: X, p => by
    rw [List.cons_append, gls, gls]
    have := gls_app Z X y.1
    simp only [List.length_append]
    omega
def Lk (Y : List Tt) (k : Nat) : List Int := gls 6 ((Y.take k).map ktO)
def pk (Y : List Tt) (k : Nat) : Nat := lastK 6 ((Y.take k).map ktO)
theorem Lk_succ (Y : List Tt) (k : Nat) (h : k < Y.length) : Lk Y (k + 1) = Lk Y k ++ (sepOf (pk Y k) (ktO Y[k]) ++ bz (ktO Y[k]).2) := by
  unfold Lk pk
  rw [List.take_succ_eq_append_getElem h, List.map_append, List.map_cons, List.map_nil, gls_snoc]
theorem Lk_le (Y : List Tt) (k : Nat) : (Lk Y k).length ≤ (gls 6 (Y.map ktO)).length := by
  unfold Lk
  have := gls_app ((Y.drop k).map ktO) ((Y.take k).map ktO) 6
  rwa [← List.map_append, List.take_append_drop] at this
theorem Lk_all (Y : List Tt) : Lk Y Y.length = gls 6 (Y.map ktO) := by unfold Lk; rw [List.take_length]
theorem pk_zero (Y : List Tt) : pk Y 0 = 6 := rfl
theorem pk_succ (Y : List Tt) (k : Nat) (h : k < Y.length) : pk Y (k + 1) = Y[k].1 := by
  unfold pk lastK
  rw [List.take_succ_eq_append_getElem h, List.map_append, List.map_cons, List.map_nil, List.getLast?_append]
  rfl
theorem strCells_bz (T : ByteArray) : Lib.strCells T = bv (bz T) := by
  unfold Lib.strCells bv bz
  rw [List.map_map]
  rfl
theorem bt_form {W : World} {B : Nat} {v : Value} {n : Nat} {xs : List Value} (h : W.ownsRow B 5 1 v n xs) : ∃ ao cap, v = .slice ao n cap := by
  rcases h.2 with ⟨rfl, rfl⟩ | ⟨g, cap, cur, rfl, _⟩
  · exact ⟨_, _, rfl⟩
  · exact ⟨_, _, rfl⟩
theorem gl_conv {W : World} {B : Nat} {v : Value} {L : List Int} (h : W.ownsRow B 5 1 v L.length (bv L)) : (convert 35 9 v).run Try.prog W = .ok (.string (strOfNums L)) W := by
  have h' := h
  rcases h.2 with ⟨rfl, hz⟩ | ⟨g, cap, cur, rfl, _⟩
  · have : L = [] := List.eq_nil_of_length_eq_zero hz
    subst this
    exact run_convert_bytes_nil W 35 5 Try.underlying35 Try.underlying5 0 0 9 Try.underlying9
  · exact run_convert_bytes_arg W 35 5 Try.underlying35 Try.underlying5 g 0 L.length cap L rfl (fun i hi => own_cell h' hi) 9 Try.underlying9
theorem gl_kept {wr w5 : World} {o o2 : Obj} {B n : Nat} {v : Value} {xs : List Value} (hown : wr.ownsRow B 5 1 v n xs) (hg : ((wr.alloc o).alloc o2).grownBy w5 v.ownBlock) : w5.heap[wr.heap.size]? = some o := by
  rw [hg.block wr.heap.size (by simp; omega) (fun e => by have := (hown.lt _ e.symm).2; omega), Below.heap_alloc _ _ _ (by simp)]
  exact heap_alloc_last wr o
theorem news1 (W : World) (c : Int) (n : Nat) (hn : W.heap.size = n) : ∀ j u, [Value.int .u8 c][j]? = some u → (W.alloc (.cells #[.int .u8 c] 5)).cell? (Addr.add ⟨n, 0, none⟩ j) = some u := by
  subst hn
  intro j u hj
  match j, hj with
  | 0, hj => simp at hj; subst hj; simp [Addr.add]
  | (j + 1), hj => simp at hj
theorem one1 (c : Int) : ∀ u ∈ [Value.int .u8 c], u.oneCell' = true := by
  intro u hu
  rw [List.mem_singleton.1 hu]
  rfl
theorem gl_cell {w5 : World} {b : Nat} {K a : Int} {T : ByteArray} (h : w5.heap[b]? = some (.cells #[.int .u8 K, .int .i64 a, .string T] 40)) : w5.cell? ⟨b, 2, none⟩ = some (.string T) := by
  simp [World.cell?, h]
theorem gl_below {w wr w5 : World} {o o2 : Obj} {n : Nat} {v : Value} {xs : List Value} (hb : Below w.heap.size w wr) (hown : wr.ownsRow w.heap.size 5 1 v n xs) (hg : ((wr.alloc o).alloc o2).grownBy w5 v.ownBlock) : Below w.heap.size w w5 := by
  have h1 : Below w.heap.size w (wr.alloc o) := hb.alloc hb.size _
  have h2 : Below w.heap.size w ((wr.alloc o).alloc o2) := h1.alloc h1.size _
  exact h2.grown hg h2.size (fun j e => (hown.lt j e).1)
theorem gl_base {w wr : World} {o o2 : Obj} (hb : w.heap.size ≤ wr.heap.size) : w.heap.size ≤ ((wr.alloc o).alloc o2).heap.size := by
  rw [World.size_alloc, World.size_alloc]; omega
def glRes (Z : List Int) : Value := if 524288 < Z.length then .tuple #[.string ⟨#[]⟩, .int .i64 15] else .tuple #[.string (strOfNums Z), .int .i64 0]
theorem glRes_big {Z : List Int} (h : 524288 < Z.length) : glRes Z = .tuple #[.string ⟨#[]⟩, .int .i64 15] := by rw [glRes, if_pos h]
theorem glRes_ok {Z : List Int} (h : ¬ 524288 < Z.length) : glRes Z = .tuple #[.string (strOfNums Z), .int .i64 0] := by rw [glRes, if_neg h]
theorem TRd.mono {w : World} {ao : Option Addr} {Y : List Tt} {B C : Nat} (h : TRd w ao Y B) (hb : B ≤ C) : TRd w ao Y C := by
  intro hl
  obtain ⟨b, off, e, hlt, hc⟩ := h hl
  exact ⟨b, off, e, by omega, hc⟩
def tw1 (y : Tt) : List Value := [.int .u8 y.1, .int .i64 y.2.1, .string y.2.2]
def tw (Y : List Tt) : List Value := (Y.map tw1).flatten
theorem tw_append (X Y : List Tt) : tw (X ++ Y) = tw X ++ tw Y := by simp [tw]
theorem tw_at : ∀ (Y : List Tt) (i : Nat) (y : Tt), Y[i]? = some y → (tw Y)[i * 3]? = some (.int .u8 y.1) ∧ (tw Y)[i * 3 + 1]? = some (.int .i64 y.2.1) ∧ (tw Y)[i * 3 + 2]? = some (.string y.2.2)
  | [], i, y, h => by simp at h
  | x :: Y, 0, y, h => by simp at h; subst h; exact ⟨rfl, rfl, rfl⟩
  | x :: Y, i + 1, y, h => by
    have h' : Y[i]? = some y := by simpa using h
    have := tw_at Y i y h'
    rw [show tw (x :: Y) = .int .u8 x.1 :: .int .i64 x.2.1 :: .string x.2.2 :: tw Y from rfl]
    rw [show (i + 1) * 3 = i * 3 + 1 + 1 + 1 by omega]
    simpa using this
theorem tw_len (L : List Tt) : (tw L).length = L.length * 3 := by
  induction L with
  | nil => rfl
  | cons x L ih => show (tw L).length + 1 + 1 + 1 = _; rw [ih]; simp; omega
theorem tok3_cells {W : World} {B g n cap : Nat} {Y : List Tt} (h : W.ownsRow B 40 3 (.slice (some ⟨g, 0, none⟩) n cap) n (tw Y)) (i : Nat) (y : Tt) (hy : Y[i]? = some y) : W.cell? ⟨g, i * 3, none⟩ = some (.int .u8 y.1) ∧ W.cell? ⟨g, i * 3 + 1, none⟩ = some (.int .i64 y.2.1) ∧ W.cell? ⟨g, i * 3 + 2, none⟩ = some (.string y.2.2) := by
  have hadd : ∀ i, (⟨g, 0, none⟩ : Addr).add i = ⟨g, i, none⟩ := fun i => by unfold Addr.add; split <;> simp_all
  obtain ⟨e1, e2, e3⟩ := tw_at Y i y hy
  have c1 := h.cells (g := g) rfl (i * 3) _ e1
  have c2 := h.cells (g := g) rfl (i * 3 + 1) _ e2
  have c3 := h.cells (g := g) rfl (i * 3 + 2) _ e3
  rw [hadd] at c1 c2 c3
  exact ⟨c1, c2, c3⟩
/-- a token that stands alone -/
def alB (G : List ByteArray) (K : Nat) (T : ByteArray) : Bool := match cutV T G with
  | ([(k, a, e)], _, er) => decide (er = 0) && decide (k = K) && decide (T.extract a e = T)
  | _ => false
end Go.Proofs.Ytpndbbepfjocgaa
