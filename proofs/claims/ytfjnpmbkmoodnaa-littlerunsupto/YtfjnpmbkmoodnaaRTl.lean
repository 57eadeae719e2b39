import Derived.Test.YtfjnpmbkmoodnaaRLc
namespace Go.Proofs.Ytfjnpmbkmoodnaa
open Go.RowKit Go.WideShapes
set_option maxRecDepth 100000
/-- one answer more -/
def ex1 (vals : Nat → Value) (n : Nat) (a : Value) : Nat → Value := fun i => if i = n then a else vals i
def ex1Z (Z : Nat → List Int) (n : Nat) (L : List Int) : Nat → List Int := fun i => if i = n then L else Z i
theorem ex1_lt (vals : Nat → Value) (n : Nat) (a : Value) {i : Nat} (h : i < n) : ex1 vals n a i = vals i := by
  simp only [ex1]; rw [if_neg (by omega)]
theorem ex1_n (vals : Nat → Value) (n : Nat) (a : Value) : ex1 vals n a n = a := by simp [ex1]
theorem ex1Z_lt (Z : Nat → List Int) (n : Nat) (L : List Int) {i : Nat} (h : i < n) : ex1Z Z n L i = Z i := by
  simp only [ex1Z]; rw [if_neg (by omega)]
theorem ex1Z_n (Z : Nat → List Int) (n : Nat) (L : List Int) : ex1Z Z n L n = L := by simp [ex1Z]
theorem ex1_range (vals : Nat → Value) (n : Nat) (a : Value) : (List.range (n + 1)).map (ex1 vals n a) = (List.range n).map vals ++ [a] := by
  rw [List.range_succ, List.map_append]
  congr 1
  · exact List.map_congr_left fun i hi => ex1_lt vals n a (List.mem_range.1 hi)
  · simp [ex1]
theorem all1 {n : Nat} {P : Nat → Prop} (h : ∀ i, i < n → P i) (h0 : P n) : ∀ i, i < n + 1 → P i := fun i hi => by
  by_cases h' : i < n
  · exact h i h'
  · have : i = n := by omega
    subst this; exact h0
theorem kw_ext1 {w w1 w2 : World} {B : Nat} {lo wo : Option Addr} {lc wc n g1 c1 g2 c2 : Nat} {vals wv : Nat → Value} {Z : Nat → List Int} {a q : Value} {L : List Int} {o1 o2 : Obj} (h : KW w B lo lc wo wc n vals wv Z)
    (ha : w.ownsRow B 5 1 a L.length (bv L)) (hq : w.ownsRow B 5 1 q L.length (bv L)) (hva : ∀ i, i < n → Apt (vals i) a)
    (h1 : w1.ownsRow B 26 1 (.slice (some ⟨g1, 0, none⟩) (n + 1) c1) (n + 1) ((List.range n).map vals ++ [a])) (hg1 : (w.alloc o1).grownBy w1 (Value.slice lo n lc).ownBlock) (hor1 : (Value.slice lo n lc).ownBlock = some g1 ∨ g1 = w.heap.size + 1)
    (h2 : w2.ownsRow B 26 1 (.slice (some ⟨g2, 0, none⟩) (n + 1) c2) (n + 1) ((List.range n).map wv ++ [q])) (hg2 : (w1.alloc o2).grownBy w2 (Value.slice wo n wc).ownBlock) (hor2 : (Value.slice wo n wc).ownBlock = some g2 ∨ g2 = w1.heap.size + 1) :
    KW w2 B (some ⟨g1, 0, none⟩) c1 (some ⟨g2, 0, none⟩) c2 (n + 1) (ex1 vals n a) (ex1 wv n q) (ex1Z Z n L) := by
  have hsep := Apt.of h.sep
  have hwr1 : w1.ownsRow B 26 1 (.slice wo n wc) n ((List.range n).map wv) := (h.wrow.alloc o1).kept hg1 hsep.symm.l
  have step : ∀ {v : Value} {m : Nat} {xs : List Value}, w.ownsRow B 5 1 v m xs → w2.ownsRow B 5 1 v m xs := fun {v m xs} hv => by
    have k1 := (hv.alloc o1).kept hg1 (rows_type (e := 5) (e' := 26) (by decide) hv h.own.row)
    exact (k1.alloc o2).kept hg2 (rows_type (e := 5) (e' := 26) (by decide) k1 hwr1)
  have hne1 : Apt (.slice (some ⟨g1, 0, none⟩) (n + 1) c1) (.slice wo n wc) := fun b hb1 hb2 => by
    have hgb : g1 = b := by simpa [Value.ownBlock] using hb1
    subst hgb
    rcases hor1 with h' | h'
    · exact hsep _ h' hb2
    · have := (h.wrow.lt _ hb2).2; omega
  refine ⟨⟨?_, ?_, fun i j hi hj hij => Apt.l ?_⟩, ?_, ?_, ?_⟩
  · rw [ex1_range]; exact (h1.alloc o2).kept hg2 hne1.l
  · exact all1 (fun i hi => by rw [ex1_lt _ _ _ hi, ex1Z_lt _ _ _ hi]; exact step (h.own.each i hi)) (by rw [ex1_n, ex1Z_n]; exact step ha)
  · by_cases hin : i < n <;> by_cases hjn : j < n
    · rw [ex1_lt _ _ _ hin, ex1_lt _ _ _ hjn]; exact Apt.of (h.own.apart i j hin hjn hij)
    · have : j = n := by omega
      subst this
      rw [ex1_lt _ _ _ hin, ex1_n]; exact hva i hin
    · have : i = n := by omega
      subst this
      rw [ex1_lt _ _ _ hjn, ex1_n]; exact (hva j hjn).symm
    · omega
  · rw [ex1_range]; exact h2
  · exact all1 (fun i hi => by rw [ex1_lt _ _ _ hi, ex1Z_lt _ _ _ hi]; exact step (h.weach i hi)) (by rw [ex1_n, ex1Z_n]; exact step hq)
  · refine Apt.l fun b hb1 hb2 => ?_
    have hgb : g2 = b := by simpa [Value.ownBlock] using hb2
    subst hgb
    rcases hor2 with h' | h'
    · exact hne1 _ hb1 h'
    · have hgb1 : g1 = g2 := by simpa [Value.ownBlock] using hb1
      have := (h1.lt g1 rfl).2
      omega
def dT : Tr := (0, .slice none 0 0, [])
theorem dT_mem {T : List Tr} {k : Nat} (h : k < T.length) : T.getD k dT ∈ T := by simp [List.getD, List.getElem?_eq_getElem h]
/-- what abides behind the law's loop: k runs of the list i have been taken over -/
structure TlS (W : World) (wr : World) (N i k n m : Nat) (lo : Option Addr) (lc : Nat) (wo : Option Addr) (wc : Nat) (vals wv : Nat → Value) (Z : Nat → List Int) (co : Option Addr) (cc : Nat) (po : Option Addr) (pc : Nat) (cv pv : Nat → Value) (T T' : Nat → List Tr) : Prop where
  n2 : n ≤ 2 * N + i * 1048576 + k
  m2 : m ≤ 2 * N
  zl : ∀ i, i < n → (Z i).length ≤ 8388608
  tl : ∀ i, i < m → (T i).length ≤ 1048576
  bl' : ∀ i, i < m → ∀ s ∈ T i, s.2.2.length ≤ 8388608
  kw : KW wr W.heap.size lo lc wo wc n vals wv Z
  kr : KR wr W.heap.size co cc po pc m cv pv T T'
  x : ∀ p j q, p < n → j < m → (i < j ∨ i = j ∧ k ≤ q) → q < (T j).length → Apt (vals p) ((T j).getD q dT).2.1
  bl : Below W.heap.size W wr
theorem TlS.of {W wr : World} {t n m : Nat} {lo : Option Addr} {lc : Nat} {wo : Option Addr} {wc : Nat} {vals wv : Nat → Value} {Z : Nat → List Int} {co : Option Addr} {cc : Nat} {po : Option Addr} {pc : Nat} {cv pv : Nat → Value} {T T' : Nat → List Tr} (h : LrS W wr t n m lo lc wo wc vals wv Z co cc po pc cv pv T T') : TlS W wr t 0 0 n m lo lc wo wc vals wv Z co cc po pc cv pv T T' :=
  ⟨Nat.le_trans h.n2 (Nat.le_trans (Nat.le_add_right _ _) (Nat.le_add_right _ _)), h.m2, h.zl, h.tl, h.bl', h.kw, h.kr, fun p j _ hp hj _ hq => h.x p j hp hj _ (dT_mem hq), h.bl⟩
theorem TlS.below {W wr wx : World} {N i k n m : Nat} {lo : Option Addr} {lc : Nat} {wo : Option Addr} {wc : Nat} {vals wv : Nat → Value} {Z : Nat → List Int} {co : Option Addr} {cc : Nat} {po : Option Addr} {pc : Nat} {cv pv : Nat → Value} {T T' : Nat → List Tr} (h : TlS W wr N i k n m lo lc wo wc vals wv Z co cc po pc cv pv T T') (hb : Below wr.heap.size wr wx) : TlS W wx N i k n m lo lc wo wc vals wv Z co cc po pc cv pv T T' :=
  ⟨h.n2, h.m2, h.zl, h.tl, h.bl', h.kw.below hb, h.kr.below hb, h.x, h.bl.trans (hb.mono h.bl.size)⟩
theorem TlS.next {W wr : World} {N i k n m : Nat} {lo : Option Addr} {lc : Nat} {wo : Option Addr} {wc : Nat} {vals wv : Nat → Value} {Z : Nat → List Int} {co : Option Addr} {cc : Nat} {po : Option Addr} {pc : Nat} {cv pv : Nat → Value} {T T' : Nat → List Tr} (h : TlS W wr N i k n m lo lc wo wc vals wv Z co cc po pc cv pv T T') (hk : k ≤ 1048576) : TlS W wr N (i + 1) 0 n m lo lc wo wc vals wv Z co cc po pc cv pv T T' :=
  ⟨Nat.le_trans h.n2 (by rw [Nat.add_zero, Nat.add_mul, Nat.one_mul, ← Nat.add_assoc]; exact Nat.add_le_add_left hk _), h.m2, h.zl, h.tl, h.bl', h.kw, h.kr, fun p j q hp hj hij hq => h.x p j q hp hj (by omega) hq, h.bl⟩
theorem same_get {T T' : List Tr} (h : T'.map trun = T.map trun) {k : Nat} : (T'.getD k dT).2.2 = (T.getD k dT).2.2 := by
  have h1 : ∀ X : List Tr, trun (X.getD k dT) = (X.map trun).getD k (trun dT) := fun X => by
    simp only [List.getD, List.getElem?_map]
    cases X[k]? <;> rfl
  have h2 : trun (T'.getD k dT) = trun (T.getD k dT) := by rw [h1, h1, h]
  exact congrArg (fun r : Rn => r.2) h2
theorem pair_get {T : List Tr} (h : T.Pairwise fun s t => s.2.1.ownBlock = none ∨ s.2.1.ownBlock ≠ t.2.1.ownBlock) {k q : Nat} (hkq : k < q) (hq : q < T.length) : Apt (T.getD k dT).2.1 (T.getD q dT).2.1 := by
  have := (List.pairwise_iff_getElem.1 h) k q (by omega) hq hkq
  rw [show T.getD k dT = T[k]'(by omega) by simp [List.getD, List.getElem?_eq_getElem (show k < T.length by omega)], show T.getD q dT = T[q] by simp [List.getD, List.getElem?_eq_getElem hq]]
  exact Apt.of this
theorem TlS.step {W w w1 w2 : World} {N i k n m : Nat} {lo : Option Addr} {lc : Nat} {wo : Option Addr} {wc : Nat} {vals wv : Nat → Value} {Z : Nat → List Int} {co : Option Addr} {cc : Nat} {po : Option Addr} {pc : Nat} {cv pv : Nat → Value} {T T' : Nat → List Tr} {g1 c1 g2 c2 : Nat} {o1 o2 : Obj} (h : TlS W w N i k n m lo lc wo wc vals wv Z co cc po pc cv pv T T')
    (hi : i < m) (hk : k < (T i).length)
    (h1 : w1.ownsRow W.heap.size 26 1 (.slice (some ⟨g1, 0, none⟩) (n + 1) c1) (n + 1) ((List.range n).map vals ++ [((T i).getD k dT).2.1])) (hg1 : (w.alloc o1).grownBy w1 (Value.slice lo n lc).ownBlock) (hor1 : (Value.slice lo n lc).ownBlock = some g1 ∨ g1 = w.heap.size + 1)
    (h2 : w2.ownsRow W.heap.size 26 1 (.slice (some ⟨g2, 0, none⟩) (n + 1) c2) (n + 1) ((List.range n).map wv ++ [((T' i).getD k dT).2.1])) (hg2 : (w1.alloc o2).grownBy w2 (Value.slice wo n wc).ownBlock) (hor2 : (Value.slice wo n wc).ownBlock = some g2 ∨ g2 = w1.heap.size + 1) :
    TlS W w2 N i (k + 1) (n + 1) m (some ⟨g1, 0, none⟩) c1 (some ⟨g2, 0, none⟩) c2 (ex1 vals n ((T i).getD k dT).2.1) (ex1 wv n ((T' i).getD k dT).2.1) (ex1Z Z n ((T i).getD k dT).2.2) co cc po pc cv pv T T' := by
  have hwr1 : w1.ownsRow W.heap.size 26 1 (.slice wo n wc) n ((List.range n).map wv) := (h.kw.wrow.alloc o1).kept hg1 (Apt.of h.kw.sep).symm.l
  have hl' : k < (T' i).length := by have := congrArg List.length (h.kr.same i hi); simp only [List.length_map] at this; omega
  have hq := (h.kr.weach i hi).each _ (dT_mem hl')
  rw [same_get (h.kr.same i hi)] at hq
  have hB1 := grown_below h.bl h.bl.size h.kw.own.row hg1
  refine ⟨Nat.succ_le_succ h.n2, h.m2, all1 (fun j hj => by rw [ex1Z_lt _ _ _ hj]; exact h.zl j hj) (by rw [ex1Z_n]; exact h.bl' i hi _ (dT_mem hk)), h.tl, h.bl',
    kw_ext1 h.kw ((h.kr.each i hi).each _ (dT_mem hk)) hq (fun p hp => h.x p i k hp hi (.inr ⟨rfl, Nat.le_refl _⟩) hk) h1 hg1 hor1 h2 hg2 hor2,
    (((h.kr.alloc o1).kty (h.kw.own.row.alloc o1) (by decide) (by decide) (by decide) hg1).alloc o2).kty (hwr1.alloc o2) (by decide) (by decide) (by decide) hg2, ?_, grown_below hB1 hB1.size hwr1 hg2⟩
  refine fun p j q hp hj hij hq => all1 (P := fun p => Apt (ex1 vals n ((T i).getD k dT).2.1 p) ((T j).getD q dT).2.1) (fun p hp => by rw [ex1_lt _ _ _ hp]; exact h.x p j q hp hj (by omega) hq) ?_ p hp
  rw [ex1_n]
  rcases hij with hij | ⟨rfl, hij⟩
  · exact h.kr.bap i j hi hj (by omega) _ (dT_mem hk) _ (dT_mem hq)
  · exact pair_get (h.kr.each i hi).ap (by omega) hq
theorem own_touch {w w' : World} {B e s m n : Nat} {v : Value} {xs : List Value} {vals : Nat → Value} (h : w.ownsRow B e s v m xs) (hT : Touch n vals w w') (hne : ∀ i, i < n → v.ownBlock = none ∨ v.ownBlock ≠ (vals i).ownBlock) : w'.ownsRow B e s v m xs := by
  have hl := h.lt
  refine ⟨h.1, ?_⟩
  rcases h.2 with ⟨a, b⟩ | ⟨g, cap, cur, a, b, c, d⟩
  · exact .inl ⟨a, b⟩
  · have ho : v.ownBlock = some g := by rw [a]; rfl
    refine .inr ⟨g, cap, cur, a, b, ?_, d⟩
    rw [hT.block g (hl g ho).2 (fun i hi e => by
      rcases hne i hi with h1 | h1
      · rw [ho] at h1; cases h1
      · rw [ho, e] at h1; exact h1 rfl)]
    exact c
theorem tcells_wcs : ∀ T : List Tr, tcells T = wcs (T.map fun s => (s.1, s.2.1))
  | [] => rfl
  | t :: T => by
    have e : tcells (t :: T) = .int .u32 (t.1 : Int) :: t.2.1 :: tcells T := rfl
    rw [e, tcells_wcs T]; rfl
theorem TlS.runs {W w w' : World} {N i k n m : Nat} {lo : Option Addr} {lc : Nat} {wo : Option Addr} {wc : Nat} {vals wv : Nat → Value} {Z : Nat → List Int} {co : Option Addr} {cc : Nat} {po : Option Addr} {pc : Nat} {cv pv : Nat → Value} {T T' : Nat → List Tr} (h : TlS W w N i k n m lo lc wo wc vals wv Z co cc po pc cv pv T T') (hT : Touch n vals w w') :
    OwnR w' W.heap.size co cc m cv (fun j => (T j).map fun s => (s.1, s.2.1)) :=
  ⟨own_touch h.kr.row hT fun p hp => rows_type (by decide) h.kr.row (h.kw.own.each p hp),
    fun j hj => by
      have := own_touch (h.kr.each j hj).row hT fun p hp => rows_type (by decide) (h.kr.each j hj).row (h.kw.own.each p hp)
      rw [tcells_wcs] at this
      simpa using this,
    fun i j hi hj hij => (h.kr.apart i j hi hj hij).l⟩
theorem TlS.kbelow {W w w' : World} {N i k n m : Nat} {lo : Option Addr} {lc : Nat} {wo : Option Addr} {wc : Nat} {vals wv : Nat → Value} {Z : Nat → List Int} {co : Option Addr} {cc : Nat} {po : Option Addr} {pc : Nat} {cv pv : Nat → Value} {T T' : Nat → List Tr} (h : TlS W w N i k n m lo lc wo wc vals wv Z co cc po pc cv pv T T') (hT : Touch n vals w w') : Below W.heap.size W w' :=
  h.bl.trans (hT.below h.bl.size (fun i b hi hbk => ((h.kw.own.each i hi).lt b hbk).1))
end Go.Proofs.Ytfjnpmbkmoodnaa
