import Derived.Test.YtfjnpmbkmoodnaaRKe
import Derived.Test.YtfjnpmbkmoodnaaLLivesE
import Derived.Test.YtfjnpmbkmoodnaaRUn
import Derived.Test.YtfjnpmbkmoodnaaRKp
import Derived.Test.YtfjnpmbkmoodnaaLApR
import Derived.Test.YtfjnpmbkmoodnaaLMend
import Derived.Test.YtfjnpmbkmoodnaaLRefM
import Derived.Test.YtfjnpmbkmoodnaaROw
namespace Go.Proofs.Ytfjnpmbkmoodnaa
open Go.RowKit Go.WideShapes
set_option maxRecDepth 100000
theorem KW.alloc {w : World} {B : Nat} {lo : Option Addr} {lc : Nat} {wo : Option Addr} {wc n : Nat} {vals wv : Nat → Value} {Z : Nat → List Int} (h : KW w B lo lc wo wc n vals wv Z) (o : Obj) : KW (w.alloc o) B lo lc wo wc n vals wv Z :=
  h.below (belS (Below.refl _ _))
theorem KW.kty {w w' : World} {B B' e s m : Nat} {lo : Option Addr} {lc : Nat} {wo : Option Addr} {wc n : Nat} {vals wv : Nat → Value} {Z : Nat → List Int} {v : Value} {xs : List Value} (h : KW w B lo lc wo wc n vals wv Z) (hv : w.ownsRow B' e s v m xs) (he1 : 26 ≠ e) (he2 : 5 ≠ e) (hg : w.grownBy w' v.ownBlock) : KW w' B lo lc wo wc n vals wv Z :=
  ⟨⟨h.own.row.kept hg (rows_type he1 h.own.row hv), fun i hi => (h.own.each i hi).kept hg (rows_type he2 (h.own.each i hi) hv), h.own.apart⟩, h.wrow.kept hg (rows_type he1 h.wrow hv), fun i hi => (h.weach i hi).kept hg (rows_type he2 (h.weach i hi) hv), h.sep⟩
/-- the lists of runs that are kept, and what they are to be -/
structure KR (w : World) (B : Nat) (lo : Option Addr) (lc : Nat) (wo : Option Addr) (wc n : Nat) (vals wv : Nat → Value) (T T' : Nat → List Tr) : Prop where
  row : w.ownsRow B 27 1 (.slice lo n lc) n ((List.range n).map vals)
  each : ∀ i, i < n → OwnRuns w B (vals i) (T i)
  wrow : w.ownsRow B 27 1 (.slice wo n wc) n ((List.range n).map wv)
  weach : ∀ i, i < n → OwnRuns w B (wv i) (T' i)
  same : ∀ i, i < n → (T' i).map trun = (T i).map trun
  apart : ∀ i j, i < n → j < n → i ≠ j → Apt (vals i) (vals j)
  bap : ∀ i j, i < n → j < n → i ≠ j → ∀ s ∈ T i, ∀ t ∈ T j, Apt s.2.1 t.2.1
  sep : Apt (.slice lo n lc) (.slice wo n wc)
theorem KR.below {w w' : World} {B : Nat} {lo : Option Addr} {lc : Nat} {wo : Option Addr} {wc n : Nat} {vals wv : Nat → Value} {T T' : Nat → List Tr} (h : KR w B lo lc wo wc n vals wv T T') (hb : Below w.heap.size w w') : KR w' B lo lc wo wc n vals wv T T' :=
  ⟨own_below h.row hb, fun i hi => (h.each i hi).kept hb, own_below h.wrow hb, fun i hi => (h.weach i hi).kept hb, h.same, h.apart, h.bap, h.sep⟩
theorem KR.alloc {w : World} {B : Nat} {lo : Option Addr} {lc : Nat} {wo : Option Addr} {wc n : Nat} {vals wv : Nat → Value} {T T' : Nat → List Tr} (h : KR w B lo lc wo wc n vals wv T T') (o : Obj) : KR (w.alloc o) B lo lc wo wc n vals wv T T' :=
  h.below (belS (Below.refl _ _))
theorem OwnRuns.kty {w w' : World} {B B' e s m : Nat} {u v : Value} {T : List Tr} {xs : List Value} (h : OwnRuns w B u T) (hv : w.ownsRow B' e s v m xs) (he1 : 48 ≠ e) (he2 : 5 ≠ e) (hg : w.grownBy w' v.ownBlock) : OwnRuns w' B u T :=
  ⟨h.row.kept hg (rows_type he1 h.row hv), fun t ht => (h.each t ht).kept hg (rows_type he2 (h.each t ht) hv), h.ap⟩
theorem KR.kty {w w' : World} {B B' e s m : Nat} {lo : Option Addr} {lc : Nat} {wo : Option Addr} {wc n : Nat} {vals wv : Nat → Value} {T T' : Nat → List Tr} {v : Value} {xs : List Value} (h : KR w B lo lc wo wc n vals wv T T') (hv : w.ownsRow B' e s v m xs) (he0 : 27 ≠ e) (he1 : 48 ≠ e) (he2 : 5 ≠ e) (hg : w.grownBy w' v.ownBlock) : KR w' B lo lc wo wc n vals wv T T' :=
  ⟨h.row.kept hg (rows_type he0 h.row hv), fun i hi => (h.each i hi).kty hv he1 he2 hg, h.wrow.kept hg (rows_type he0 h.wrow hv), fun i hi => (h.weach i hi).kty hv he1 he2 hg, h.same, h.apart, h.bap, h.sep⟩
theorem OwnRuns.over {w w' : World} {B B' m g c : Nat} {u : Value} {T : List Tr} {xs : List Value} (h : OwnRuns w B u T) (hf : w.ownsRow B' 5 1 (.slice (some ⟨g, 0, none⟩) m c) m xs) (hg : w.grownBy w' (some g)) (hne : ∀ t ∈ T, t.2.1.ownBlock ≠ some g) : OwnRuns w' B u T :=
  ⟨h.row.kept hg (by have := rows_type (e := 48) (e' := 5) (by decide) h.row hf; simpa [Value.ownBlock] using this), fun t ht => (h.each t ht).kept hg (.inr (hne t ht)), h.ap⟩
theorem KR.over {w w' : World} {B B' m g c : Nat} {lo : Option Addr} {lc : Nat} {wo : Option Addr} {wc n : Nat} {vals wv : Nat → Value} {T T' : Nat → List Tr} {xs : List Value} (h : KR w B lo lc wo wc n vals wv T T') (hf : w.ownsRow B' 5 1 (.slice (some ⟨g, 0, none⟩) m c) m xs) (hg : w.grownBy w' (some g))
    (hne : ∀ i, i < n → (∀ t ∈ T i, t.2.1.ownBlock ≠ some g) ∧ (∀ t ∈ T' i, t.2.1.ownBlock ≠ some g)) : KR w' B lo lc wo wc n vals wv T T' := by
  refine ⟨h.row.kept hg ?_, fun i hi => (h.each i hi).over hf hg (hne i hi).1, h.wrow.kept hg ?_, fun i hi => (h.weach i hi).over hf hg (hne i hi).2, h.same, h.apart, h.bap, h.sep⟩
  · have := rows_type (e := 27) (e' := 5) (by decide) h.row hf
    simpa [Value.ownBlock] using this
  · have := rows_type (e := 27) (e' := 5) (by decide) h.wrow hf
    simpa [Value.ownBlock] using this
def ext2 (T : Nat → List Tr) (n : Nat) (a b : List Tr) : Nat → List Tr := fun i => if i = n then a else if i = n + 1 then b else T i
theorem ext2_lt (T : Nat → List Tr) (n : Nat) (a b : List Tr) {i : Nat} (h : i < n) : ext2 T n a b i = T i := by
  simp only [ext2]; rw [if_neg (by omega), if_neg (by omega)]
theorem ext2_n (T : Nat → List Tr) (n : Nat) (a b : List Tr) : ext2 T n a b n = a := by simp [ext2]
theorem ext2_n1 (T : Nat → List Tr) (n : Nat) (a b : List Tr) : ext2 T n a b (n + 1) = b := by simp [ext2]
theorem ext_n (V : Nat → Value) (n : Nat) (a b : Value) : ext V n a b n = a := by simp [ext]
theorem ext_n1 (V : Nat → Value) (n : Nat) (a b : Value) : ext V n a b (n + 1) = b := by simp [ext]
/-- below n + 2: below n, n, or n + 1 -/
theorem lt2 {n i : Nat} (h : i < n + 2) : i < n ∨ i = n ∨ i = n + 1 := by omega
theorem all2 {n : Nat} {P : Nat → Prop} (h : ∀ i, i < n → P i) (h0 : P n) (h1 : P (n + 1)) : ∀ i, i < n + 2 → P i := fun i hi => by
  rcases lt2 hi with h' | rfl | rfl
  · exact h i h'
  · exact h0
  · exact h1
theorem sym2 {n : Nat} {P : Nat → Nat → Prop} (hs : ∀ i j, P i j → P j i) (h : ∀ i j, i < n → j < n → i ≠ j → P i j) (h0 : ∀ i, i < n → P i n) (h1 : ∀ i, i < n → P i (n + 1)) (h2 : P n (n + 1)) : ∀ i j, i < n + 2 → j < n + 2 → i ≠ j → P i j := fun i j hi hj hij => by
  rcases lt2 hi with hi' | rfl | rfl <;> rcases lt2 hj with hj' | rfl | rfl
  · exact h i j hi' hj' hij
  · exact h0 i hi'
  · exact h1 i hi'
  · exact hs _ _ (h0 j hj')
  · exact absurd rfl hij
  · exact h2
  · exact hs _ _ (h1 j hj')
  · exact hs _ _ h2
  · exact absurd rfl hij
theorem kr_ext {w w1 w2 : World} {B : Nat} {lo wo : Option Addr} {lc wc n g1 c1 g2 c2 : Nat} {vals wv : Nat → Value} {T T' : Nat → List Tr} {a b q : Value} {Ta Tb Tq : List Tr} {o1 o2 : Obj} (h : KR w B lo lc wo wc n vals wv T T')
    (ha : OwnRuns w B a Ta) (hb : OwnRuns w B b Tb) (hq : OwnRuns w B q Tq) (hsa : Tq.map trun = Ta.map trun) (hsb : Tq.map trun = Tb.map trun)
    (hab : Apt a b) (hva : ∀ i, i < n → Apt (vals i) a) (hvb : ∀ i, i < n → Apt (vals i) b)
    (hxab : ∀ s ∈ Ta, ∀ t ∈ Tb, Apt s.2.1 t.2.1) (hxa : ∀ i, i < n → ∀ s ∈ T i, ∀ t ∈ Ta, Apt s.2.1 t.2.1) (hxb : ∀ i, i < n → ∀ s ∈ T i, ∀ t ∈ Tb, Apt s.2.1 t.2.1)
    (h1 : w1.ownsRow B 27 1 (.slice (some ⟨g1, 0, none⟩) (n + 2) c1) (n + 2) ((List.range n).map vals ++ [a, b])) (hg1 : (w.alloc o1).grownBy w1 (Value.slice lo n lc).ownBlock) (hor1 : (Value.slice lo n lc).ownBlock = some g1 ∨ g1 = w.heap.size + 1)
    (h2 : w2.ownsRow B 27 1 (.slice (some ⟨g2, 0, none⟩) (n + 2) c2) (n + 2) ((List.range n).map wv ++ [q, q])) (hg2 : (w1.alloc o2).grownBy w2 (Value.slice wo n wc).ownBlock) (hor2 : (Value.slice wo n wc).ownBlock = some g2 ∨ g2 = w1.heap.size + 1) :
    KR w2 B (some ⟨g1, 0, none⟩) c1 (some ⟨g2, 0, none⟩) c2 (n + 2) (ext vals n a b) (ext wv n q q) (ext2 T n Ta Tb) (ext2 T' n Tq Tq) := by
  have hsep := h.sep
  have hwr1 : w1.ownsRow B 27 1 (.slice wo n wc) n ((List.range n).map wv) := (h.wrow.alloc o1).kept hg1 hsep.symm.l
  have step : ∀ {v : Value} {X : List Tr}, OwnRuns w B v X → OwnRuns w2 B v X := fun {v X} hv => by
    have k1 : OwnRuns w1 B v X := OwnRuns.kty (hv.kept (belS (Below.refl _ _))) (h.row.alloc o1) (by decide) (by decide) hg1
    exact OwnRuns.kty (k1.kept (belS (Below.refl _ _))) (hwr1.alloc o2) (by decide) (by decide) hg2
  have hne1 : Apt (.slice (some ⟨g1, 0, none⟩) (n + 2) c1) (.slice wo n wc) := fun b hb1 hb2 => by
    have hgb : g1 = b := by simpa [Value.ownBlock] using hb1
    subst hgb
    rcases hor1 with h' | h'
    · exact hsep _ h' hb2
    · have := (h.wrow.lt _ hb2).2; omega
  refine ⟨?_, ?_, ?_, ?_, ?_, ?_, ?_, ?_⟩
  · rw [ext_range]; exact (h1.alloc o2).kept hg2 hne1.l
  · exact all2 (fun i hi => by rw [ext_lt _ _ _ _ hi, ext2_lt _ _ _ _ hi]; exact step (h.each i hi)) (by rw [ext_n, ext2_n]; exact step ha) (by rw [ext_n1, ext2_n1]; exact step hb)
  · rw [ext_range]; exact h2
  · exact all2 (fun i hi => by rw [ext_lt _ _ _ _ hi, ext2_lt _ _ _ _ hi]; exact step (h.weach i hi)) (by rw [ext_n, ext2_n]; exact step hq) (by rw [ext_n1, ext2_n1]; exact step hq)
  · exact all2 (fun i hi => by rw [ext2_lt _ _ _ _ hi, ext2_lt _ _ _ _ hi]; exact h.same i hi) (by rw [ext2_n, ext2_n]; exact hsa) (by rw [ext2_n1, ext2_n1]; exact hsb)
  · refine sym2 (fun i j => Apt.symm) (fun i j hi hj hij => by rw [ext_lt _ _ _ _ hi, ext_lt _ _ _ _ hj]; exact h.apart i j hi hj hij) (fun i hi => by rw [ext_lt _ _ _ _ hi, ext_n]; exact hva i hi) (fun i hi => by rw [ext_lt _ _ _ _ hi, ext_n1]; exact hvb i hi) (by rw [ext_n, ext_n1]; exact hab)
  · refine sym2 (P := fun i j => ∀ s ∈ ext2 T n Ta Tb i, ∀ t ∈ ext2 T n Ta Tb j, Apt s.2.1 t.2.1) (fun i j hP s hs t ht => (hP t ht s hs).symm) (fun i j hi hj hij => by rw [ext2_lt _ _ _ _ hi, ext2_lt _ _ _ _ hj]; exact h.bap i j hi hj hij) (fun i hi => by rw [ext2_lt _ _ _ _ hi, ext2_n]; exact hxa i hi) (fun i hi => by rw [ext2_lt _ _ _ _ hi, ext2_n1]; exact hxb i hi) (by rw [ext2_n, ext2_n1]; exact hxab)
  · refine fun b hb1 hb2 => ?_
    have hgb : g2 = b := by simpa [Value.ownBlock] using hb2
    subst hgb
    rcases hor2 with h' | h'
    · exact hne1 _ hb1 h'
    · have hgb1 : g1 = g2 := by simpa [Value.ownBlock] using hb1
      have := (h1.lt g1 rfl).2
      omega
/-- what abides in the law's loop -/
structure LrS (W : World) (wr : World) (t n m : Nat) (lo : Option Addr) (lc : Nat) (wo : Option Addr) (wc : Nat) (vals wv : Nat → Value) (Z : Nat → List Int) (co : Option Addr) (cc : Nat) (po : Option Addr) (pc : Nat) (cv pv : Nat → Value) (T T' : Nat → List Tr) : Prop where
  n2 : n ≤ 2 * t
  m2 : m ≤ 2 * t
  zl : ∀ i, i < n → (Z i).length ≤ 8388608
  tl : ∀ i, i < m → (T i).length ≤ 1048576
  bl' : ∀ i, i < m → ∀ s ∈ T i, s.2.2.length ≤ 8388608
  kw : KW wr W.heap.size lo lc wo wc n vals wv Z
  kr : KR wr W.heap.size co cc po pc m cv pv T T'
  x : ∀ i j, i < n → j < m → ∀ s ∈ T j, Apt (vals i) s.2.1
  bl : Below W.heap.size W wr
theorem LrS.below {W wr wx : World} {t n m : Nat} {lo : Option Addr} {lc : Nat} {wo : Option Addr} {wc : Nat} {vals wv : Nat → Value} {Z : Nat → List Int} {co : Option Addr} {cc : Nat} {po : Option Addr} {pc : Nat} {cv pv : Nat → Value} {T T' : Nat → List Tr} (h : LrS W wr t n m lo lc wo wc vals wv Z co cc po pc cv pv T T') (hb : Below wr.heap.size wr wx) : LrS W wx t n m lo lc wo wc vals wv Z co cc po pc cv pv T T' :=
  ⟨h.n2, h.m2, h.zl, h.tl, h.bl', h.kw.below hb, h.kr.below hb, h.x, h.bl.trans (hb.mono h.bl.size)⟩
end Go.Proofs.Ytfjnpmbkmoodnaa
