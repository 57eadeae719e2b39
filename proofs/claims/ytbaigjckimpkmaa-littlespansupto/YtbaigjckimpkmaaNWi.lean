import Derived.Test.YtbaigjckimpkmaaNKs
import Derived.Test.YtbaigjckimpkmaaNPa
import Derived.Test.YtbaigjckimpkmaaNCt
import Derived.Test.YtbaigjckimpkmaaNWd
import Derived.Test.YtbaigjckimpkmaaLLivesE
namespace Go.Proofs.Ytbaigjckimpkmaa
open Go.RowKit Go.WideShapes Go.Sort
set_option maxRecDepth 100000
theorem grownW2 (w : World) (o : Obj) (q : Nat) (os : Array Obj) : ∃ q' os', grow ((w.alloc o).drewN q) os = grow (w.drewN q') os' := ⟨q, _, by rw [alloc_eq_grow]; show grow (grow (w.drewN q) _) os = _; rw [grow_grow]⟩
set_option maxHeartbeats 1000000 in
theorem withinG_any (a b t : Nat) (w : World) (ha : a < 4294967296) (hb : b < 4294967296) (ht : t < 4294967296) :
    Calls Try.prog 6 #[.agg #[.int .u32 a, .int .u32 b], .int .u32 t] w fun e w' => e = .returned (.bool (wiB (a, b) t)) ∧ ∃ q os', w' = grow (w.drewN q) os' := by
  have hE := fun W => end_any a b W ha hb
  have hW : wiB (a, b) t = decide ((a : Int) + (b : Int) ≤ (t : Int)) := by unfold wiB; apply decide_eq_decide.2; show a + b ≤ t ↔ _; omega
  rw [hW]
  have htI : (t : Int) < 4294967296 := by omega
  clear hW
  generalize (a : Int) = a1 at *
  generalize (b : Int) = a2 at *
  clear ha hb
  go_enter Try.func6, Try.ntmps6
  go_wp2_with (go_at_call 34; with_reducible refine (hE _).mono ?_; rintro e wq ⟨rfl, q, os, hq⟩)
  go_ret
  exact ⟨rfl, grownW2 _ _ _ _⟩
set_option maxHeartbeats 1000000 in
theorem dwithinG_any (a b t : Nat) (w : World) (ha : a < 4294967296) (hb : b < 4294967296) (ht : t < 4294967296) :
    Calls Try.prog 7 #[.agg #[.int .u32 a, .int .u32 b], .int .u32 t] w fun e w' => e = .returned (.bool (wiB (a, b) t)) ∧ ∃ q os', w' = grow (w.drewN q) os' := by
  have hE := fun W => dend_any a b W ha hb
  have hW : wiB (a, b) t = decide ((a : Int) + (b : Int) ≤ (t : Int)) := by unfold wiB; apply decide_eq_decide.2; show a + b ≤ t ↔ _; omega
  rw [hW]
  have htI : (t : Int) < 4294967296 := by omega
  clear hW
  generalize (a : Int) = a1 at *
  generalize (b : Int) = a2 at *
  clear ha hb
  go_enter Try.func7, Try.ntmps7
  go_wp2_with (go_at_call 35; with_reducible refine (hE _).mono ?_; rintro e wq ⟨rfl, q, os, hq⟩)
  go_ret
  exact ⟨rfl, grownW2 _ _ _ _⟩
theorem KW.alloc {w : World} {B : Nat} {lo : Option Addr} {lc : Nat} {wo : Option Addr} {wc n : Nat} {vals wv : Nat → Value} {Z : Nat → List Int} (h : KW w B lo lc wo wc n vals wv Z) (o : Obj) : KW (w.alloc o) B lo lc wo wc n vals wv Z :=
  h.below (belS (Below.refl _ _))
theorem KS.alloc {w : World} {B : Nat} {lo : Option Addr} {lc : Nat} {wo : Option Addr} {wc n : Nat} {vals wv : Nat → Value} {Z : Nat → List (Nat × Nat)} (h : KS w B lo lc wo wc n vals wv Z) (o : Obj) : KS (w.alloc o) B lo lc wo wc n vals wv Z :=
  h.below (belS (Below.refl _ _))
theorem KW.kty {w w' : World} {B B' e s m : Nat} {lo : Option Addr} {lc : Nat} {wo : Option Addr} {wc n : Nat} {vals wv : Nat → Value} {Z : Nat → List Int} {v : Value} {xs : List Value} (h : KW w B lo lc wo wc n vals wv Z) (hv : w.ownsRow B' e s v m xs) (he1 : 32 ≠ e) (he2 : 5 ≠ e) (hg : w.grownBy w' v.ownBlock) : KW w' B lo lc wo wc n vals wv Z :=
  ⟨⟨h.own.row.kept hg (rows_type he1 h.own.row hv), fun i hi => (h.own.each i hi).kept hg (rows_type he2 (h.own.each i hi) hv), h.own.apart⟩, h.wrow.kept hg (rows_type he1 h.wrow hv), fun i hi => (h.weach i hi).kept hg (rows_type he2 (h.weach i hi) hv), h.sep⟩
theorem KS.kty {w w' : World} {B B' e s m : Nat} {lo : Option Addr} {lc : Nat} {wo : Option Addr} {wc n : Nat} {vals wv : Nat → Value} {Z : Nat → List (Nat × Nat)} {v : Value} {xs : List Value} (h : KS w B lo lc wo wc n vals wv Z) (hv : w.ownsRow B' e s v m xs) (he1 : 30 ≠ e) (he2 : 27 ≠ e) (hg : w.grownBy w' v.ownBlock) : KS w' B lo lc wo wc n vals wv Z :=
  ⟨⟨h.own.row.kept hg (rows_type he1 h.own.row hv), fun i hi => (h.own.each i hi).kept hg (rows_type he2 (h.own.each i hi) hv), h.own.apart⟩, h.wrow.kept hg (rows_type he1 h.wrow hv), fun i hi => (h.weach i hi).kept hg (rows_type he2 (h.weach i hi) hv), h.sep⟩
structure SOp where
  C : Int
  a1 : Nat
  a2 : Nat
  b1 : Nat
  b2 : Nat
  tt : Nat
  so : Option Addr
  sc : Nat
  L : List (Nat × Nat)
  f : Nat
  jo : Option Addr
  jc : Nat
  J : List Nat
  zo : Option Addr
  zc : Nat
  zs : List Int
structure SOp.At (x : SOp) (w : World) (b o : Nat) : Prop where
  c0 : w.cell? ⟨b, o, none⟩ = some (.int .i64 x.C)
  c1 : w.cell? ⟨b, o + 1, none⟩ = some (.int .u32 x.a1)
  c2 : w.cell? ⟨b, o + 2, none⟩ = some (.int .u32 x.a2)
  c3 : w.cell? ⟨b, o + 3, none⟩ = some (.int .u32 x.b1)
  c4 : w.cell? ⟨b, o + 4, none⟩ = some (.int .u32 x.b2)
  c5 : w.cell? ⟨b, o + 5, none⟩ = some (.int .u32 x.tt)
  c6 : w.cell? ⟨b, o + 6, none⟩ = some (.slice x.so x.L.length x.sc)
  c7 : w.cell? ⟨b, o + 7, none⟩ = some (.int .u32 x.f)
  c8 : w.cell? ⟨b, o + 8, none⟩ = some (.slice x.jo x.J.length x.jc)
  c9 : w.cell? ⟨b, o + 9, none⟩ = some (.slice x.zo x.zs.length x.zc)
structure SOp.Ok (x : SOp) (w : World) : Prop where
  a : x.a1 < 4294967296 ∧ x.a2 < 4294967296
  b : x.b1 < 4294967296 ∧ x.b2 < 4294967296
  t : x.tt < 4294967296
  f : x.f < 4294967296
  sl : x.L.length ≤ 1048576
  sw : Wfs x.L
  sr : SRd w x.so x.L w.heap.size
  jl : x.J.length ≤ 1048576
  jw : ∀ z ∈ x.J, z < 4294967296
  jr : JRd w x.jo x.J w.heap.size
  zl : x.zs.length ≤ 1048576
  zw : ∀ z ∈ x.zs, 0 ≤ z ∧ z ≤ 255
  zr : Reads w x.zo x.zs w.heap.size
def SScript (w : World) (ao : Option Addr) (n : Nat) (S : Nat → SOp) : Prop :=
  ∀ i, i < n → ∃ b off, ao = some ⟨b, off, none⟩ ∧ b < w.heap.size ∧ (S i).At w b (off + i * 10) ∧ (S i).Ok w
abbrev opV (x : SOp) : Array Value := #[.int .i64 x.C, .int .u32 x.a1, .int .u32 x.a2, .int .u32 x.b1, .int .u32 x.b2, .int .u32 x.tt, .slice x.so x.L.length x.sc, .int .u32 x.f, .slice x.jo x.J.length x.jc, .slice x.zo x.zs.length x.zc]
theorem opAt {w w' : World} (x : SOp) (h : Below (w.alloc (.cells (opV x) 34)).heap.size (w.alloc (.cells (opV x) 34)) w') : x.At w' w.heap.size 0 := by
  have hl := (h.block w.heap.size (by simp)).trans (heap_alloc_last w _)
  constructor <;> (unfold World.cell?; simp only [hl]; rfl)
end Go.Proofs.Ytbaigjckimpkmaa
