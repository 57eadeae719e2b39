import Derived.Deep.WholeRow
import Derived.Test.YtfjnpmbkmoodnaaLRunW
import Derived.Test.YtfjnpmbkmoodnaaRRs
namespace Go.Proofs.Ytfjnpmbkmoodnaa
open Go.RowKit Go.WideShapes
/-- one operation of LittleRuns' script -/
structure ROp where
  m : Bool
  fo : Option Addr
  fc : Nat
  fs : List Int
  so : Option Addr
  sc : Nat
  ts : List Int
  ro : Option Addr
  rc : Nat
  R : List Rn
structure ROp.At (x : ROp) (w : World) (b o : Nat) : Prop where
  c0 : w.cell? ⟨b, o, none⟩ = some (.bool x.m)
  c1 : w.cell? ⟨b, o + 1, none⟩ = some (.slice x.fo x.fs.length x.fc)
  c2 : w.cell? ⟨b, o + 2, none⟩ = some (.slice x.so x.ts.length x.sc)
  c3 : w.cell? ⟨b, o + 3, none⟩ = some (.slice x.ro x.R.length x.rc)
structure ROp.Ok (x : ROp) (w : World) : Prop where
  fl : x.fs.length ≤ 1048576
  fw : ∀ z ∈ x.fs, 0 ≤ z ∧ z ≤ 255
  fr : Reads w x.fo x.fs w.heap.size
  tl : x.ts.length ≤ 1048576
  tw : ∀ z ∈ x.ts, 0 ≤ z ∧ z ≤ 255
  tr : Reads w x.so x.ts w.heap.size
  rl : x.R.length ≤ 1048576
  re : ∀ r ∈ x.R, r.2.length ≤ 1048576
  ra : ∀ r ∈ x.R, r.1 ≤ 4294967295
  rw' : ∀ r ∈ x.R, ∀ z ∈ r.2, 0 ≤ z ∧ z ≤ 255
  rr : RunsR w x.ro x.R w.heap.size
def RScript (w : World) (ao : Option Addr) (n : Nat) (S : Nat → ROp) : Prop :=
  ∀ i, i < n → ∃ b off, ao = some ⟨b, off, none⟩ ∧ b < w.heap.size ∧ (S i).At w b (off + i * 4) ∧ (S i).Ok w
abbrev ropV (x : ROp) : Array Value := #[.bool x.m, .slice x.fo x.fs.length x.fc, .slice x.so x.ts.length x.sc, .slice x.ro x.R.length x.rc]
theorem ropAt {w w' : World} (x : ROp) (h : Below (w.alloc (.cells (ropV x) 29)).heap.size (w.alloc (.cells (ropV x) 29)) w') : x.At w' w.heap.size 0 := by
  have hl := (h.block w.heap.size (by simp)).trans (heap_alloc_last w _)
  constructor <;> (unfold World.cell?; simp only [hl]; rfl)
end Go.Proofs.Ytfjnpmbkmoodnaa
