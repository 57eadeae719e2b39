import Derived.Test.YtldeodnlppjbcaaKFb
import Derived.Test.YtldeodnlppjbcaaFirst
import Derived.Test.YtldeodnlppjbcaaRune
import Derived.Test.YtldeodnlppjbcaaBBytes
import Derived.Lib.SlicesS
namespace Go.Proofs.Ytldeodnlppjbcaa
open Go.RowKit
set_option maxRecDepth 100000

/-- where a comment ends -/
def lnI (s : ByteArray) (a : Nat) : Int := Lib.indexByte (sub s a).data.toList 10
def lnEnd (s : ByteArray) (a : Nat) : Nat := if 0 ≤ lnI s a then a + (lnI s a).toNat else s.size
/-- where a figure ends -/
def hexP (s : ByteArray) (a : Nat) : Bool := Lib.hasPrefix (sub s a).data.toList [48, 120] || Lib.hasPrefix (sub s a).data.toList [48, 88]
def powL (h : Bool) (c : Nat) : Bool := if h then (decide (c = 112) || decide (c = 80)) else (decide (c = 101) || decide (c = 69))
def figC (s : ByteArray) (h : Bool) (i : Nat) : Bool := figL (bt s i) || (pmL (bt s i) && powL h (bt s (i - 1)))
def figF (s : ByteArray) (h : Bool) : Nat → Nat → Nat
  | 0, i => i
  | f + 1, i => if i < s.size ∧ figC s h i = true then figF s h f (i + 1) else i
def fgEnd (s : ByteArray) (a : Nat) : Nat := figF s (hexP s a) s.size (a + 1)
theorem figF_stop (s : ByteArray) (h : Bool) (f i : Nat) (hi : ¬ (i < s.size ∧ figC s h i = true)) : figF s h f i = i := by
  cases f with
  | zero => rfl
  | succ f => simp only [figF]; rw [if_neg hi]
theorem figF_step (s : ByteArray) (h : Bool) (f i : Nat) (hi : i < s.size) (hc : figC s h i = true) (hf : s.size - i ≤ f) : ∃ g, s.size - (i + 1) ≤ g ∧ figF s h f i = figF s h g (i + 1) := by
  cases f with
  | zero => omega
  | succ f => exact ⟨f, by omega, by simp only [figF]; rw [if_pos ⟨hi, hc⟩]⟩
/-- where a name ends -/
def nameL (n : Int) : Bool := decide (n = 95) || letterL n || digitL n
def nmO (t : ByteArray) : Nat := match (cuts t).find? (fun x => !nameL x.1.2) with
  | some x => x.1.1
  | none => t.size
def nmEnd (s : ByteArray) (a : Nat) : Nat := a + nmO (sub s a)
/-- what a literal is: kind, end, the fault's place, the error -/
def litV (s : ByteArray) (a : Nat) : Nat × Nat × Int × Int :=
  if litEnd s a = a then (0, 0, a, 11)
  else if bt s a = 34 then (if (bV (s.extract a (litEnd s a))).2.2 = 0 then (3, litEnd s a, 0, 0) else (0, 0, a + (bV (s.extract a (litEnd s a))).2.1, (bV (s.extract a (litEnd s a))).2.2))
  else (if (runeV (s.extract a (litEnd s a))).2.2 = 0 then (4, litEnd s a, 0, 0) else (0, 0, a + (runeV (s.extract a (litEnd s a))).2.1, (runeV (s.extract a (litEnd s a))).2.2))
/-- how long the sign at a place is -/
def sgF (s : ByteArray) (G : List ByteArray) (a : Nat) : Nat → Nat
  | 0 => 0
  | k + 1 => if Lib.containsS G (s.extract a (a + (k + 1))) = true then k + 1 else sgF s G a k
def sgL (s : ByteArray) (G : List ByteArray) (a : Nat) : Nat := sgF s G a (min 3 (s.size - a))
/-- a step: what (0: nothing, 1: a token, 2: a fault), kind, where it goes on, the fault's place, the error -/
structure Stp where
  what : Nat
  kind : Nat
  go : Nat
  place : Int
  err : Int
def stp (s : ByteArray) (G : List ByteArray) (a : Nat) : Stp :=
  if firstN (sub s a) = 9 ∨ firstN (sub s a) = 13 ∨ firstN (sub s a) = 32 then ⟨0, 0, a + 1, 0, 0⟩
  else if firstN (sub s a) = 35 then ⟨0, 0, lnEnd s a, 0, 0⟩
  else if firstN (sub s a) = 10 then ⟨1, 6, a + 1, 0, 0⟩
  else if firstN (sub s a) = 95 ∨ letterL (firstN (sub s a)) = true then ⟨1, 1, nmEnd s a, 0, 0⟩
  else if digitL (firstN (sub s a)) = true then ⟨1, 2, fgEnd s a, 0, 0⟩
  else if firstN (sub s a) = 34 ∨ firstN (sub s a) = 39 then (if (litV s a).2.2.2 = 0 then ⟨1, (litV s a).1, (litV s a).2.1, 0, 0⟩ else ⟨2, 0, 0, (litV s a).2.2.1, (litV s a).2.2.2⟩)
  else if sgL s G a = 0 then ⟨2, 0, 0, a, if firstN (sub s a) < 0 then 13 else 10⟩
  else ⟨1, 5, a + sgL s G a, 0, 0⟩
/-- a token: kind, place, end -/
abbrev Tk := Nat × Nat × Nat
def cutF (s : ByteArray) (G : List ByteArray) : Nat → Nat → List Tk → List Tk × Int × Int
  | 0, _, L => (L, 0, 0)
  | f + 1, a, L => if a < s.size then (if (stp s G a).what = 0 then cutF s G f (stp s G a).go L else if (stp s G a).what = 1 then cutF s G f (stp s G a).go (L ++ [((stp s G a).kind, a, (stp s G a).go)]) else ([], (stp s G a).place, (stp s G a).err)) else (L, 0, 0)
def cutV (s : ByteArray) (G : List ByteArray) : List Tk × Int × Int := if 524288 < s.size then ([], 524288, 15) else cutF s G s.size 0 []
/-- tokens as values -/
def tkV (s : ByteArray) (x : Tk) : List Value := [.int .u8 x.1, .int .i64 x.2.1, .string (s.extract x.2.1 x.2.2)]
def tv (s : ByteArray) (L : List Tk) : List Value := (L.map (tkV s)).flatten
theorem tv_append (s : ByteArray) (L M : List Tk) : tv s (L ++ M) = tv s L ++ tv s M := by simp [tv]
theorem tv_len (s : ByteArray) (L : List Tk) : (tv s L).length = 3 * L.length := by
  induction L with
  | nil => rfl
  | cons x L ih => rw [show tv s (x :: L) = tkV s x ++ tv s L from rfl, List.length_append, ih, List.length_cons]; simp [tkV]; omega
end Go.Proofs.Ytldeodnlppjbcaa
