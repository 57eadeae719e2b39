import Derived.Test.YtpndbbepfjocgaaRows
import Derived.WalkKit
import Derived.Lib.OthersKept
import Derived.Lib.Strings
namespace Go.Proofs.Ytpndbbepfjocgaa
open Go.RowKit

/-- how many bytes the thing at a place has -/
def wid (s : ByteArray) (pos : Nat) : Nat := (Utf8.decode s pos).2
/-- the number of the thing at a place -/
def numAt (s : ByteArray) (pos : Nat) : Int :=
  if (Utf8.decode s pos).1 = 65533 ∧ Lib.hasPrefix (s.data.toList.drop pos) [239, 191, 189] = false then -1 - ((s.get! pos).toNat : Int) else ((Utf8.decode s pos).1 : Int)

theorem decode_max (s : ByteArray) (pos : Nat) : (Utf8.decode s pos).1 ≤ 1114111 := by
  have hb : ∀ k, (s.get! (pos + k)).toNat < 256 := fun k => (s.get! (pos + k)).toNat_lt
  have h0 := hb 0; have h1 := hb 1; have h2 := hb 2; have h3 := hb 3
  simp only [Utf8.decode]
  repeat' split
  all_goals simp_all [Utf8.runeError, Utf8.valid]
  all_goals omega

theorem wid_pos (s : ByteArray) (pos : Nat) : 1 ≤ wid s pos := by
  unfold wid
  simp only [Utf8.decode]
  repeat' split
  all_goals simp

theorem numAt_range (s : ByteArray) (pos : Nat) : -256 ≤ numAt s pos ∧ numAt s pos ≤ 1114111 := by
  have h1 := decode_max s pos
  have h2 := (s.get! pos).toNat_lt
  unfold numAt
  split <;> omega

/-- a thing of the cutting: its place and its number -/
abbrev Cut (s : ByteArray) : Type := { x : Nat × Int // x.1 < s.size ∧ -256 ≤ x.2 ∧ x.2 ≤ 1114111 }
def cutAt (s : ByteArray) (pos : Nat) (h : pos < s.size) : Cut s := ⟨(pos, numAt s pos), h, numAt_range s pos⟩
def cutsFrom (s : ByteArray) : Nat → Nat → List (Cut s)
  | 0, _ => []
  | f + 1, pos => if h : pos < s.size then cutAt s pos h :: cutsFrom s f (pos + wid s pos) else []
def cuts (s : ByteArray) : List (Cut s) := cutsFrom s s.size 0

theorem cutsFrom_end (s : ByteArray) (f pos : Nat) (h : ¬ pos < s.size) : cutsFrom s f pos = [] := by cases f <;> simp [cutsFrom, h]
theorem cutsFrom_step (s : ByteArray) (f pos : Nat) (h : pos < s.size) : cutsFrom s (f + 1) pos = cutAt s pos h :: cutsFrom s f (pos + wid s pos) := by simp [cutsFrom, h]

end Go.Proofs.Ytpndbbepfjocgaa
