import Derived.Test.YtfolcjamefgphaaIter2
import Derived.Test.YtfolcjamefgphaaCodeMath
import Derived.Test.YtfolcjamefgphaaLMark
import Derived.Laws.BytesArg
import Derived.Deep.QuietTactic
import Derived.BigQuiet
import Derived.WalkSmall
import Derived.OwnWalk
namespace Go.Proofs.Ytfolcjamefgphaa
open Go.RowKit Go.Shelf
attribute [local go_sem] Oper.semAt_some

/-- the bytes ahead of the first nought -/
def pz (zs : List Int) : List Int := zs.takeWhile fun z => z != 0
theorem pz_len (zs : List Int) : (pz zs).length ≤ zs.length := by
  unfold pz
  induction zs with
  | nil => simp
  | cons a l ih =>
    rw [List.takeWhile_cons]
    split
    · simp only [List.length_cons]; omega
    · simp
theorem pz_at (zs : List Int) (i : Nat) (h : i < (pz zs).length) : (pz zs).getD i 0 = zs.getD i 0 := by
  have hp : pz zs <+: zs := List.takeWhile_prefix _
  obtain ⟨t, ht⟩ := hp
  conv => rhs; rw [← ht]
  simp [List.getD, List.getElem?_append_left h]
theorem pz_ix (zs : List Int) (hwf : ∀ z ∈ zs, 0 ≤ z ∧ z ≤ 255) : Lib.indexByte (Lib.bytesOf zs) (0 : Int).toNat.toUInt8 = if (pz zs).length = zs.length then -1 else ((pz zs).length : Int) := by
  induction zs with
  | nil => rfl
  | cons a l ih =>
    have ih := ih (fun z hz => hwf z (by simp [hz]))
    have ha := hwf a (by simp)
    have e : Lib.bytesOf (a :: l) = UInt8.ofNat a.toNat :: Lib.bytesOf l := rfl
    rw [e, Lib.indexByte]
    by_cases h0 : a = 0
    · subst h0
      rw [if_pos (by decide)]
      rw [if_neg (by simp [pz])]
      simp [pz]
    · have h1 : (UInt8.ofNat a.toNat == (0 : Int).toNat.toUInt8) = false := by
        rw [beq_eq_false_iff_ne]
        intro hh
        have h2 := congrArg UInt8.toNat hh
        simp at h2
        omega
      have h3 : (pz (a :: l)).length = (pz l).length + 1 := by simp [pz, h0]
      rw [h1, ih, h3]
      simp only [Bool.false_eq_true, if_false, List.length_cons]
      by_cases hl : (pz l).length = l.length
      · simp [hl]
      · have h4 : ¬ (pz l).length + 1 = l.length + 1 := by omega
        have h5 : (((pz l).length : Int) == -1) = false := by rw [beq_eq_false_iff_ne]; omega
        rw [if_neg hl, h5, if_neg h4]
        simp
/-- is it shown? -/
def prn (r : Int) : Bool := r == 10 || (decide (32 ≤ r) && (decide (r < 127) || decide (159 < r)))
def gsx {s : ByteArray} (x : Cut s) : List Int := if prn x.1.2 = true then Lib.encodeRuneZ x.1.2 else [63]
def gsL {s : ByteArray} (pre : List (Cut s)) : List Int := pre.flatMap gsx
theorem gsL_snoc {s : ByteArray} (pre : List (Cut s)) (x : Cut s) : gsL (pre ++ [x]) = gsL pre ++ gsx x := by simp [gsL]
theorem isp_any (r : Int) (w : World) :
    Calls Try.prog 18 #[.int .i32 r] w fun e w' => e = .returned (.bool (prn r)) ∧ w' = w := by
  unfold prn
  by_cases h1 : r = 10
  · subst h1
    go_enter Try.func18, Try.ntmps18
    go_wp2
    go_ret
    exact ⟨rfl, rfl⟩
  · have h1' : (r == 10) = false := by simp [h1]
    rw [h1']
    by_cases h2 : 32 ≤ r
    · by_cases h3 : r < 127
      · rw [decide_eq_true h2, decide_eq_true h3]
        go_enter Try.func18, Try.ntmps18
        go_wp2
        go_ret
        exact ⟨rfl, rfl⟩
      · by_cases h4 : 159 < r
        · rw [decide_eq_true h2, decide_eq_false h3, decide_eq_true h4]
          go_enter Try.func18, Try.ntmps18
          go_wp2
          go_ret
          exact ⟨rfl, rfl⟩
        · rw [decide_eq_true h2, decide_eq_false h3, decide_eq_false h4]
          go_enter Try.func18, Try.ntmps18
          go_wp2
          go_ret
          exact ⟨rfl, rfl⟩
    · rw [decide_eq_false h2]
      go_enter Try.func18, Try.ntmps18
      go_wp2
      go_ret
      exact ⟨rfl, rfl⟩
theorem cell_al (w : World) (o : Obj) (p : Addr) (h : p.block < w.heap.size) : (w.alloc o).cell? p = w.cell? p := ((Below.refl w.heap.size w).alloc (Nat.le_refl _) o).cell h
end Go.Proofs.Ytfolcjamefgphaa
