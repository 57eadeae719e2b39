import Derived.Test.YtncankiaobioaaaDoorFDecm
import Derived.Test.YtncankiaobioaaaDoorShelf
import Derived.Lib.ItoaLen
import Derived.Lib.OthersKept
namespace Go.Proofs.YtncankiaobioaaaDoor
open Go.RowKit
set_option maxRecDepth 100000
/-! texts made of lists of bytes -/
def str (L : List UInt8) : ByteArray := ⟨L.toArray⟩
theorem str_size (L : List UInt8) : (str L).size = L.length := by simp [str, ByteArray.size]
theorem str_append (A B : List UInt8) : str A ++ str B = str (A ++ B) := by
  apply ByteArray.ext
  simp [str]
theorem dec_len (u : Nat) (h : u < 18446744073709551616) : 1 ≤ (Lib.decDigits u).length ∧ (Lib.decDigits u).length ≤ 20 := by
  have h1 := Lib.nDigits_le20 u h
  rw [Lib.decDigits_length]
  refine ⟨?_, h1⟩
  rw [Lib.nDigits]; split <;> omega
/-- the table that the library reads -/
def Tb (w : World) : Prop := Lib.TabIs Tryd.prog w "internal/strconv.uint64pow10" .u64 Lib.pow10Tab
theorem Tb.below {w w' : World} {B : Nat} (h : Tb w) (hb : Below B w w') (hB : w.heap.size ≤ B) : Tb w' := by
  unfold Tb Lib.TabIs World.var? at *
  cases hg : Tryd.prog.globalNamed "internal/strconv.uint64pow10" with
  | none => simp [hg] at h
  | some g =>
    simp only [hg, Option.bind_some] at h ⊢
    have hlt : g < w.heap.size := by
      rcases Nat.lt_or_ge g w.heap.size with h' | h'
      · exact h'
      · rw [Array.getElem?_eq_none h'] at h; simp at h
    rw [hb.block g (by omega)]; exact h
theorem grow_below (w : World) (k : Nat) (os : Array Obj) : Below w.heap.size w (Go.Sort.grow (w.drewN k) os) := by
  refine ⟨rfl, rfl, rfl, ?_, ?_⟩
  · simp [Go.Sort.grow]
  · intro i hi
    simp [Go.Sort.grow]
    rw [Array.getElem?_append_left (by simpa using hi)]
def sgd (x : Nat) : Int := if x < 2147483648 then (x : Int) else (x : Int) - 4294967296
set_option maxRecDepth 100000 in
set_option maxHeartbeats 2000000 in
theorem signed_any (x : Nat) (w : World) (hx : x < 4294967296) (ht : Tb w) :
    Calls Tryd.prog 14 #[.int .u32 x] w fun e w' => e = .returned (.string (str (Lib.itoa (sgd x)))) ∧ Below w.heap.size w w' := by
  have h1 : IntKind.i32.wrap (x : Int) = sgd x := by
    unfold sgd; rw [IntKind.wrap_i32]; split <;> omega
  have h2 : -2147483648 ≤ sgd x ∧ sgd x < 2147483648 := by unfold sgd; split <;> omega
  obtain ⟨h2, h3⟩ := h2
  generalize sgd x = n at *
  go_enter Tryd.func14, Tryd.ntmps14
  go_wp2_with (go_at_call 20; refine (Tryd.strconv_Itoa n (by omega) (by omega) _ ht).mono ?_; rintro e w1 ⟨rfl, k, os, hq⟩; subst hq)
  go_ret
  exact ⟨rfl, grow_below _ _ _⟩
theorem itoa_pos (x : Nat) (h : x < 2147483648) : Lib.itoa (sgd x) = Lib.decDigits x := by
  unfold sgd Lib.itoa
  rw [if_pos h, if_neg (by omega)]; rfl
theorem itoa_neg (x : Nat) (h : ¬ x < 2147483648) (hx : x < 4294967296) : Lib.itoa (sgd x) = 45 :: Lib.decDigits (4294967296 - x) := by
  unfold sgd Lib.itoa
  rw [if_neg h, if_pos (by omega), show ((x : Int) - 4294967296).natAbs = 4294967296 - x by omega]
theorem itoa_len (x : Nat) (hx : x < 4294967296) : (Lib.itoa (sgd x)).length ≤ 21 := by
  by_cases h : x < 2147483648
  · rw [itoa_pos x h]; have := (dec_len x (by omega)).2; omega
  · rw [itoa_neg x h hx]; have := (dec_len (4294967296 - x) (by omega)).2; simp; omega
set_option maxRecDepth 100000 in
set_option maxHeartbeats 1000000 in
theorem dsigned_any (x : Nat) (w : World) (hx : x < 4294967296) :
    Calls Tryd.prog 10 #[.int .u32 x] w fun e w' => e = .returned (.string (str (Lib.itoa (sgd x)))) ∧ Below w.heap.size w w' := by
  by_cases h : x < 2147483648
  · rw [itoa_pos x h]
    have hd : decide ((2147483648 : Int) ≤ (x : Int)) = false := decide_eq_false (by omega)
    have hd2 : ¬ ((2147483648 : Int) ≤ (x : Int)) := by omega
    go_enter Tryd.func10, Tryd.ntmps10
    go_wp2_with (first
      | (go_at_call 17; refine (dnat_any x _ hx).mono ?_; rintro e w1 ⟨⟨v, rfl, hv⟩, hb1⟩)
      | (go_at_call 16; refine (decimal_any v x _ hx hv).mono ?_; rintro e w2 ⟨rfl, hb2⟩))
    go_ret
    exact ⟨rfl, hb1.trans (hb2.mono hb1.size)⟩
  · rw [itoa_neg x h hx]
    obtain ⟨y, hy⟩ : ∃ y, 4294967296 - x = y := ⟨_, rfl⟩
    have hy1 : y < 4294967296 := by omega
    have hyi : 4294967296 - (x : Int) = (y : Int) := by omega
    have hd2 : ((2147483648 : Int) ≤ (x : Int)) := by omega
    rw [hy]
    have hl := (dec_len y (by omega)).2
    have hsz : (str (Lib.decDigits y)).size ≤ 20 := by rw [str_size]; exact hl
    have HS : Hid ((⟨#[45]⟩ : ByteArray) ++ str (Lib.decDigits y) = str (45 :: Lib.decDigits y)) := str_append [45] _
    have HD : ∀ v w, AV w v y → Calls Tryd.prog 16 #[v] w fun e w' => e = .returned (.string (str (Lib.decDigits y))) ∧ Below w.heap.size w w' := fun v w hv => decimal_any v y w hy1 hv
    clear hl hy
    generalize str (Lib.decDigits y) = D at *
    go_enter Tryd.func10, Tryd.ntmps10
    go_wp2_with (first
      | (go_at_call 17; refine (dnat_any y _ hy1).mono ?_; rintro e w1 ⟨⟨v, rfl, hv⟩, hb1⟩)
      | (go_at_call 16; refine (HD v _ hv).mono ?_; rintro e w2 ⟨rfl, hb2⟩))
    go_ret
    exact ⟨by rw [← HS.out]; rfl, hb1.trans (hb2.mono hb1.size)⟩
end Go.Proofs.YtncankiaobioaaaDoor
