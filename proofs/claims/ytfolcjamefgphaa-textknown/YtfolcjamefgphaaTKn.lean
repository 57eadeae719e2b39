import Derived.Test.YtfolcjamefgphaaKAw
import Derived.Test.YtfolcjamefgphaaWhere
import Derived.Test.YtfolcjamefgphaaTShw
import Derived.Test.YtfolcjamefgphaaGtB
namespace Go.Proofs.Ytfolcjamefgphaa
open Go.RowKit
set_option maxRecDepth 100000

theorem belT {a w : World} {o : Obj} (h : Below a.heap.size a w) : Below a.heap.size a (w.alloc o) := h.alloc h.size o
theorem btT {w a b : World} (h1 : Below w.heap.size w a) (h2 : Below a.heap.size a b) : Below w.heap.size w b := h1.trans (h2.mono h1.size)
/-- Tokens with two signs that are written down -/
theorem tok_two (s x y : ByteArray) (R : List Tk × Int × Int) (w : World) (hR : toV s [x, y] = R) (hs : s.size ≤ 9223372036854775807) (hx : x.size ≤ 9223372036854775807) (hy : y.size ≤ 9223372036854775807) :
    Calls Try.prog 5 #[.string s, .slice (some ⟨w.heap.size, 0, none⟩) 2 2] (w.alloc (.cells #[.string x, .string y] 9)) fun e w' => ∃ v, e = .returned (.tuple #[v, .int .i64 R.2.1, .int .i64 R.2.2]) ∧ w'.ownsRow (w.alloc (.cells #[.string x, .string y] 9)).heap.size 30 3 v R.1.length (tv s R.1) ∧ Below (w.alloc (.cells #[.string x, .string y] 9)).heap.size (w.alloc (.cells #[.string x, .string y] 9)) w' := by
  subst hR
  refine tokens_any s (some ⟨w.heap.size, 0, none⟩) 2 [x, y] _ (by simp) (by simp) (by intro z hz; simp at hz; rcases hz with rfl | rfl <;> assumption) hs (fun _ => ⟨_, _, rfl, by simp, fun j hj => ?_⟩)
  have hj2 : j < 2 := hj
  match j, hj2 with
  | 0, _ => simp
  | 1, _ => simp
theorem tok_none (s : ByteArray) (R : List Tk × Int × Int) (w : World) (hR : toV s [] = R) (hs : s.size ≤ 9223372036854775807) :
    Calls Try.prog 5 #[.string s, .slice none 0 0] w fun e w' => ∃ v, e = .returned (.tuple #[v, .int .i64 R.2.1, .int .i64 R.2.2]) ∧ w'.ownsRow w.heap.size 30 3 v R.1.length (tv s R.1) ∧ Below w.heap.size w w' := by
  subst hR
  exact tokens_any s none 0 [] w (by simp) (by simp) (by simp) hs (fun h => by simp at h)
def kS1 : ByteArray := ⟨#[120, 49, 32, 61, 32, 48, 120, 49, 101, 43, 51, 32, 35, 32, 115, 111]⟩
theorem kV1 : toV kS1 [⟨#[61]⟩, ⟨#[43]⟩] = ([(1, 0, 2), (5, 3, 4), (2, 5, 9), (5, 9, 10), (2, 10, 11)], 0, 0) := by kernel_rfl
def kS2 : ByteArray := ⟨#[49, 101, 43, 51, 46, 53]⟩
theorem kV2 : toV kS2 [] = ([(2, 0, 6)], 0, 0) := by kernel_rfl
def kS3 : ByteArray := ⟨#[97, 10, 34, 92, 113, 34]⟩
theorem kV3 : toV kS3 [] = ([], 3, 12) := by kernel_rfl
def kS4 : ByteArray := ⟨#[34, 10]⟩
theorem kV4 : toV kS4 [] = ([], 0, 11) := by kernel_rfl
def kS5 : ByteArray := ⟨#[97, 32, 33, 32, 98]⟩
theorem kV5 : toV kS5 [] = ([], 2, 10) := by kernel_rfl
def kS0 : ByteArray := ⟨#[97, 98, 10, 99, 195, 169, 33]⟩
theorem kV0 : whereOf kS0 6 = (2, 3) := by kernel_rfl
theorem kV6 : strOfNums (shT [97, 34, 0, 49, 255] 5 ++ [34]) = ⟨#[34, 97, 92, 34, 92, 48, 49, 92, 120, 102, 102, 34]⟩ := by kernel_rfl
theorem kV7 : bV ⟨#[34, 92, 117, 48, 48, 101, 57, 92, 120, 52, 49, 34]⟩ = ([195, 169, 65], 0, 0) := by kernel_rfl
theorem kV8 : (bV ⟨#[34, 92, 117, 100, 56, 48, 48, 34]⟩).2 = (1, 12) := by kernel_rfl
theorem kV9 : runeV ⟨#[39, 195, 169, 39]⟩ = (233, 0, 0) := by kernel_rfl
theorem kV10 : (runeV ⟨#[39, 39]⟩).2 = (1, 10) := by kernel_rfl
theorem kV11 : (runeV ⟨#[39, 97, 98, 39]⟩).2 = (2, 11) := by kernel_rfl
theorem kV12 : strOfNums (gsL (cuts (strOfNums (pz [104, 105, 7, 255, 0, 65])))) = ⟨#[104, 105, 63, 63]⟩ := by kernel_rfl
end Go.Proofs.Ytfolcjamefgphaa
