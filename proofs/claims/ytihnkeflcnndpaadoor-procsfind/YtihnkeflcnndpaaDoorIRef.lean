import Derived.Test.YtihnkeflcnndpaaDoorIRi0
import Derived.Test.YtihnkeflcnndpaaDoorIRi1
import Derived.Test.YtihnkeflcnndpaaDoorIRi2
import Derived.Test.YtihnkeflcnndpaaDoorIRi3
import Derived.Test.YtihnkeflcnndpaaDoorIRi4
import Derived.Test.YtihnkeflcnndpaaDoorIRi5
namespace Go.Proofs.YtihnkeflcnndpaaDoor
open Go.RowKit
set_option maxRecDepth 100000
theorem rinfoT (w : World) : ∀ op : Nat, (1 ≤ op ∧ op ≤ 59) → Calls Tryd.prog 65 #[.int .u8 (op : Int)] w fun e w' => e = .returned (.tuple #[.agg #[.string (opWd op), .int .i64 (opWi op), .int .u32 (opMo op), .int .i64 (opTa op), .int .i64 (opGi op), .int .u8 (opKi op)], .bool true]) ∧ Below w.heap.size w w'
  | 0, h => absurd h.1 (by decide)
  | 1, _ => rinfo1 w
  | 2, _ => rinfo2 w
  | 3, _ => rinfo3 w
  | 4, _ => rinfo4 w
  | 5, _ => rinfo5 w
  | 6, _ => rinfo6 w
  | 7, _ => rinfo7 w
  | 8, _ => rinfo8 w
  | 9, _ => rinfo9 w
  | 10, _ => rinfo10 w
  | 11, _ => rinfo11 w
  | 12, _ => rinfo12 w
  | 13, _ => rinfo13 w
  | 14, _ => rinfo14 w
  | 15, _ => rinfo15 w
  | 16, _ => rinfo16 w
  | 17, _ => rinfo17 w
  | 18, _ => rinfo18 w
  | 19, _ => rinfo19 w
  | 20, _ => rinfo20 w
  | 21, _ => rinfo21 w
  | 22, _ => rinfo22 w
  | 23, _ => rinfo23 w
  | 24, _ => rinfo24 w
  | 25, _ => rinfo25 w
  | 26, _ => rinfo26 w
  | 27, _ => rinfo27 w
  | 28, _ => rinfo28 w
  | 29, _ => rinfo29 w
  | 30, _ => rinfo30 w
  | 31, _ => rinfo31 w
  | 32, _ => rinfo32 w
  | 33, _ => rinfo33 w
  | 34, _ => rinfo34 w
  | 35, _ => rinfo35 w
  | 36, _ => rinfo36 w
  | 37, _ => rinfo37 w
  | 38, _ => rinfo38 w
  | 39, _ => rinfo39 w
  | 40, _ => rinfo40 w
  | 41, _ => rinfo41 w
  | 42, _ => rinfo42 w
  | 43, _ => rinfo43 w
  | 44, _ => rinfo44 w
  | 45, _ => rinfo45 w
  | 46, _ => rinfo46 w
  | 47, _ => rinfo47 w
  | 48, _ => rinfo48 w
  | 49, _ => rinfo49 w
  | 50, _ => rinfo50 w
  | 51, _ => rinfo51 w
  | 52, _ => rinfo52 w
  | 53, _ => rinfo53 w
  | 54, _ => rinfo54 w
  | 55, _ => rinfo55 w
  | 56, _ => rinfo56 w
  | 57, _ => rinfo57 w
  | 58, _ => rinfo58 w
  | 59, _ => rinfo59 w
  | n + 60, h => absurd h.2 (by omega)
theorem rinfo_any (op : Nat) (w : World) (h : op < 256) : Calls Tryd.prog 65 #[.int .u8 op] w fun e w' => e = .returned (.tuple #[.agg #[.string (opWd op), .int .i64 (opWi op), .int .u32 (opMo op), .int .i64 (opTa op), .int .i64 (opGi op), .int .u8 (opKi op)], .bool (isOp op)]) ∧ Below w.heap.size w w' := by
  by_cases h1 : 1 ≤ op ∧ op ≤ 59
  · rw [show isOp op = true from decide_eq_true h1]; exact rinfoT w op h1
  · rw [show isOp op = false from decide_eq_false h1]; exact rinfoNo op w h h1
end Go.Proofs.YtihnkeflcnndpaaDoor
