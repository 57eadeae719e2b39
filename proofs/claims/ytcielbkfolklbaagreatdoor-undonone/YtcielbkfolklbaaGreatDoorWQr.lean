import Derived.Sort.QuietIn
import Derived.OwnWalkIn
import Derived.Test.YtcielbkfolklbaaGreatDoorProg
namespace Go.Proofs.YtcielbkfolklbaaGreatDoor
open Go.RowKit
set_option maxRecDepth 100000

/-- an operation that lays nothing aside -/
def noDefer (o : Oper) : Bool := match o.op with | .defer _ => false | _ => true
theorem noDefer_spec {o : Oper} (h : noDefer o = true) : ∀ c, o.op ≠ .defer c := by
  intro c e
  simp [noDefer, e] at h
theorem op_plain {F : Fence} {n : Nat} {P : Program} {o : Oper} {a : Act} {w : World} {K : Act → World → Prop} {Q : Exit → Act → World → Prop} (hd : noDefer o = true) (h : o.wpIn F.plain n P a w K Q) : o.wpIn F n P a w K Q := by
  unfold Oper.wpIn at *
  rw [Oper.semAt_plain F.plain _ o (noDefer_spec hd)] at h
  rw [Oper.semAt_plain F _ o (noDefer_spec hd)]
  exact h
theorem any_plain {F : Fence} {n : Nat} {P : Program} {md : Region.Mode} {ops : Array Oper} {Q : Exit → Act → World → Prop} (hd : ∀ (i : Nat) (o : Oper), ops[i]? = some o → noDefer o = true) :
    ∀ (fuel : Nat) (listed : Array Bool) (a : Act) (w : World), wpAnyIn F.plain n P md ops Q fuel listed a w → wpAnyIn F n P md ops Q fuel listed a w
  | 0, _, _, _, h => h
  | fuel + 1, _, _, _, h => ⟨h.1, fun i hi => by
    have := wpOpIn_mono (fun a w => any_plain hd fuel _ a w) (h.2 i hi)
    unfold wpOpIn at this ⊢
    split
    · rename_i ho; simp only [ho] at this; exact this
    · rename_i o ho
      simp only [ho] at this
      split
      · rename_i hw; simp only [hw, if_true] at this; exact op_plain (hd i o ho) this
      · rename_i hw; simp only [hw] at this; exact this⟩
theorem region_quiet_r {F : Fence} {n : Nat} {P : Program} {id : Nat} {Q : Exit → Act → World → Prop} {a : Act} {w : World} {l : List Oper} (hd : l.all noDefer = true) (hm : P.follows .mixedOrders = true) (hB : Region.lexB .any l.toArray = true)
    (h : wpQuietIn F.plain n P l.toArray (fun w' => ∃ n, w' = w.drewN n) (fun a' => ∀ w', (∃ n, w' = w.drewN n) → Q .normal a' w') l a) : (Code.region id l.toArray true).wpIn F n P Q a w := by
  simp only [Region.lexB, Bool.and_eq_true] at hB
  have hd' : ∀ (i : Nat) (o : Oper), l.toArray[i]? = some o → noDefer o = true := fun i o ho => List.all_eq_true.1 hd o (List.mem_of_getElem? (by simpa using ho))
  refine wpIn_region_any hm (any_plain hd' _ _ _ _ (wpAnyIn_of_quiet (F := F.plain) (C := fun w' => ∃ n, w' = w.drewN n) (Q := fun a' => ∀ w', (∃ n, w' = w.drewN n) → Q .normal a' w') rfl (fun _ w' hw' h => h w' hw') _ _ _ _ ⟨1, rfl⟩ ?_))
  have := wpAnyQIn_lex (F := F.plain) (n := n) (C := fun w' => ∃ n, w' = w.drewN n) (md := .any) hB.1 l 0 (Array.replicate l.toArray.size false) a (by simp) (by simpa using hB.2) h
  simpa using this
end Go.Proofs.YtcielbkfolklbaaGreatDoor
