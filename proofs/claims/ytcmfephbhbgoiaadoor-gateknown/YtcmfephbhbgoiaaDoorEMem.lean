import Derived.Test.YtcmfephbhbgoiaaDoorEBase
import Derived.Deep.RegionHeld3
import Derived.LaidEqlPtr
namespace Go.Proofs.YtcmfephbhbgoiaaDoor
open Go.RowKit Go.WideShapes
set_option maxRecDepth 100000

/-- a log's entries as cells -/
def tvv (ts : List (Int × Bool)) : List Value := ts.flatMap fun t => [.int .u32 t.1, .bool t.2]
theorem tvv_append (a b : List (Int × Bool)) : tvv (a ++ b) = tvv a ++ tvv b := by simp [tvv]
theorem tvv_one (t : Int × Bool) : tvv [t] = [.int .u32 t.1, .bool t.2] := rfl
structure MemS (w : World) (a g cap : Nat) (bs : List Int) (lg : Bool) (tv : Value) (ts : List (Int × Bool)) : Prop where
  obj : w.heap[a]? = some (.cells #[.pointer (some ⟨a, 0, none⟩), .slice (some ⟨g, 0, none⟩) bs.length cap, .bool lg, tv] 36 (0, 0))
  row : w.ownsRow 0 5 1 (.slice (some ⟨g, 0, none⟩) bs.length cap) bs.length (bv bs)
  log : w.ownsRow 0 106 2 tv ts.length (tvv ts)
  ne : a ≠ g
  na : tv.ownBlock ≠ some a
  ng : tv.ownBlock ≠ some g
  pw : Pw bs.length
  wf : ∀ z ∈ bs, 0 ≤ z ∧ z ≤ 255
  tl : ts.length ≤ 65536
/-- the blocks of a segment -/
def Foot (a g : Nat) (tv : Value) (k : Nat) : Prop := k = a ∨ k = g ∨ tv.ownBlock = some k
theorem MemS.kept {S : Nat → Prop} {w w' : World} {a g cap : Nat} {bs : List Int} {lg : Bool} {tv : Value} {ts : List (Int × Bool)} (h : MemS w a g cap bs lg tv ts) (hk : Kp S w w') (hs : ∀ k, Foot a g tv k → ¬ S k) : MemS w' a g cap bs lg tv ts :=
  ⟨by rw [hk.block a (Array.getElem?_eq_some_iff.1 h.obj).1 (hs a (.inl rfl))]; exact h.obj, hk.own h.row (fun k e => hs k (.inr (.inl (by simpa [Value.ownBlock] using e.symm)))), hk.own h.log (fun k e => hs k (.inr (.inr e))), h.ne, h.na, h.ng, h.pw, h.wf, h.tl⟩
theorem MemS.lt {w : World} {a g cap : Nat} {bs : List Int} {lg : Bool} {tv : Value} {ts : List (Int × Bool)} (h : MemS w a g cap bs lg tv ts) (k : Nat) (hk : Foot a g tv k) : k < w.heap.size := by
  rcases hk with rfl | rfl | e
  · exact (Array.getElem?_eq_some_iff.1 h.obj).1
  · exact (h.row.lt k rfl).2
  · exact (h.log.lt k e).2
theorem obj_cell {w : World} {a : Nat} {cs : Array Value} {t : TypeId} {fr : Nat × Nat} (h : w.heap[a]? = some (.cells cs t fr)) (i : Nat) : w.cell? ⟨a, i, none⟩ = cs[i]? := by
  simp [World.cell?, h]
theorem obj_frozen {w : World} {a : Nat} {cs : Array Value} {t : TypeId} (h : w.heap[a]? = some (.cells cs t (0, 0))) (i : Nat) : w.frozen? ⟨a, i, none⟩ = false := by
  simp [World.frozen?, h]
theorem eq_self (a : Nat) (w : World) : (binOp .eql 32 (.pointer (some ⟨a, 0, none⟩)) (.pointer (some ⟨a, 0, none⟩))).run Tryd.prog w = .ok (.bool true) w := by
  have h : (Tryd.prog.info? 36).map (·.size) = some 4 := by kernel_rfl
  cases hi : Tryd.prog.info? 36 with
  | none => rw [hi] at h; cases h
  | some i => exact run_eql_ptr_same w ⟨a, 0, none⟩ Tryd.underlying32 hi
theorem eq_none (a : Nat) (w : World) : (binOp .eql 32 (.pointer none) (.pointer (some ⟨a, 0, none⟩))).run Tryd.prog w = .ok (.bool false) w := by
  have h : ∀ d : Nat, (Op.equalIn (d + 1) 32 (.pointer none) (.pointer (some ⟨a, 0, none⟩))).run Tryd.prog w = .ok false w := fun d => by
    simp [Op.equalIn, run_underlying Tryd.underlying32]
  simp only [binOp]
  simp [Op.equal, Op.maxDepth, h 9999]
theorem made_yes (a : Nat) (w : World) (hc : w.cell? ⟨a, 0, none⟩ = some (.pointer (some ⟨a, 0, none⟩))) :
    Calls Tryd.prog 37 #[.pointer (some ⟨a, 0, none⟩)] w fun e w' => e = .returned (.bool true) ∧ w' = w := by
  have hq := eq_self a w
  go_enter Tryd.func37, Tryd.ntmps37
  go_wp2
  go_ret
  exact ⟨rfl, rfl⟩
theorem made_nil (w : World) :
    Calls Tryd.prog 37 #[.pointer none] w fun e w' => e = .returned (.bool false) ∧ w' = w := by
  go_enter Tryd.func37, Tryd.ntmps37
  go_wp2
  go_ret
  exact ⟨rfl, rfl⟩
theorem made_no (a : Nat) (w : World) (hc : w.cell? ⟨a, 0, none⟩ = some (.pointer none)) :
    Calls Tryd.prog 37 #[.pointer (some ⟨a, 0, none⟩)] w fun e w' => e = .returned (.bool false) ∧ w' = w := by
  have hq := eq_none a w
  go_enter Tryd.func37, Tryd.ntmps37
  go_wp2
  go_ret
  exact ⟨rfl, rfl⟩
theorem and_u32 (a b : Nat) (ha : a < 4294967296) (hb : b < 4294967296) : bits .and .u32 (a : Int) (b : Int) = ((a &&& b : Nat) : Int) := by
  have hx : a &&& b < 2 ^ 32 := Nat.and_lt_two_pow _ (by omega)
  have h1 : (BitVec.ofInt 32 (a : Int)).toNat = a := by
    rw [BitVec.ofInt_natCast, BitVec.toNat_ofNat]; exact Nat.mod_eq_of_lt (by omega)
  have h2 : (BitVec.ofInt 32 (b : Int)).toNat = b := by
    rw [BitVec.ofInt_natCast, BitVec.toNat_ofNat]; exact Nat.mod_eq_of_lt (by omega)
  show IntKind.u32.wrap ((BitVec.ofInt 32 (a : Int) &&& BitVec.ofInt 32 (b : Int)).toNat : Int) = _
  rw [BitVec.toNat_and, h1, h2, IntKind.wrap_u32]
  omega
theorem and_mask (x k : Nat) (hx : x < 4294967296) (hk : 2 ^ k ≤ 65536) : bits .and .u32 (x : Int) (((2 ^ k - 1 : Nat)) : Int) = ((x % 2 ^ k : Nat) : Int) := by
  rw [and_u32 x _ hx (by omega), Nat.and_two_pow_sub_one_eq_mod]
theorem mask_pw {n : Nat} (h : Pw n) (x : Nat) (hx : x < 4294967296) : bits BinOp.and IntKind.u32 (x : Int) ((n : Int) - 1) = ((x % n : Nat) : Int) := by
  rcases h with rfl | rfl | rfl | rfl | rfl | rfl | rfl | rfl | rfl
  · exact and_mask x 8 hx (by decide)
  · exact and_mask x 9 hx (by decide)
  · exact and_mask x 10 hx (by decide)
  · exact and_mask x 11 hx (by decide)
  · exact and_mask x 12 hx (by decide)
  · exact and_mask x 13 hx (by decide)
  · exact and_mask x 14 hx (by decide)
  · exact and_mask x 15 hx (by decide)
  · exact and_mask x 16 hx (by decide)
theorem place_any (a g cap n : Nat) (x : Nat) (w : World) (hx : x < 4294967296) (hp : Pw n) (hc : w.cell? ⟨a, 1, none⟩ = some (.slice (some ⟨g, 0, none⟩) n cap)) :
    Calls Tryd.prog 61 #[.pointer (some ⟨a, 0, none⟩), .int .u32 x] w fun e w' => e = .returned (.int .u32 (x % n : Nat)) ∧ w' = w := by
  have hb := hp.bd
  have hm := mask_pw hp x hx
  go_enter Tryd.func61, Tryd.ntmps61
  go_wp2
  go_ret
  exact ⟨rfl, rfl⟩
end Go.Proofs.YtcmfephbhbgoiaaDoor
