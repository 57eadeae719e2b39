import Derived.Test.YtcmfephbhbgoiaaDoorEWr
namespace Go.Proofs.YtcmfephbhbgoiaaDoor
open Go.RowKit Go.WideShapes
set_option maxRecDepth 100000

/-- the number that four bytes are -/
def n4 (L : List Int) : Int := L.getD 0 0 + 256 * L.getD 1 0 + 65536 * L.getD 2 0 + 16777216 * L.getD 3 0
theorem alen4 : Tryd.prog.arrayLen 93 = 4 := by kernel_rfl
theorem aund4 : Tryd.prog.underlying 93 = some (.array (Tryd.prog.arrayLen 93) (Tryd.prog.elem 93)) := by kernel_rfl
theorem size5 (W : World) : (sizeOf 5).run Tryd.prog W = .ok 1 W := by
  have h := info5s
  cases hi : Tryd.prog.info? 5 with
  | none => rw [hi] at h; cases h
  | some i =>
    rw [hi] at h
    simp only [Option.map_some, Option.some.injEq] at h
    simp [sizeOf, typeInfo, hi, h]
theorem slice4 (W : World) (b n : Nat) (hn : n ≤ 4) : (Instr.sliceAt 93 (.pointer (some ⟨b, 0, none⟩)) none (some (.int .i64 n)) none).run Tryd.prog W = .ok (.slice (some ⟨b, 0, none⟩) n 4) W := by
  rw [run_sliceAt_array_h W 93 ⟨b, 0, none⟩ aund4 .i64 n (by omega) (by rw [alen4]; omega), alen4, show Tryd.prog.elem 93 = 5 by kernel_rfl, size5]
  simp [slicedAt, Result.andThen, Addr.add]
theorem or_u32 (a b : Nat) (ha : a < 4294967296) (hb : b < 4294967296) : bits .or .u32 (a : Int) (b : Int) = ((a ||| b : Nat) : Int) := by
  have hx : a ||| b < 2 ^ 32 := Nat.or_lt_two_pow (by omega) (by omega)
  have h1 : (BitVec.ofInt 32 (a : Int)).toNat = a := by
    rw [BitVec.ofInt_natCast, BitVec.toNat_ofNat]; exact Nat.mod_eq_of_lt (by omega)
  have h2 : (BitVec.ofInt 32 (b : Int)).toNat = b := by
    rw [BitVec.ofInt_natCast, BitVec.toNat_ofNat]; exact Nat.mod_eq_of_lt (by omega)
  show IntKind.u32.wrap ((BitVec.ofInt 32 (a : Int) ||| BitVec.ofInt 32 (b : Int)).toNat : Int) = _
  rw [BitVec.toNat_or, h1, h2, IntKind.wrap_u32]
  omega
theorem or_nat (a b i : Nat) (h : a < 2 ^ i) : a ||| b * 2 ^ i = a + b * 2 ^ i := by
  have := Nat.shiftLeft_add_eq_or_of_lt h b
  rw [Nat.shiftLeft_eq] at this
  rw [Nat.or_comm, ← this, Nat.add_comm]
theorem or4 (v0 v1 v2 v3 : Int) (p0 : 0 ≤ v0) (q0 : v0 ≤ 255) (p1 : 0 ≤ v1) (q1 : v1 ≤ 255) (p2 : 0 ≤ v2) (q2 : v2 ≤ 255) (p3 : 0 ≤ v3) (q3 : v3 ≤ 255) :
    bits .or .u32 (bits .or .u32 (bits .or .u32 v0 (v1 * 256)) (v2 * 65536)) (v3 * 16777216) = v0 + 256 * v1 + 65536 * v2 + 16777216 * v3 := by
  obtain ⟨a, rfl⟩ := Int.eq_ofNat_of_zero_le p0
  obtain ⟨b, rfl⟩ := Int.eq_ofNat_of_zero_le p1
  obtain ⟨c, rfl⟩ := Int.eq_ofNat_of_zero_le p2
  obtain ⟨d, rfl⟩ := Int.eq_ofNat_of_zero_le p3
  have e1 : bits .or .u32 (a : Int) ((b : Int) * 256) = ((a + b * 256 : Nat) : Int) := by
    have := or_u32 a (b * 256) (by omega) (by omega)
    rw [or_nat a b 8 (by omega)] at this
    exact this
  have e2 : bits .or .u32 ((a + b * 256 : Nat) : Int) ((c : Int) * 65536) = ((a + b * 256 + c * 65536 : Nat) : Int) := by
    have := or_u32 (a + b * 256) (c * 65536) (by omega) (by omega)
    rw [or_nat (a + b * 256) c 16 (by omega)] at this
    exact this
  have e3 : bits .or .u32 ((a + b * 256 + c * 65536 : Nat) : Int) ((d : Int) * 16777216) = ((a + b * 256 + c * 65536 + d * 16777216 : Nat) : Int) := by
    have := or_u32 (a + b * 256 + c * 65536) (d * 16777216) (by omega) (by omega)
    rw [or_nat (a + b * 256 + c * 65536) d 24 (by omega)] at this
    exact this
  rw [e1, e2, e3]
  omega
set_option maxHeartbeats 2000000 in
theorem load_any (lg : Bool) (hN : NoteOk 64 false lg) (a g cap x n : Nat) (bs : List Int) (tv : Value) (ts : List (Int × Bool)) (w : World) (hS : MemS w a g cap bs lg tv ts) (hx : x < 4294967296) (hn : n ≤ 4) :
    Calls Tryd.prog 39 #[.pointer (some ⟨a, 0, none⟩), .int .u32 x, .int .i64 n] w fun e w' => e = .returned (.int .u32 (n4 (rdL bs x n))) ∧
      (∃ tv', MemS w' a g cap bs lg tv' (lgL lg ts (tcs x n bs.length false)) ∧ (∀ j, tv'.ownBlock = some j → tv.ownBlock = some j ∨ w.heap.size ≤ j)) ∧ Kp (Foot a g tv) w w' := by
  have hM := made_yes a w ((obj_cell hS.obj 0).trans rfl)
  have hwf := hS.wf
  have hpb := hS.pw.bd
  have hA0 := hS.kept (Kp.alloc (S := fun _ => False) w (.cells #[.int .u8 0, .int .u8 0, .int .u8 0, .int .u8 0] 93)) (fun _ _ h => h)
  have hsz : (w.alloc (.cells #[.int .u8 0, .int .u8 0, .int .u8 0, .int .u8 0] 93)).heap.size = w.heap.size + 1 := by simp
  have hR := read_any lg hN a g cap w.heap.size 4 x n bs (List.replicate n 0) (bv (List.replicate (4 - n) 0)) 93 tv ts _ hA0 hx (by omega)
    (by rw [heap_alloc_new, ← bv_append, List.replicate_append_replicate, show n + (4 - n) = 4 by omega]; rfl) (by simp) (by omega) (by decide) (fun h => by have := hS.lt _ h; omega)
  have hR2 : Calls Tryd.prog 47 #[.pointer (some ⟨a, 0, none⟩), .int .u32 x, .slice (some ⟨w.heap.size, 0, none⟩) n 4] (w.alloc (.cells #[.int .u8 0, .int .u8 0, .int .u8 0, .int .u8 0] 93)) fun e w1 => e = .returned (.tuple #[]) ∧
      w1.cell? ⟨w.heap.size, 0, none⟩ = some (.int .u8 ((rdL bs x n).getD 0 0)) ∧ w1.cell? ⟨w.heap.size, 1, none⟩ = some (.int .u8 ((rdL bs x n).getD 1 0)) ∧ w1.cell? ⟨w.heap.size, 2, none⟩ = some (.int .u8 ((rdL bs x n).getD 2 0)) ∧ w1.cell? ⟨w.heap.size, 3, none⟩ = some (.int .u8 ((rdL bs x n).getD 3 0)) ∧
      Hid ((∃ tv', MemS w1 a g cap bs lg tv' (lgL lg ts (tcs x n bs.length false)) ∧ (∀ j, tv'.ownBlock = some j → tv.ownBlock = some j ∨ w.heap.size ≤ j)) ∧ Kp (Foot a g tv) w w1) := hR.mono fun e w1 ⟨he, ⟨tv', h1, h2⟩, h3, h4⟩ => by
    have hc : ∀ i, i < 4 → w1.cell? ⟨w.heap.size, i, none⟩ = some (.int .u8 ((rdL bs x n).getD i 0)) := fun i hi => by
      rw [obj_cell h4 i, ← bv_append]
      by_cases hin : i < n
      · simp [bv, List.getElem?_append, rdL_len, hin]
      · have e1 : i - n < 4 - n := by omega
        simp [bv, List.getElem?_append, rdL_len, hin, e1]
    refine ⟨he, hc 0 (by decide), hc 1 (by decide), hc 2 (by decide), hc 3 (by decide), ⟨tv', h1, fun j hj => (h2 j hj).imp id (fun h => by omega)⟩, (Kp.alloc w _).trans h3 ?_⟩
    intro i hi h
    rcases h with h | h
    · exact h
    · omega
  have hb : ∀ i, 0 ≤ (rdL bs x n).getD i 0 ∧ (rdL bs x n).getD i 0 ≤ 255 := fun i => by
    by_cases hi : i < n
    · rw [rdL_get _ _ _ _ hi]
      exact hwf _ (getD_mem (Nat.mod_lt _ (by omega)))
    · rw [List.getD_eq_getElem?_getD, List.getElem?_eq_none (by rw [rdL_len]; omega)]; exact ⟨by decide, by decide⟩
  have hsl := fun W b => slice4 W b n hn
  obtain ⟨p0, q0⟩ := hb 0
  obtain ⟨p1, q1⟩ := hb 1
  obtain ⟨p2, q2⟩ := hb 2
  obtain ⟨p3, q3⟩ := hb 3
  have HR := hidS hR2
  unfold n4
  generalize (rdL bs x n).getD 0 0 = v0 at *
  generalize (rdL bs x n).getD 1 0 = v1 at *
  generalize (rdL bs x n).getD 2 0 = v2 at *
  generalize (rdL bs x n).getD 3 0 = v3 at *
  clear hR hR2 hA0 hS hN hwf hsz hb
  go_enter Tryd.func39, Tryd.ntmps39
  go_wp2_with (first
    | (go_at_call 37; with_reducible refine hM.mono ?_; rintro e wq ⟨rfl, hq⟩; subst wq)
    | (go_at_call 47; with_reducible refine HR.out.mono ?_; rintro e w1 ⟨rfl, c0, c1, c2, c3, HQ⟩)
    | fail)
  go_ret
  exact ⟨ret_int (or4 v0 v1 v2 v3 p0 q0 p1 q1 p2 q2 p3 q3), HQ.out.1, HQ.out.2⟩
/-- the lowest bytes of a word -/
def by4 (v : Int) : List Int := [v % 256, v / 256 % 256, v / 65536 % 256, v / 16777216]
theorem by4_wf (v : Int) (h0 : 0 ≤ v) (h1 : v < 4294967296) : ∀ z ∈ by4 v, 0 ≤ z ∧ z ≤ 255 := by
  intro z hz
  simp only [by4, List.mem_cons, List.not_mem_nil, or_false] at hz
  rcases hz with rfl | rfl | rfl | rfl <;> omega
set_option maxHeartbeats 2000000 in
theorem store_any (lg : Bool) (hN : NoteOk 60 true lg) (a g cap x n : Nat) (v : Int) (bs : List Int) (tv : Value) (ts : List (Int × Bool)) (w : World) (hS : MemS w a g cap bs lg tv ts) (hx : x < 4294967296) (hn : n ≤ 4) (hv : 0 ≤ v ∧ v < 4294967296) :
    Calls Tryd.prog 38 #[.pointer (some ⟨a, 0, none⟩), .int .u32 x, .int .u32 v, .int .i64 n] w fun e w' => e = .returned (.tuple #[]) ∧
      (∃ tv', MemS w' a g cap (wrL bs x ((by4 v).take n)) lg tv' (lgL lg ts (tcs x n bs.length true)) ∧ (∀ j, tv'.ownBlock = some j → tv.ownBlock = some j ∨ w.heap.size ≤ j)) ∧ Kp (Foot a g tv) w w' := by
  obtain ⟨v0, v1⟩ := hv
  have hM := made_yes a w ((obj_cell hS.obj 0).trans rfl)
  have hsl := fun W b => slice4 W b n hn
  have hW : ∀ W, W.heap.size = w.heap.size + 1 → Kp (fun _ => False) w W → W.heap[w.heap.size]? = some (.cells (bv (by4 v)).toArray 93 (0, 0)) → Calls Tryd.prog 45 #[.pointer (some ⟨a, 0, none⟩), .int .u32 x, .slice (some ⟨w.heap.size, 0, none⟩) n 4] W fun e w1 => e = .returned (.tuple #[]) ∧
      Hid ((∃ tv', MemS w1 a g cap (wrL bs x ((by4 v).take n)) lg tv' (lgL lg ts (tcs x n bs.length true)) ∧ (∀ j, tv'.ownBlock = some j → tv.ownBlock = some j ∨ w.heap.size ≤ j)) ∧ Kp (Foot a g tv) w w1) := fun W hz hK hB => by
    have hl4 : ((by4 v).take n).length = n := by simp [by4]; omega
    have := write_any lg hN a g cap 4 x n w.heap.size 0 (some ⟨w.heap.size, 0, none⟩) bs ((by4 v).take n) tv ts W (hS.kept hK (fun _ _ h => h)) hx (by omega) hl4 (by omega) (fun z hz => by4_wf v v0 v1 z (List.mem_of_mem_take hz))
      (fun _ => ⟨rfl, by omega, fun i hi => by
        rw [hl4] at hi
        have h4 : i < 4 := by omega
        rw [obj_cell hB (0 + i), Nat.zero_add]
        have hb4 : i < (by4 v).length := by simp [by4]; omega
        simp [bv, hb4, hi]⟩) (fun h => by have := hS.lt _ h; omega)
    exact this.mono fun e w1 ⟨he, ⟨tv', h1, h2⟩, h3⟩ => ⟨he, ⟨tv', h1, fun j hj => (h2 j hj).imp id (fun h => by omega)⟩, (hK.mono (S' := Foot a g tv) (fun _ _ h => h.elim)).trans h3 (fun _ _ h => h)⟩
  have hW1 := hW (w.alloc (.cells #[.int .u8 (v % 256), .int .u8 (v / 256 % 256), .int .u8 (v / 65536 % 256), .int .u8 (v / 16777216)] 93)) (by simp) (Kp.alloc w _) (heap_alloc_new w _)
  have HW := hidS hW1
  clear hW hW1 hN hS
  go_enter Tryd.func38, Tryd.ntmps38
  go_wp2_with (first
    | (go_at_call 37; with_reducible refine hM.mono ?_; rintro e wq ⟨rfl, hq⟩; subst wq)
    | (go_at_call 45; with_reducible refine HW.out.mono ?_; rintro e w1 ⟨rfl, HQ⟩)
    | fail)
  go_end0
  exact ⟨rfl, HQ.out.1, HQ.out.2⟩
end Go.Proofs.YtcmfephbhbgoiaaDoor
