import Derived.Test.YtnalnlbainghoaaGreatDoorPIn
import Derived.Test.YtnalnlbainghoaaGreatDoorCLBase
import Derived.Deep.AppendLies
import Derived.Shelf.LaysM
import Derived.Shelf.Strconv.Clone
import Derived.Test.YtnalnlbainghoaaGreatDoorProg
namespace Go.Proofs.YtnalnlbainghoaaGreatDoor
open Go.RowKit Go.WideShapes
set_option maxRecDepth 100000
/-- what slices.Clone leaves -/
def ClP (w : World) (e sz n : Nat) (xs : List Value) (en : Ending) (w' : World) : Prop := ∃ a c, en = .returned (.slice a n c) ∧ n ≤ c ∧ (0 < n → w'.ownsRow w.heap.size e sz (.slice a n c) n xs) ∧ Below w.heap.size w w'
theorem own_capV {w : World} {B e sz n c : Nat} {a : Option Addr} {xs : List Value} (h : w.ownsRow B e sz (.slice a n c) n xs) : n ≤ c := by
  rcases h.2 with ⟨e1, hz⟩ | ⟨g', cap', cur, e1, _, _, hc, _⟩
  · omega
  · simp only [Value.slice.injEq] at e1
    rw [e1.2.2]; exact hc

theorem nil_eqVI (a : Option Addr) (n c : Nat) (w : World) : (binOp .eql 26 (.slice a n c) (.slice none 0 0)).run Tryz.prog w = .ok (.bool a.isNone) w := by
  have e : binOp .eql 26 (.slice a n c) (.slice none 0 0) = (do pure (.bool (← Op.equal 26 (.slice a n c) (.slice none 0 0)))) := rfl
  rw [e, Sem.run_bind, run_equal_slice_nil w _ _ a n c Tryz.underlying26]
  rfl
theorem infoVI : (Tryz.prog.info? 46).map (fun i => (i.zero, i.size, i.bytes)) = some (some (.agg #[.int .u8 0, .int .u32 0]), 2, 8) := by kernel_rfl
set_option maxHeartbeats 1000000 in
theorem cloneI_any (a : Option Addr) (cap n : Nat) (xs : List Value) (w : World) (hn : n ≤ 1048576) (hx : xs.length = n * 2) (h1 : ∀ u ∈ xs, u.oneCell' = true)
    (hr : 0 < n → ∃ b off, a = some ⟨b, off, none⟩ ∧ b < w.heap.size ∧ ∀ j u, xs[j]? = some u → w.cell? ⟨b, off + j, none⟩ = some u) :
    Calls Tryz.prog 44 #[.slice a n cap] w (ClP w 46 2 n xs) := by
  obtain ⟨i0, hi, hz0, hz1, hz2⟩ := info_parts infoVI
  have hq := nil_eqVI a n cap w
  have own0 := World.ownsRow_lit (size := 2) (base := w.heap.size) (e := 46) w #[] 0 (Nat.le_refl _) (by decide) rfl
  have hb0 : Below w.heap.size w (w.alloc (.cells #[] 46)) := (Below.refl w.heap.size w).alloc (Nat.le_refl _) _
  by_cases hpos : 0 < n
  · obtain ⟨b, off, rfl, hlt, hc⟩ := hr hpos
    have HC : Hid (∀ j u, xs[j]? = some u → (w.alloc (.cells #[] 46)).cell? ((⟨b, off, none⟩ : Addr).add j) = some u) := hidS fun j u hj => by
      rw [add_plain, hb0.cell (p := ⟨b, off + j, none⟩) hlt]
      exact hc j u hj
    have HD := hidS hx
    have HE := hidS h1
    clear hc hr hx h1
    simp only [Option.isNone_some] at hq
    go_enter Tryz.func44, Tryz.ntmps44
    go_wp2_with (at_builtin; refine wpList_append_lies _ rfl _ _ 26 rfl w.heap.size 46 i0 (.agg #[.int .u8 0, .int .u32 0]) 2 8 Tryz.underlying26 hi hz0 hz1 hz2 rfl (by decide) _ 0 [] rfl own0 ⟨b, off, none⟩ n cap xs rfl HD.out HC.out HE.out hpos ?d3 ?d4 ?d5 (w.heap.size + 1) ?d6 ?_)
    case d3 => unfold maxLen; omega
    case d4 => omega
    intro g c w1 hown' hgrow _ _
    have R2 : Below w.heap.size w w1 := hb0.grown hgrow (by simp) (fun k e => by simp [Value.ownBlock] at e; omega)
    try simp only [Nat.zero_add, List.nil_append] at hown'
    clear hgrow own0 hb0 HC HD HE
    have HO := hidS hown'
    clear hown'
    go_wp2
    go_ret
    exact ⟨_, _, rfl, own_capV HO.out, fun _ => HO.out, R2⟩
  · have hl0 : n = 0 := by omega
    subst hl0
    clear hr hpos hx h1
    cases a with
    | none =>
      simp only [Option.isNone_none] at hq
      go_enter Tryz.func44, Tryz.ntmps44
      go_wp2
      go_ret
      exact ⟨_, _, rfl, Nat.zero_le _, fun h => absurd h (by omega), Below.refl _ _⟩
    | some ad =>
      simp only [Option.isNone_some] at hq
      go_enter Tryz.func44, Tryz.ntmps44
      go_wp2_with fail
      go_ret
      exact ⟨_, _, rfl, Nat.zero_le _, fun h => absurd h (by omega), hb0⟩

theorem nil_eqVW (a : Option Addr) (n c : Nat) (w : World) : (binOp .eql 27 (.slice a n c) (.slice none 0 0)).run Tryz.prog w = .ok (.bool a.isNone) w := by
  have e : binOp .eql 27 (.slice a n c) (.slice none 0 0) = (do pure (.bool (← Op.equal 27 (.slice a n c) (.slice none 0 0)))) := rfl
  rw [e, Sem.run_bind, run_equal_slice_nil w _ _ a n c Tryz.underlying27]
  rfl
theorem infoVW : (Tryz.prog.info? 29).map (fun i => (i.zero, i.size, i.bytes)) = some (some (.int .u32 0), 1, 4) := by kernel_rfl
set_option maxHeartbeats 1000000 in
theorem cloneW_any (a : Option Addr) (cap n : Nat) (xs : List Value) (w : World) (hn : n ≤ 1048576) (hx : xs.length = n * 1) (h1 : ∀ u ∈ xs, u.oneCell' = true)
    (hr : 0 < n → ∃ b off, a = some ⟨b, off, none⟩ ∧ b < w.heap.size ∧ ∀ j u, xs[j]? = some u → w.cell? ⟨b, off + j, none⟩ = some u) :
    Calls Tryz.prog 45 #[.slice a n cap] w (ClP w 29 1 n xs) := by
  obtain ⟨i0, hi, hz0, hz1, hz2⟩ := info_parts infoVW
  have hq := nil_eqVW a n cap w
  have own0 := World.ownsRow_lit (size := 1) (base := w.heap.size) (e := 29) w #[] 0 (Nat.le_refl _) (by decide) rfl
  have hb0 : Below w.heap.size w (w.alloc (.cells #[] 29)) := (Below.refl w.heap.size w).alloc (Nat.le_refl _) _
  by_cases hpos : 0 < n
  · obtain ⟨b, off, rfl, hlt, hc⟩ := hr hpos
    have HC : Hid (∀ j u, xs[j]? = some u → (w.alloc (.cells #[] 29)).cell? ((⟨b, off, none⟩ : Addr).add j) = some u) := hidS fun j u hj => by
      rw [add_plain, hb0.cell (p := ⟨b, off + j, none⟩) hlt]
      exact hc j u hj
    have HD := hidS hx
    have HE := hidS h1
    clear hc hr hx h1
    simp only [Option.isNone_some] at hq
    go_enter Tryz.func45, Tryz.ntmps45
    go_wp2_with (at_builtin; refine wpList_append_lies _ rfl _ _ 27 rfl w.heap.size 29 i0 (.int .u32 0) 1 4 Tryz.underlying27 hi hz0 hz1 hz2 rfl (by decide) _ 0 [] rfl own0 ⟨b, off, none⟩ n cap xs rfl HD.out HC.out HE.out hpos ?d3 ?d4 ?d5 (w.heap.size + 1) ?d6 ?_)
    case d3 => unfold maxLen; omega
    case d4 => omega
    intro g c w1 hown' hgrow _ _
    have R2 : Below w.heap.size w w1 := hb0.grown hgrow (by simp) (fun k e => by simp [Value.ownBlock] at e; omega)
    try simp only [Nat.zero_add, List.nil_append] at hown'
    clear hgrow own0 hb0 HC HD HE
    have HO := hidS hown'
    clear hown'
    go_wp2
    go_ret
    exact ⟨_, _, rfl, own_capV HO.out, fun _ => HO.out, R2⟩
  · have hl0 : n = 0 := by omega
    subst hl0
    clear hr hpos hx h1
    cases a with
    | none =>
      simp only [Option.isNone_none] at hq
      go_enter Tryz.func45, Tryz.ntmps45
      go_wp2
      go_ret
      exact ⟨_, _, rfl, Nat.zero_le _, fun h => absurd h (by omega), Below.refl _ _⟩
    | some ad =>
      simp only [Option.isNone_some] at hq
      go_enter Tryz.func45, Tryz.ntmps45
      go_wp2_with fail
      go_ret
      exact ⟨_, _, rfl, Nat.zero_le _, fun h => absurd h (by omega), hb0⟩

theorem nil_eqVB (a : Option Addr) (n c : Nat) (w : World) : (binOp .eql 28 (.slice a n c) (.slice none 0 0)).run Tryz.prog w = .ok (.bool a.isNone) w := by
  have e : binOp .eql 28 (.slice a n c) (.slice none 0 0) = (do pure (.bool (← Op.equal 28 (.slice a n c) (.slice none 0 0)))) := rfl
  rw [e, Sem.run_bind, run_equal_slice_nil w _ _ a n c Tryz.underlying28]
  rfl
theorem infoVB : (Tryz.prog.info? 5).map (fun i => (i.zero, i.size, i.bytes)) = some (some (.int .u8 0), 1, 1) := by kernel_rfl
set_option maxHeartbeats 1000000 in
theorem cloneB_any (a : Option Addr) (cap n : Nat) (xs : List Value) (w : World) (hn : n ≤ 1048576) (hx : xs.length = n * 1) (h1 : ∀ u ∈ xs, u.oneCell' = true)
    (hr : 0 < n → ∃ b off, a = some ⟨b, off, none⟩ ∧ b < w.heap.size ∧ ∀ j u, xs[j]? = some u → w.cell? ⟨b, off + j, none⟩ = some u) :
    Calls Tryz.prog 46 #[.slice a n cap] w (ClP w 5 1 n xs) := by
  obtain ⟨i0, hi, hz0, hz1, hz2⟩ := info_parts infoVB
  have hq := nil_eqVB a n cap w
  have own0 := World.ownsRow_lit (size := 1) (base := w.heap.size) (e := 5) w #[] 0 (Nat.le_refl _) (by decide) rfl
  have hb0 : Below w.heap.size w (w.alloc (.cells #[] 5)) := (Below.refl w.heap.size w).alloc (Nat.le_refl _) _
  by_cases hpos : 0 < n
  · obtain ⟨b, off, rfl, hlt, hc⟩ := hr hpos
    have HC : Hid (∀ j u, xs[j]? = some u → (w.alloc (.cells #[] 5)).cell? ((⟨b, off, none⟩ : Addr).add j) = some u) := hidS fun j u hj => by
      rw [add_plain, hb0.cell (p := ⟨b, off + j, none⟩) hlt]
      exact hc j u hj
    have HD := hidS hx
    have HE := hidS h1
    clear hc hr hx h1
    simp only [Option.isNone_some] at hq
    go_enter Tryz.func46, Tryz.ntmps46
    go_wp2_with (at_builtin; refine wpList_append_lies _ rfl _ _ 28 rfl w.heap.size 5 i0 (.int .u8 0) 1 1 Tryz.underlying28 hi hz0 hz1 hz2 rfl (by decide) _ 0 [] rfl own0 ⟨b, off, none⟩ n cap xs rfl HD.out HC.out HE.out hpos ?d3 ?d4 ?d5 (w.heap.size + 1) ?d6 ?_)
    case d3 => unfold maxLen; omega
    case d4 => omega
    intro g c w1 hown' hgrow _ _
    have R2 : Below w.heap.size w w1 := hb0.grown hgrow (by simp) (fun k e => by simp [Value.ownBlock] at e; omega)
    try simp only [Nat.zero_add, List.nil_append] at hown'
    clear hgrow own0 hb0 HC HD HE
    have HO := hidS hown'
    clear hown'
    go_wp2
    go_ret
    exact ⟨_, _, rfl, own_capV HO.out, fun _ => HO.out, R2⟩
  · have hl0 : n = 0 := by omega
    subst hl0
    clear hr hpos hx h1
    cases a with
    | none =>
      simp only [Option.isNone_none] at hq
      go_enter Tryz.func46, Tryz.ntmps46
      go_wp2
      go_ret
      exact ⟨_, _, rfl, Nat.zero_le _, fun h => absurd h (by omega), Below.refl _ _⟩
    | some ad =>
      simp only [Option.isNone_some] at hq
      go_enter Tryz.func46, Tryz.ntmps46
      go_wp2_with fail
      go_ret
      exact ⟨_, _, rfl, Nat.zero_le _, fun h => absurd h (by omega), hb0⟩

theorem nil_eqVE (a : Option Addr) (n c : Nat) (w : World) : (binOp .eql 30 (.slice a n c) (.slice none 0 0)).run Tryz.prog w = .ok (.bool a.isNone) w := by
  have e : binOp .eql 30 (.slice a n c) (.slice none 0 0) = (do pure (.bool (← Op.equal 30 (.slice a n c) (.slice none 0 0)))) := rfl
  rw [e, Sem.run_bind, run_equal_slice_nil w _ _ a n c Tryz.underlying30]
  rfl
theorem infoVE : (Tryz.prog.info? 48).map (fun i => (i.zero, i.size, i.bytes)) = some (some (.agg #[.string ⟨#[]⟩, .int .u32 0]), 2, 24) := by kernel_rfl
set_option maxHeartbeats 1000000 in
theorem cloneE_any (a : Option Addr) (cap n : Nat) (xs : List Value) (w : World) (hn : n ≤ 1048576) (hx : xs.length = n * 2) (h1 : ∀ u ∈ xs, u.oneCell' = true)
    (hr : 0 < n → ∃ b off, a = some ⟨b, off, none⟩ ∧ b < w.heap.size ∧ ∀ j u, xs[j]? = some u → w.cell? ⟨b, off + j, none⟩ = some u) :
    Calls Tryz.prog 47 #[.slice a n cap] w (ClP w 48 2 n xs) := by
  obtain ⟨i0, hi, hz0, hz1, hz2⟩ := info_parts infoVE
  have hq := nil_eqVE a n cap w
  have own0 := World.ownsRow_lit (size := 2) (base := w.heap.size) (e := 48) w #[] 0 (Nat.le_refl _) (by decide) rfl
  have hb0 : Below w.heap.size w (w.alloc (.cells #[] 48)) := (Below.refl w.heap.size w).alloc (Nat.le_refl _) _
  by_cases hpos : 0 < n
  · obtain ⟨b, off, rfl, hlt, hc⟩ := hr hpos
    have HC : Hid (∀ j u, xs[j]? = some u → (w.alloc (.cells #[] 48)).cell? ((⟨b, off, none⟩ : Addr).add j) = some u) := hidS fun j u hj => by
      rw [add_plain, hb0.cell (p := ⟨b, off + j, none⟩) hlt]
      exact hc j u hj
    have HD := hidS hx
    have HE := hidS h1
    clear hc hr hx h1
    simp only [Option.isNone_some] at hq
    go_enter Tryz.func47, Tryz.ntmps47
    go_wp2_with (at_builtin; refine wpList_append_lies _ rfl _ _ 30 rfl w.heap.size 48 i0 (.agg #[.string ⟨#[]⟩, .int .u32 0]) 2 24 Tryz.underlying30 hi hz0 hz1 hz2 rfl (by decide) _ 0 [] rfl own0 ⟨b, off, none⟩ n cap xs rfl HD.out HC.out HE.out hpos ?d3 ?d4 ?d5 (w.heap.size + 1) ?d6 ?_)
    case d3 => unfold maxLen; omega
    case d4 => omega
    intro g c w1 hown' hgrow _ _
    have R2 : Below w.heap.size w w1 := hb0.grown hgrow (by simp) (fun k e => by simp [Value.ownBlock] at e; omega)
    try simp only [Nat.zero_add, List.nil_append] at hown'
    clear hgrow own0 hb0 HC HD HE
    have HO := hidS hown'
    clear hown'
    go_wp2
    go_ret
    exact ⟨_, _, rfl, own_capV HO.out, fun _ => HO.out, R2⟩
  · have hl0 : n = 0 := by omega
    subst hl0
    clear hr hpos hx h1
    cases a with
    | none =>
      simp only [Option.isNone_none] at hq
      go_enter Tryz.func47, Tryz.ntmps47
      go_wp2
      go_ret
      exact ⟨_, _, rfl, Nat.zero_le _, fun h => absurd h (by omega), Below.refl _ _⟩
    | some ad =>
      simp only [Option.isNone_some] at hq
      go_enter Tryz.func47, Tryz.ntmps47
      go_wp2_with fail
      go_ret
      exact ⟨_, _, rfl, Nat.zero_le _, fun h => absurd h (by omega), hb0⟩

theorem nil_eqVP (a : Option Addr) (n c : Nat) (w : World) : (binOp .eql 36 (.slice a n c) (.slice none 0 0)).run Tryz.prog w = .ok (.bool a.isNone) w := by
  have e : binOp .eql 36 (.slice a n c) (.slice none 0 0) = (do pure (.bool (← Op.equal 36 (.slice a n c) (.slice none 0 0)))) := rfl
  rw [e, Sem.run_bind, run_equal_slice_nil w _ _ a n c Tryz.underlying36]
  rfl
theorem infoVP : (Tryz.prog.info? 39).map (fun i => (i.zero, i.size, i.bytes)) = some (some (.agg #[.int .u32 0, .int .u32 0, .int .u32 0, .int .i64 0]), 4, 24) := by kernel_rfl
set_option maxHeartbeats 1000000 in
theorem cloneP_any (a : Option Addr) (cap n : Nat) (xs : List Value) (w : World) (hn : n ≤ 1048576) (hx : xs.length = n * 4) (h1 : ∀ u ∈ xs, u.oneCell' = true)
    (hr : 0 < n → ∃ b off, a = some ⟨b, off, none⟩ ∧ b < w.heap.size ∧ ∀ j u, xs[j]? = some u → w.cell? ⟨b, off + j, none⟩ = some u) :
    Calls Tryz.prog 50 #[.slice a n cap] w (ClP w 39 4 n xs) := by
  obtain ⟨i0, hi, hz0, hz1, hz2⟩ := info_parts infoVP
  have hq := nil_eqVP a n cap w
  have own0 := World.ownsRow_lit (size := 4) (base := w.heap.size) (e := 39) w #[] 0 (Nat.le_refl _) (by decide) rfl
  have hb0 : Below w.heap.size w (w.alloc (.cells #[] 39)) := (Below.refl w.heap.size w).alloc (Nat.le_refl _) _
  by_cases hpos : 0 < n
  · obtain ⟨b, off, rfl, hlt, hc⟩ := hr hpos
    have HC : Hid (∀ j u, xs[j]? = some u → (w.alloc (.cells #[] 39)).cell? ((⟨b, off, none⟩ : Addr).add j) = some u) := hidS fun j u hj => by
      rw [add_plain, hb0.cell (p := ⟨b, off + j, none⟩) hlt]
      exact hc j u hj
    have HD := hidS hx
    have HE := hidS h1
    clear hc hr hx h1
    simp only [Option.isNone_some] at hq
    go_enter Tryz.func50, Tryz.ntmps50
    go_wp2_with (at_builtin; refine wpList_append_lies _ rfl _ _ 36 rfl w.heap.size 39 i0 (.agg #[.int .u32 0, .int .u32 0, .int .u32 0, .int .i64 0]) 4 24 Tryz.underlying36 hi hz0 hz1 hz2 rfl (by decide) _ 0 [] rfl own0 ⟨b, off, none⟩ n cap xs rfl HD.out HC.out HE.out hpos ?d3 ?d4 ?d5 (w.heap.size + 1) ?d6 ?_)
    case d3 => unfold maxLen; omega
    case d4 => omega
    intro g c w1 hown' hgrow _ _
    have R2 : Below w.heap.size w w1 := hb0.grown hgrow (by simp) (fun k e => by simp [Value.ownBlock] at e; omega)
    try simp only [Nat.zero_add, List.nil_append] at hown'
    clear hgrow own0 hb0 HC HD HE
    have HO := hidS hown'
    clear hown'
    go_wp2
    go_ret
    exact ⟨_, _, rfl, own_capV HO.out, fun _ => HO.out, R2⟩
  · have hl0 : n = 0 := by omega
    subst hl0
    clear hr hpos hx h1
    cases a with
    | none =>
      simp only [Option.isNone_none] at hq
      go_enter Tryz.func50, Tryz.ntmps50
      go_wp2
      go_ret
      exact ⟨_, _, rfl, Nat.zero_le _, fun h => absurd h (by omega), Below.refl _ _⟩
    | some ad =>
      simp only [Option.isNone_some] at hq
      go_enter Tryz.func50, Tryz.ntmps50
      go_wp2_with fail
      go_ret
      exact ⟨_, _, rfl, Nat.zero_le _, fun h => absurd h (by omega), hb0⟩
end Go.Proofs.YtnalnlbainghoaaGreatDoor
namespace Go.Proofs
open Go.Shelf
def Tryz.laysM316_ren : Go.Shelf.Ren := ⟨fun | 316 => 74 | n => n, fun | 9 => 9 | 3 => 3 | 4 => 4 | 37 => 28 | 0 => 0 | 127 => 183 | 5 => 5 | n => n, fun | n => n⟩
theorem Tryz.laysM316 : Go.Proofs.LaysM.n316 Tryz.prog Tryz.laysM316_ren := {
  mixed := by kernel_rfl
  f316 := Tryz.func74.trans (congrArg some (by kernel_rfl))
  t0 := Tryz.underlying0
  a0 := Tryz.isAgg0
  z0 := Tryz.sizeOf0
  v0 := Tryz.zeroValue0
  t3 := Tryz.underlying3
  a3 := Tryz.isAgg3
  z3 := Tryz.sizeOf3
  v3 := Tryz.zeroValue3
  t4 := Tryz.underlying4
  a4 := Tryz.isAgg4
  z4 := Tryz.sizeOf4
  v4 := Tryz.zeroValue4
  t9 := Tryz.underlying9
  a9 := Tryz.isAgg9
  z9 := Tryz.sizeOf9
  v9 := Tryz.zeroValue9
  t37 := Tryz.underlying28
  a37 := Tryz.isAgg28
  z37 := Tryz.sizeOf28
  v37 := Tryz.zeroValue28
  t127 := Tryz.underlying183
  a127 := Tryz.isAgg183
  z127 := Tryz.sizeOf183
  v127 := Tryz.zeroValue183
  t5 := Tryz.underlying5
  a5 := Tryz.isAgg5
  z5 := Tryz.sizeOf5
  v5 := Tryz.zeroValue5
  i0 := by kernel_rfl
  i3 := by kernel_rfl
  i4 := by kernel_rfl
  i5 := by kernel_rfl
  i9 := by kernel_rfl
  i37 := by kernel_rfl
  i127 := by kernel_rfl }
open Go.RowKit in
theorem Tryz.stringslite_Clone (s : ByteArray) (w : World) (hlim : s.size ≤ 281474976710656) :
    Calls Tryz.prog 74 #[.string s] w fun e w' => e = .returned (.string s) ∧ Below w.heap.size w w' := Any.stringslite_Clone Tryz.laysM316 s w hlim
end Go.Proofs
namespace Go.Proofs.YtnalnlbainghoaaGreatDoor
open Go.RowKit Go.WideShapes
set_option maxRecDepth 100000
theorem sclone_any (s : ByteArray) (w : World) (hs : s.size ≤ 281474976710656) :
    Calls Tryz.prog 48 #[.string s] w fun e w' => e = .returned (.string s) ∧ Below w.heap.size w w' := by
  have hC := Tryz.stringslite_Clone s w hs
  go_enter Tryz.func48, Tryz.ntmps48
  go_wp2_with (go_at_call 74; refine hC.mono ?_; rintro e w1 ⟨rfl, hb⟩)
  go_ret
  exact ⟨rfl, hb⟩
end Go.Proofs.YtnalnlbainghoaaGreatDoor
