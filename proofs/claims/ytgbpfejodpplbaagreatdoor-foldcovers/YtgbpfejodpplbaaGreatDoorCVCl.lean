import Derived.Test.YtgbpfejodpplbaaGreatDoorCPIn
import Derived.Test.YtgbpfejodpplbaaGreatDoorCLBase
import Derived.Deep.AppendLies
import Derived.Shelf.LaysM
import Derived.Shelf.Strconv.Clone
import Derived.Test.YtgbpfejodpplbaaGreatDoorProg
namespace Go.Proofs.YtgbpfejodpplbaaGreatDoor
open Go.RowKit Go.WideShapes
set_option maxRecDepth 100000
/-- what slices.Clone leaves -/
def ClP (w : World) (e sz n : Nat) (xs : List Value) (en : Ending) (w' : World) : Prop := ∃ a c, en = .returned (.slice a n c) ∧ n ≤ c ∧ (0 < n → w'.ownsRow w.heap.size e sz (.slice a n c) n xs) ∧ Below w.heap.size w w'
theorem own_capV {w : World} {B e sz n c : Nat} {a : Option Addr} {xs : List Value} (h : w.ownsRow B e sz (.slice a n c) n xs) : n ≤ c := by
  rcases h.2 with ⟨e1, hz⟩ | ⟨g', cap', cur, e1, _, _, hc, _⟩
  · omega
  · simp only [Value.slice.injEq] at e1
    rw [e1.2.2]; exact hc

theorem nil_eqVI (a : Option Addr) (n c : Nat) (w : World) : (binOp .eql 22 (.slice a n c) (.slice none 0 0)).run Tryz.prog w = .ok (.bool a.isNone) w := by
  have e : binOp .eql 22 (.slice a n c) (.slice none 0 0) = (do pure (.bool (← Op.equal 22 (.slice a n c) (.slice none 0 0)))) := rfl
  rw [e, Sem.run_bind, run_equal_slice_nil w _ _ a n c Tryz.underlying22]
  rfl
theorem infoVI : (Tryz.prog.info? 43).map (fun i => (i.zero, i.size, i.bytes)) = some (some (.agg #[.int .u8 0, .int .u32 0]), 2, 8) := by kernel_rfl
set_option maxHeartbeats 1000000 in
theorem cloneI_any (a : Option Addr) (cap n : Nat) (xs : List Value) (w : World) (hn : n ≤ 1048576) (hx : xs.length = n * 2) (h1 : ∀ u ∈ xs, u.oneCell' = true)
    (hr : 0 < n → ∃ b off, a = some ⟨b, off, none⟩ ∧ b < w.heap.size ∧ ∀ j u, xs[j]? = some u → w.cell? ⟨b, off + j, none⟩ = some u) :
    Calls Tryz.prog 30 #[.slice a n cap] w (ClP w 43 2 n xs) := by
  obtain ⟨i0, hi, hz0, hz1, hz2⟩ := info_parts infoVI
  have hq := nil_eqVI a n cap w
  have own0 := World.ownsRow_lit (size := 2) (base := w.heap.size) (e := 43) w #[] 0 (Nat.le_refl _) (by decide) rfl
  have hb0 : Below w.heap.size w (w.alloc (.cells #[] 43)) := (Below.refl w.heap.size w).alloc (Nat.le_refl _) _
  by_cases hpos : 0 < n
  · obtain ⟨b, off, rfl, hlt, hc⟩ := hr hpos
    have HC : Hid (∀ j u, xs[j]? = some u → (w.alloc (.cells #[] 43)).cell? ((⟨b, off, none⟩ : Addr).add j) = some u) := hidS fun j u hj => by
      rw [add_plain, hb0.cell (p := ⟨b, off + j, none⟩) hlt]
      exact hc j u hj
    have HD := hidS hx
    have HE := hidS h1
    clear hc hr hx h1
    simp only [Option.isNone_some] at hq
    go_enter Tryz.func30, Tryz.ntmps30
    go_wp2_with (at_builtin; refine wpList_append_lies _ rfl _ _ 22 rfl w.heap.size 43 i0 (.agg #[.int .u8 0, .int .u32 0]) 2 8 Tryz.underlying22 hi hz0 hz1 hz2 rfl (by decide) _ 0 [] rfl own0 ⟨b, off, none⟩ n cap xs rfl HD.out HC.out HE.out hpos ?d3 ?d4 ?d5 (w.heap.size + 1) ?d6 ?_)
    case d3 => unfold maxLen; omega
    case d4 => omega
    intro g c w1 hown' hgrow _ _
    have R2 : Below w.heap.size w w1 := hb0.grown hgrow (by simp) (fun k e => by simp [Value.ownBlock] at e; omega)
    try simp only [Nat.zero_add, List.nil_append] at hown'
    clear hgrow own0 hb0 HC HD HE
    have HO := hidS hown'
    clear hown'
    go_wp2
    go_ret
    exact ⟨_, _, rfl, own_capV HO.out, fun _ => HO.out, R2⟩
  · have hl0 : n = 0 := by omega
    subst hl0
    clear hr hpos hx h1
    cases a with
    | none =>
      simp only [Option.isNone_none] at hq
      go_enter Tryz.func30, Tryz.ntmps30
      go_wp2
      go_ret
      exact ⟨_, _, rfl, Nat.zero_le _, fun h => absurd h (by omega), Below.refl _ _⟩
    | some ad =>
      simp only [Option.isNone_some] at hq
      go_enter Tryz.func30, Tryz.ntmps30
      go_wp2_with fail
      go_ret
      exact ⟨_, _, rfl, Nat.zero_le _, fun h => absurd h (by omega), hb0⟩

theorem nil_eqVW (a : Option Addr) (n c : Nat) (w : World) : (binOp .eql 23 (.slice a n c) (.slice none 0 0)).run Tryz.prog w = .ok (.bool a.isNone) w := by
  have e : binOp .eql 23 (.slice a n c) (.slice none 0 0) = (do pure (.bool (← Op.equal 23 (.slice a n c) (.slice none 0 0)))) := rfl
  rw [e, Sem.run_bind, run_equal_slice_nil w _ _ a n c Tryz.underlying23]
  rfl
theorem infoVW : (Tryz.prog.info? 25).map (fun i => (i.zero, i.size, i.bytes)) = some (some (.int .u32 0), 1, 4) := by kernel_rfl
set_option maxHeartbeats 1000000 in
theorem cloneW_any (a : Option Addr) (cap n : Nat) (xs : List Value) (w : World) (hn : n ≤ 1048576) (hx : xs.length = n * 1) (h1 : ∀ u ∈ xs, u.oneCell' = true)
    (hr : 0 < n → ∃ b off, a = some ⟨b, off, none⟩ ∧ b < w.heap.size ∧ ∀ j u, xs[j]? = some u → w.cell? ⟨b, off + j, none⟩ = some u) :
    Calls Tryz.prog 31 #[.slice a n cap] w (ClP w 25 1 n xs) := by
  obtain ⟨i0, hi, hz0, hz1, hz2⟩ := info_parts infoVW
  have hq := nil_eqVW a n cap w
  have own0 := World.ownsRow_lit (size := 1) (base := w.heap.size) (e := 25) w #[] 0 (Nat.le_refl _) (by decide) rfl
  have hb0 : Below w.heap.size w (w.alloc (.cells #[] 25)) := (Below.refl w.heap.size w).alloc (Nat.le_refl _) _
  by_cases hpos : 0 < n
  · obtain ⟨b, off, rfl, hlt, hc⟩ := hr hpos
    have HC : Hid (∀ j u, xs[j]? = some u → (w.alloc (.cells #[] 25)).cell? ((⟨b, off, none⟩ : Addr).add j) = some u) := hidS fun j u hj => by
      rw [add_plain, hb0.cell (p := ⟨b, off + j, none⟩) hlt]
      exact hc j u hj
    have HD := hidS hx
    have HE := hidS h1
    clear hc hr hx h1
    simp only [Option.isNone_some] at hq
    go_enter Tryz.func31, Tryz.ntmps31
    go_wp2_with (at_builtin; refine wpList_append_lies _ rfl _ _ 23 rfl w.heap.size 25 i0 (.int .u32 0) 1 4 Tryz.underlying23 hi hz0 hz1 hz2 rfl (by decide) _ 0 [] rfl own0 ⟨b, off, none⟩ n cap xs rfl HD.out HC.out HE.out hpos ?d3 ?d4 ?d5 (w.heap.size + 1) ?d6 ?_)
    case d3 => unfold maxLen; omega
    case d4 => omega
    intro g c w1 hown' hgrow _ _
    have R2 : Below w.heap.size w w1 := hb0.grown hgrow (by simp) (fun k e => by simp [Value.ownBlock] at e; omega)
    try simp only [Nat.zero_add, List.nil_append] at hown'
    clear hgrow own0 hb0 HC HD HE
    have HO := hidS hown'
    clear hown'
    go_wp2
    go_ret
    exact ⟨_, _, rfl, own_capV HO.out, fun _ => HO.out, R2⟩
  · have hl0 : n = 0 := by omega
    subst hl0
    clear hr hpos hx h1
    cases a with
    | none =>
      simp only [Option.isNone_none] at hq
      go_enter Tryz.func31, Tryz.ntmps31
      go_wp2
      go_ret
      exact ⟨_, _, rfl, Nat.zero_le _, fun h => absurd h (by omega), Below.refl _ _⟩
    | some ad =>
      simp only [Option.isNone_some] at hq
      go_enter Tryz.func31, Tryz.ntmps31
      go_wp2_with fail
      go_ret
      exact ⟨_, _, rfl, Nat.zero_le _, fun h => absurd h (by omega), hb0⟩

theorem nil_eqVB (a : Option Addr) (n c : Nat) (w : World) : (binOp .eql 24 (.slice a n c) (.slice none 0 0)).run Tryz.prog w = .ok (.bool a.isNone) w := by
  have e : binOp .eql 24 (.slice a n c) (.slice none 0 0) = (do pure (.bool (← Op.equal 24 (.slice a n c) (.slice none 0 0)))) := rfl
  rw [e, Sem.run_bind, run_equal_slice_nil w _ _ a n c Tryz.underlying24]
  rfl
theorem infoVB : (Tryz.prog.info? 5).map (fun i => (i.zero, i.size, i.bytes)) = some (some (.int .u8 0), 1, 1) := by kernel_rfl
set_option maxHeartbeats 1000000 in
theorem cloneB_any (a : Option Addr) (cap n : Nat) (xs : List Value) (w : World) (hn : n ≤ 1048576) (hx : xs.length = n * 1) (h1 : ∀ u ∈ xs, u.oneCell' = true)
    (hr : 0 < n → ∃ b off, a = some ⟨b, off, none⟩ ∧ b < w.heap.size ∧ ∀ j u, xs[j]? = some u → w.cell? ⟨b, off + j, none⟩ = some u) :
    Calls Tryz.prog 32 #[.slice a n cap] w (ClP w 5 1 n xs) := by
  obtain ⟨i0, hi, hz0, hz1, hz2⟩ := info_parts infoVB
  have hq := nil_eqVB a n cap w
  have own0 := World.ownsRow_lit (size := 1) (base := w.heap.size) (e := 5) w #[] 0 (Nat.le_refl _) (by decide) rfl
  have hb0 : Below w.heap.size w (w.alloc (.cells #[] 5)) := (Below.refl w.heap.size w).alloc (Nat.le_refl _) _
  by_cases hpos : 0 < n
  · obtain ⟨b, off, rfl, hlt, hc⟩ := hr hpos
    have HC : Hid (∀ j u, xs[j]? = some u → (w.alloc (.cells #[] 5)).cell? ((⟨b, off, none⟩ : Addr).add j) = some u) := hidS fun j u hj => by
      rw [add_plain, hb0.cell (p := ⟨b, off + j, none⟩) hlt]
      exact hc j u hj
    have HD := hidS hx
    have HE := hidS h1
    clear hc hr hx h1
    simp only [Option.isNone_some] at hq
    go_enter Tryz.func32, Tryz.ntmps32
    go_wp2_with (at_builtin; refine wpList_append_lies _ rfl _ _ 24 rfl w.heap.size 5 i0 (.int .u8 0) 1 1 Tryz.underlying24 hi hz0 hz1 hz2 rfl (by decide) _ 0 [] rfl own0 ⟨b, off, none⟩ n cap xs rfl HD.out HC.out HE.out hpos ?d3 ?d4 ?d5 (w.heap.size + 1) ?d6 ?_)
    case d3 => unfold maxLen; omega
    case d4 => omega
    intro g c w1 hown' hgrow _ _
    have R2 : Below w.heap.size w w1 := hb0.grown hgrow (by simp) (fun k e => by simp [Value.ownBlock] at e; omega)
    try simp only [Nat.zero_add, List.nil_append] at hown'
    clear hgrow own0 hb0 HC HD HE
    have HO := hidS hown'
    clear hown'
    go_wp2
    go_ret
    exact ⟨_, _, rfl, own_capV HO.out, fun _ => HO.out, R2⟩
  · have hl0 : n = 0 := by omega
    subst hl0
    clear hr hpos hx h1
    cases a with
    | none =>
      simp only [Option.isNone_none] at hq
      go_enter Tryz.func32, Tryz.ntmps32
      go_wp2
      go_ret
      exact ⟨_, _, rfl, Nat.zero_le _, fun h => absurd h (by omega), Below.refl _ _⟩
    | some ad =>
      simp only [Option.isNone_some] at hq
      go_enter Tryz.func32, Tryz.ntmps32
      go_wp2_with fail
      go_ret
      exact ⟨_, _, rfl, Nat.zero_le _, fun h => absurd h (by omega), hb0⟩

theorem nil_eqVE (a : Option Addr) (n c : Nat) (w : World) : (binOp .eql 26 (.slice a n c) (.slice none 0 0)).run Tryz.prog w = .ok (.bool a.isNone) w := by
  have e : binOp .eql 26 (.slice a n c) (.slice none 0 0) = (do pure (.bool (← Op.equal 26 (.slice a n c) (.slice none 0 0)))) := rfl
  rw [e, Sem.run_bind, run_equal_slice_nil w _ _ a n c Tryz.underlying26]
  rfl
theorem infoVE : (Tryz.prog.info? 64).map (fun i => (i.zero, i.size, i.bytes)) = some (some (.agg #[.string ⟨#[]⟩, .int .u32 0]), 2, 24) := by kernel_rfl
set_option maxHeartbeats 1000000 in
theorem cloneE_any (a : Option Addr) (cap n : Nat) (xs : List Value) (w : World) (hn : n ≤ 1048576) (hx : xs.length = n * 2) (h1 : ∀ u ∈ xs, u.oneCell' = true)
    (hr : 0 < n → ∃ b off, a = some ⟨b, off, none⟩ ∧ b < w.heap.size ∧ ∀ j u, xs[j]? = some u → w.cell? ⟨b, off + j, none⟩ = some u) :
    Calls Tryz.prog 33 #[.slice a n cap] w (ClP w 64 2 n xs) := by
  obtain ⟨i0, hi, hz0, hz1, hz2⟩ := info_parts infoVE
  have hq := nil_eqVE a n cap w
  have own0 := World.ownsRow_lit (size := 2) (base := w.heap.size) (e := 64) w #[] 0 (Nat.le_refl _) (by decide) rfl
  have hb0 : Below w.heap.size w (w.alloc (.cells #[] 64)) := (Below.refl w.heap.size w).alloc (Nat.le_refl _) _
  by_cases hpos : 0 < n
  · obtain ⟨b, off, rfl, hlt, hc⟩ := hr hpos
    have HC : Hid (∀ j u, xs[j]? = some u → (w.alloc (.cells #[] 64)).cell? ((⟨b, off, none⟩ : Addr).add j) = some u) := hidS fun j u hj => by
      rw [add_plain, hb0.cell (p := ⟨b, off + j, none⟩) hlt]
      exact hc j u hj
    have HD := hidS hx
    have HE := hidS h1
    clear hc hr hx h1
    simp only [Option.isNone_some] at hq
    go_enter Tryz.func33, Tryz.ntmps33
    go_wp2_with (at_builtin; refine wpList_append_lies _ rfl _ _ 26 rfl w.heap.size 64 i0 (.agg #[.string ⟨#[]⟩, .int .u32 0]) 2 24 Tryz.underlying26 hi hz0 hz1 hz2 rfl (by decide) _ 0 [] rfl own0 ⟨b, off, none⟩ n cap xs rfl HD.out HC.out HE.out hpos ?d3 ?d4 ?d5 (w.heap.size + 1) ?d6 ?_)
    case d3 => unfold maxLen; omega
    case d4 => omega
    intro g c w1 hown' hgrow _ _
    have R2 : Below w.heap.size w w1 := hb0.grown hgrow (by simp) (fun k e => by simp [Value.ownBlock] at e; omega)
    try simp only [Nat.zero_add, List.nil_append] at hown'
    clear hgrow own0 hb0 HC HD HE
    have HO := hidS hown'
    clear hown'
    go_wp2
    go_ret
    exact ⟨_, _, rfl, own_capV HO.out, fun _ => HO.out, R2⟩
  · have hl0 : n = 0 := by omega
    subst hl0
    clear hr hpos hx h1
    cases a with
    | none =>
      simp only [Option.isNone_none] at hq
      go_enter Tryz.func33, Tryz.ntmps33
      go_wp2
      go_ret
      exact ⟨_, _, rfl, Nat.zero_le _, fun h => absurd h (by omega), Below.refl _ _⟩
    | some ad =>
      simp only [Option.isNone_some] at hq
      go_enter Tryz.func33, Tryz.ntmps33
      go_wp2_with fail
      go_ret
      exact ⟨_, _, rfl, Nat.zero_le _, fun h => absurd h (by omega), hb0⟩

theorem nil_eqVP (a : Option Addr) (n c : Nat) (w : World) : (binOp .eql 55 (.slice a n c) (.slice none 0 0)).run Tryz.prog w = .ok (.bool a.isNone) w := by
  have e : binOp .eql 55 (.slice a n c) (.slice none 0 0) = (do pure (.bool (← Op.equal 55 (.slice a n c) (.slice none 0 0)))) := rfl
  rw [e, Sem.run_bind, run_equal_slice_nil w _ _ a n c Tryz.underlying55]
  rfl
theorem infoVP : (Tryz.prog.info? 94).map (fun i => (i.zero, i.size, i.bytes)) = some (some (.agg #[.int .u32 0, .int .u32 0, .int .u32 0, .int .i64 0]), 4, 24) := by kernel_rfl
end Go.Proofs.YtgbpfejodpplbaaGreatDoor
namespace Go.Proofs
open Go.Shelf
def Tryz.laysM316_ren : Go.Shelf.Ren := ⟨fun | 316 => 55 | n => n, fun | 9 => 9 | 3 => 3 | 4 => 4 | 37 => 24 | 0 => 0 | 127 => 167 | 5 => 5 | n => n, fun | n => n⟩
theorem Tryz.laysM316 : Go.Proofs.LaysM.n316 Tryz.prog Tryz.laysM316_ren := {
  mixed := by kernel_rfl
  f316 := Tryz.func55.trans (congrArg some (by kernel_rfl))
  t0 := Tryz.underlying0
  a0 := Tryz.isAgg0
  z0 := Tryz.sizeOf0
  v0 := Tryz.zeroValue0
  t3 := Tryz.underlying3
  a3 := Tryz.isAgg3
  z3 := Tryz.sizeOf3
  v3 := Tryz.zeroValue3
  t4 := Tryz.underlying4
  a4 := Tryz.isAgg4
  z4 := Tryz.sizeOf4
  v4 := Tryz.zeroValue4
  t9 := Tryz.underlying9
  a9 := Tryz.isAgg9
  z9 := Tryz.sizeOf9
  v9 := Tryz.zeroValue9
  t37 := Tryz.underlying24
  a37 := Tryz.isAgg24
  z37 := Tryz.sizeOf24
  v37 := Tryz.zeroValue24
  t127 := Tryz.underlying167
  a127 := Tryz.isAgg167
  z127 := Tryz.sizeOf167
  v127 := Tryz.zeroValue167
  t5 := Tryz.underlying5
  a5 := Tryz.isAgg5
  z5 := Tryz.sizeOf5
  v5 := Tryz.zeroValue5
  i0 := by kernel_rfl
  i3 := by kernel_rfl
  i4 := by kernel_rfl
  i5 := by kernel_rfl
  i9 := by kernel_rfl
  i37 := by kernel_rfl
  i127 := by kernel_rfl }
open Go.RowKit in
theorem Tryz.stringslite_Clone (s : ByteArray) (w : World) (hlim : s.size ≤ 281474976710656) :
    Calls Tryz.prog 55 #[.string s] w fun e w' => e = .returned (.string s) ∧ Below w.heap.size w w' := Any.stringslite_Clone Tryz.laysM316 s w hlim
end Go.Proofs
namespace Go.Proofs.YtgbpfejodpplbaaGreatDoor
open Go.RowKit Go.WideShapes
set_option maxRecDepth 100000
theorem sclone_any (s : ByteArray) (w : World) (hs : s.size ≤ 281474976710656) :
    Calls Tryz.prog 34 #[.string s] w fun e w' => e = .returned (.string s) ∧ Below w.heap.size w w' := by
  have hC := Tryz.stringslite_Clone s w hs
  go_enter Tryz.func34, Tryz.ntmps34
  go_wp2_with (go_at_call 55; refine hC.mono ?_; rintro e w1 ⟨rfl, hb⟩)
  go_ret
  exact ⟨rfl, hb⟩
end Go.Proofs.YtgbpfejodpplbaaGreatDoor
