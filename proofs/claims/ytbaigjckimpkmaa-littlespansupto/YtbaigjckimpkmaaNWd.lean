import Derived.Test.YtbaigjckimpkmaaMSp
import Derived.Test.YtbaigjckimpkmaaQApJ
import Derived.Test.YtbaigjckimpkmaaLNum
namespace Go.Proofs.Ytbaigjckimpkmaa
open Go.RowKit Go.WideShapes

theorem hid_of {p : Prop} (h : p) : Hid p := h
set_option maxRecDepth 100000
theorem Try.infoD : (Try.prog.info? 25).map (fun i => (i.zero, i.size, i.bytes)) = some (some (.int .u32 0), 1, 4) := by kernel_rfl
/-- words as values -/
def dv (J : List Nat) : List Value := J.map fun (z : Nat) => Value.int .u32 (z : Int)
theorem dv_snoc (J : List Nat) (x : Nat) : dv (J ++ [x]) = dv J ++ [.int .u32 (x : Int)] := by simp [dv]
set_option maxRecDepth 100000

/-- words that are read -/
def JRd (w : World) (ao : Option Addr) (J : List Nat) (B : Nat) : Prop :=
  0 < J.length → ∃ b off, ao = some ⟨b, off, none⟩ ∧ b < B ∧ ∀ j, j < J.length → w.cell? ⟨b, off + j, none⟩ = some (.int .u32 (J.getD j 0 : Nat))
theorem JRd.below {w w' : World} {ao : Option Addr} {J : List Nat} {B : Nat} (h : JRd w ao J B) (hb : Below B w w') : JRd w' ao J B := by
  intro hl
  obtain ⟨b, off, e, hlt, hc⟩ := h hl
  exact ⟨b, off, e, hlt, fun j hj => (hb.cell (p := ⟨b, off + j, none⟩) hlt).trans (hc j hj)⟩
theorem JRd.mono {w : World} {ao : Option Addr} {J : List Nat} {B C : Nat} (h : JRd w ao J B) (hb : B ≤ C) : JRd w ao J C := fun q => by
  obtain ⟨b, o, e1, e2, e3⟩ := h q
  exact ⟨b, o, e1, Nat.lt_of_lt_of_le e2 hb, e3⟩
theorem takeN (J : List Nat) (k : Nat) (h : k < J.length) : J.take (k + 1) = J.take k ++ [J.getD k 0] := by
  rw [List.take_add_one, List.getElem?_eq_getElem h]
  simp [List.getD_eq_getElem?_getD, List.getElem?_eq_getElem h]
def mksW (m : Nat) : List Nat := (List.range m).map fun i => 1000003 + i
theorem mksW_succ (m : Nat) : mksW (m + 1) = mksW m ++ [1000003 + m] := by unfold mksW; rw [List.range_succ, List.map_append]; rfl
theorem mksW_len (m : Nat) : (mksW m).length = m := by simp [mksW]
theorem mksW_get {j : Nat} (h : j < 64) : (mksW 64).getD j 0 = 1000003 + j := by simp [mksW, h]
theorem markw0 (i : Nat) (w : World) (hi : i ≤ 64) :
    Calls Try.prog 40 #[.int .i64 0, .int .i64 i] w fun e w' => e = .returned (.int .u32 (1000003 + (i : Int))) ∧ w' = w := by
  refine (imark_anyW 0 i w (by omega) (by omega)).mono ?_
  rintro e w' ⟨rfl, rfl⟩
  refine ⟨?_, rfl⟩
  rw [imkW, show (1000003 * (0 + 1) + (i : Int)) % 4294967296 = 1000003 + (i : Int) by omega]
theorem ownJ {w : World} {B : Nat} {g cap n : Nat} {J : List Nat} (h : w.ownsRow B 25 1 (.slice (some ⟨g, 0, none⟩) n cap) n (dv J)) (hn : J.length = n) : JRd w (some ⟨g, 0, none⟩) J w.heap.size := fun hp => ⟨g, 0, rfl, (h.lt g rfl).2, fun j hj => by
  rw [Nat.zero_add, h.cellAt j (by omega)]
  simp [dv, hj]⟩
set_option maxRecDepth 100000 in
set_option maxHeartbeats 1000000 in
theorem lentw_any (ao : Option Addr) (cap : Nat) (J : List Nat) (w : World) (hn : J.length ≤ 35184372088704) (hr : JRd w ao J w.heap.size) :
    Calls Try.prog 11 #[.slice ao J.length cap] w fun e w' => ∃ v, e = .returned v ∧ w'.ownsRow w.heap.size 25 1 v (J.length + 64) (dv (J ++ mksW 64)) ∧ Below w.heap.size w w' := by
  obtain ⟨i0, hi, hz0, hz1, hz2⟩ := info_parts Try.infoD
  go_enter Try.func11, Try.ntmps11
  go_wp2
  go_loopw [3, 4] (fun v i wr => ∃ k : Nat, k ≤ J.length ∧ i = .int .i64 k ∧ wr.ownsRow w.heap.size 25 1 v k (dv (J.take k)) ∧ Below w.heap.size w wr)
    (fun _ i _ => J.length - (intOf i).toNat)
  case atStart => exact ⟨0, Nat.zero_le _, rfl, World.ownsRow_nil _ _ _ _, Below.refl _ _⟩
  case round =>
    obtain ⟨k, hk, rfl, hown, hb⟩ := hrel
    by_cases hlt : k < J.length
    · obtain ⟨b, off, rfl, hbl, hc⟩ := (hr.below hb) (by omega)
      have x0 := hc k hlt
      have hB := hb.size
      clear hc
      have HS := hid_of (takeN J k hlt)
      generalize J.getD k 0 = c at x0 HS
      have hltI : (k : Int) < (J.length : Int) := by omega
      go_wp2_with (at_builtin; refine wpList_append_own _ rfl _ _ 31 rfl w.heap.size 25 i0 (.int .u32 0) 1 4 Try.underlying31 hi hz0 hz1 hz2 rfl (by decide) _ _ _ rfl (hown.alloc _) ⟨wr.heap.size, 0, none⟩ 1 1 [.int .u32 c] rfl rfl ?c1 ?c2 ?c3 ?c4 ?c5 ?_)
      case c1 =>
        intro j u hj
        match j, hj with
        | 0, hj => simp at hj; subst hj; simp [Addr.add]
      case c2 => intro u hu; simp at hu; subst hu; rfl
      case c3 => unfold maxLen; omega
      case c4 => omega
      case c5 => simp; omega
      intro v' w1 hown' hgrow _
      have R1 : w1.ownsRow w.heap.size 25 1 v' (k + 1) (dv (J.take (k + 1))) := by rw [HS.out, dv_snoc]; exact hown'
      have R2 := grown_below hb hB hown hgrow
      clear hown' hgrow hown x0
      go_wp2
      go_roundw
      case rel => exact ⟨k + 1, by omega, by go_num, R1, R2⟩
      case measure => simp [intOf]; omega
    · go_wp2
      go_loopw [3, 5] (fun v i wr => ∃ k : Nat, k ≤ 64 ∧ i = .int .i64 k ∧ wr.ownsRow w.heap.size 25 1 v (J.length + k) (dv (J ++ mksW k)) ∧ Below w.heap.size w wr)
        (fun _ i _ => 64 - (intOf i).toNat)
      case atStart => exact ⟨0, by omega, rfl, by simpa [mksW, show k = J.length by omega] using hown, hb⟩
      case round =>
        clear hown hb
        obtain ⟨j, hj, rfl, hown, hb⟩ := hrel
        have hB := hb.size
        by_cases hlt2 : j < 64
        · have hltI : (j : Int) < 64 := by omega
          have hM := hid_of (fun W => markw0 j W (by omega))
          go_wp2_with (first
            | (go_at_call 40; with_reducible refine (hM.out _).mono ?_; rintro e wq ⟨rfl, hq⟩; subst wq)
            | (at_builtin; refine wpList_append_own _ rfl _ _ 31 rfl w.heap.size 25 i0 (.int .u32 0) 1 4 Try.underlying31 hi hz0 hz1 hz2 rfl (by decide) _ _ _ rfl (hown.alloc _) ⟨_, 0, none⟩ 1 1 [.int .u32 (1000003 + (j : Int))] rfl rfl ?d1 ?d2 ?d3 ?d4 ?d5 ?_))
          case d1 =>
            intro j u hj
            match j, hj with
            | 0, hj => simp at hj; subst hj; simp [Addr.add]
          case d2 => intro u hu; simp at hu; subst hu; rfl
          case d3 => unfold maxLen; omega
          case d4 => omega
          case d5 => simp; omega
          intro v' w1 hown' hgrow _
          have R1 : w1.ownsRow w.heap.size 25 1 v' (J.length + (j + 1)) (dv (J ++ mksW (j + 1))) := by
            rw [mksW_succ, ← List.append_assoc, dv_snoc, show ((1000003 + j : Nat) : Int) = 1000003 + (j : Int) by omega]; exact hown'
          have R2 : Below w.heap.size w w1 := grown_below hb hB hown hgrow
          clear hown' hgrow hown hM
          go_wp2
          go_roundw
          case rel => exact ⟨j + 1, by omega, by go_num, R1, R2⟩
          case measure => simp [intOf]; omega
        · go_wp2
          go_ret
          obtain rfl : j = 64 := by omega
          exact ⟨_, rfl, hown, hb⟩
set_option maxRecDepth 100000 in
set_option maxHeartbeats 1000000 in
theorem keptw_any (ao : Option Addr) (cap : Nat) (J : List Nat) (g capF : Nat) (w : World) (hn : J.length ≤ 35184372088704) (hr : JRd w ao J w.heap.size)
    (hcl : JRd w (some ⟨g, 0, none⟩) (J ++ mksW 64) w.heap.size) :
    Calls Try.prog 14 #[.slice (some ⟨g, 0, none⟩) (J.length + 64) capF, .slice ao J.length cap] w fun e w' => e = .returned (.bool true) ∧ Below w.heap.size w w' := by
  obtain ⟨b', off', e', hgl, hcc⟩ := hcl (by simp [mksW_len])
  simp only [Option.some.injEq, Addr.mk.injEq] at e'
  obtain ⟨rfl, rfl, _⟩ := e'
  have HC := hid_of hcc
  clear hcc hcl
  go_enter Try.func14, Try.ntmps14
  go_wp2
  go_loopw [5] (fun i wr => ∃ k : Nat, k ≤ J.length ∧ i = .int .i64 k ∧ Below w.heap.size w wr)
    (fun i _ => J.length - (intOf i).toNat)
  case atStart => exact ⟨0, Nat.zero_le _, rfl, Below.refl _ _⟩
  case round =>
    obtain ⟨k, hk, rfl, hb⟩ := hrel
    by_cases hlt : k < J.length
    · obtain ⟨b, off, rfl, hbl, hc⟩ := (hr.below hb) (by omega)
      have x0 := hc k hlt
      have hk0 := HC.out k (by simp [mksW_len]; omega)
      rw [show (J ++ mksW 64).getD k 0 = J.getD k 0 by simp [List.getD, List.getElem?_append_left hlt], Nat.zero_add] at hk0
      have y0 := (hb.cell (p := ⟨g, k, none⟩) hgl).trans hk0
      clear hc hk0
      generalize J.getD k 0 = c at x0 y0
      have hlt' : (k : Int) < (J.length : Int) := by omega
      have hlt2 : (k : Int) < (J.length : Int) + 64 := by omega
      go_wp2
      go_quiet (fail)
      go_wp2
      go_roundw
      case rel => exact ⟨k + 1, by omega, by go_num, below_drewN hb nq⟩
      case measure => simp [intOf]; omega
    · go_wp2
      go_loopw [6] (fun i wr => ∃ k : Nat, k ≤ 64 ∧ i = .int .i64 k ∧ Below w.heap.size w wr)
        (fun i _ => 64 - (intOf i).toNat)
      case atStart => exact ⟨0, by omega, rfl, hb⟩
      case round =>
        clear hb
        obtain ⟨j, hj, rfl, hb⟩ := hrel
        by_cases hlt2 : j < 64
        · have hk0 := HC.out (J.length + j) (by simp [mksW_len]; omega)
          rw [show (J ++ mksW 64).getD (J.length + j) 0 = 1000003 + j by
            rw [← mksW_get hlt2]
            simp only [List.getD]
            rw [List.getElem?_append_right (by omega), Nat.add_sub_cancel_left], Nat.zero_add, show ((1000003 + j : Nat) : Int) = 1000003 + (j : Int) by omega] at hk0
          obtain ⟨q, hq⟩ : ∃ q, q = J.length + j := ⟨_, rfl⟩
          rw [← hq] at hk0
          have y0 := (hb.cell (p := ⟨g, q, none⟩) hgl).trans hk0
          have hwr : IntKind.i64.wrap ((J.length : Int) + (j : Int)) = (q : Int) := by rw [IntKind.wrap_i64]; omega
          have hq0 : (0 : Int) ≤ (q : Int) := by omega
          have hq1 : (q : Int) < (J.length : Int) + 64 := by omega
          have hltI : (j : Int) < 64 := by omega
          have hM := hid_of (fun W => markw0 j W (by omega))
          have hlt3 : (J.length : Int) + (j : Int) < (J.length : Int) + 64 := by omega
          have hsum : (J.length : Int) + (j : Int) = (q : Int) := by omega
          clear hk0 hq
          go_wp2
          go_quiet (with_reducible refine Calls.quiet_of_same (hM.out _))
          go_wp2
          go_roundw
          case rel => exact ⟨j + 1, by omega, by go_num, below_drewN hb nq⟩
          case measure => simp [intOf]; omega
        · go_wp2
          go_ret
          exact ⟨rfl, hb⟩
theorem jrd_k {w : World} {ao : Option Addr} {J : List Nat} {B : Nat} (h : JRd w ao J B) : ReadsK w .u32 ao (J.map fun (n : Nat) => (n : Int)) B := fun hp => by
  rw [List.length_map] at hp
  obtain ⟨b, off, e, hl, hc⟩ := h hp
  refine ⟨b, off, e, hl, fun j hj => ?_⟩
  rw [List.length_map] at hj
  rw [hc j hj]
  simp [List.getD_eq_getElem?_getD, hj]
end Go.Proofs.Ytbaigjckimpkmaa
