import Derived.Test.YtnjglagfpghbjaaDoorRows
import Derived.WalkKit
import Derived.Laws.BitsAllLaws
import Derived.Deep.QuietTactic
import Derived.BigQuiet
import Derived.WalkSmall
import Derived.Laws.AppendOwn
import Derived.WideShapes
import Derived.Laws.Cover3
import Derived.ProofKit
import Derived.OpenShut
import Derived.SizedLaws
import Derived.JoinedCond
namespace Go.Proofs.YtnjglagfpghbjaaDoor
open Go.RowKit
set_option maxRecDepth 100000

theorem Tryd.info5 : (Tryd.prog.info? 5).map (fun i => (i.zero, i.size, i.bytes)) = some (some (.int .u8 0), 1, 1) := by kernel_rfl

/-- bytes as values -/
def bv (L : List Int) : List Value := L.map (Value.int .u8)
theorem bv_append (L M : List Int) : bv (L ++ M) = bv L ++ bv M := by simp [bv]
theorem bv_len (L : List Int) : (bv L).length = L.length := by simp [bv]
theorem bv_one (x : Int) : bv [x] = [.int .u8 x] := rfl

/-- what a slice of bytes that is read holds -/
def Reads (w : World) (ao : Option Addr) (zs : List Int) (B : Nat) : Prop :=
  0 < zs.length → ∃ b off, ao = some ⟨b, off, none⟩ ∧ b < B ∧ ∀ j, j < zs.length → w.cell? ⟨b, off + j, none⟩ = some (.int .u8 (zs.getD j 0))

theorem Reads.below {w w' : World} {ao : Option Addr} {zs : List Int} {B : Nat} (h : Reads w ao zs B) (hb : Below B w w') : Reads w' ao zs B := by
  intro hl
  obtain ⟨b, off, e, hlt, hc⟩ := h hl
  exact ⟨b, off, e, hlt, fun j hj => (hb.cell (p := ⟨b, off + j, none⟩) hlt).trans (hc j hj)⟩
theorem Reads.mono {w : World} {ao : Option Addr} {zs : List Int} {B C : Nat} (h : Reads w ao zs B) (hb : B ≤ C) : Reads w ao zs C := by
  intro hl
  obtain ⟨b, off, e, hlt, hc⟩ := h hl
  exact ⟨b, off, e, Nat.lt_of_lt_of_le hlt hb, hc⟩
theorem Reads.nil (w : World) (ao : Option Addr) (B : Nat) : Reads w ao [] B := fun h => by simp at h

theorem take_snoc (zs : List Int) (k : Nat) (h : k < zs.length) : zs.take (k + 1) = zs.take k ++ [zs.getD k 0] := by
  rw [List.take_succ_eq_append_getElem h]
  simp [List.getD, List.getElem?_eq_getElem h]
theorem getD_mem {zs : List Int} {k : Nat} (h : k < zs.length) : zs.getD k 0 ∈ zs := by
  simp [List.getD, List.getElem?_eq_getElem h]

theorem own_snoc {w1 : World} {B : Nat} {v' : Value} {L M : List Int} {n : Nat} {x : Int} (hM : M = L ++ [x])
    (h : w1.ownsRow B 5 1 v' (n + 1) (bv L ++ [.int .u8 x])) : w1.ownsRow B 5 1 v' (n + 1) (bv M) := by
  rw [hM, bv_append]; exact h
theorem grown_below {B e sz : Nat} {a w w' : World} {xs : List Value} {v : Value} {n : Nat} {o : Obj} (h : Below B a w) (hB : B ≤ w.heap.size) (hown : w.ownsRow B e sz v n xs) (hg : (w.alloc o).grownBy w' v.ownBlock) : Below B a w' :=
  (h.alloc hB o).grown hg (by simp; omega) (fun k e => (hown.lt k e).1)
theorem own_cell {w1 : World} {B g n cap : Nat} {L : List Int} (h : w1.ownsRow B 5 1 (.slice (some ⟨g, 0, none⟩) n cap) L.length (bv L)) {i : Nat} (hi : i < L.length) : w1.cell? ⟨g, 0 + i, none⟩ = some (.int .u8 (L.getD i 0)) := by
  have := h.cells (g := g) rfl i (.int .u8 (L.getD i 0)) (by simp [bv, List.getD, List.getElem?_eq_getElem hi])
  have hadd : (⟨g, 0, none⟩ : Addr).add i = ⟨g, 0 + i, none⟩ := by unfold Addr.add; split <;> simp_all
  rw [← hadd]; exact this
theorem own_reads {w : World} {B : Nat} {v : Value} {zs : List Int} (h : w.ownsRow B 5 1 v zs.length (bv zs)) : ∃ ao cap, v = .slice ao zs.length cap ∧ Reads w ao zs w.heap.size := by
  have h' := h
  have hlt := h.lt
  rcases h.2 with ⟨rfl, hz⟩ | ⟨g, cap, cur, rfl, _⟩
  · have hl : zs.length = 0 := by simpa using hz
    exact ⟨none, 0, by rw [hl], fun hp => by omega⟩
  · exact ⟨_, cap, rfl, fun _ => ⟨g, 0, rfl, (hlt g rfl).2, fun j hj => own_cell h' hj⟩⟩
theorem ret_int {k : IntKind} {a b : Int} (h : a = b) : Ending.returned (.int k a) = .returned (.int k b) := by rw [h]
theorem below_drewN {B : Nat} {a w : World} (h : Below B a w) (n : Nat) : Below B a (w.drewN n) := h.trans ⟨rfl, rfl, rfl, Nat.le_refl _, fun _ _ => rfl⟩
end Go.Proofs.YtnjglagfpghbjaaDoor
namespace Go.Proofs.YtnjglagfpghbjaaDoor
open Go.RowKit
set_option maxRecDepth 100000

/-- The mark of place i of list k. -/
def mk (k i : Int) : Int :=
  bits BinOp.xor IntKind.u32 (((k + 2) * 2654435761 + i * 2246822519) % 4294967296) (((k + 2) * 2654435761 + i * 2246822519) % 4294967296 / 32768) * 739982445 % 4294967296 / 16777216

theorem mk_range (k i : Int) : 0 ≤ mk k i ∧ mk k i ≤ 255 := by
  unfold mk
  generalize bits BinOp.xor IntKind.u32 _ _ = x
  omega



theorem mk_mod (k i : Int) : ((k + 2) % 4294967296 * 2654435761 + i % 4294967296 * 2246822519) % 4294967296 = ((k + 2) * 2654435761 + i * 2246822519) % 4294967296 := by omega

set_option maxHeartbeats 400000 in
theorem mark_any (k i : Int) (w : World) (hk : -1 ≤ k ∧ k ≤ 1000000000000000000) (hi : 0 ≤ i ∧ i ≤ 1000000000000000000) :
    Calls Tryd.prog 55 #[.int .i64 k, .int .i64 i] w fun e w' => e = .returned (.int .u8 (mk k i)) ∧ w' = w := by
  obtain ⟨hk0, hk1⟩ := hk
  obtain ⟨hi0, hi1⟩ := hi
  go_enter Tryd.func55, Tryd.ntmps55
  go_wp2
  go_ret
  refine ⟨ret_int ?_, rfl⟩
  unfold mk
  rw [mk_mod]

def marks (k : Int) (m : Nat) : List Int := (List.range m).map fun (i : Nat) => mk k (i : Int)
theorem marks_succ (k : Int) (m : Nat) : marks k (m + 1) = marks k m ++ [mk k (m : Int)] := by
  simp [marks, List.range_succ]
theorem marks_len (k : Int) (m : Nat) : (marks k m).length = m := by simp [marks]
theorem marks_wf (k : Int) (n : Nat) : ∀ z ∈ marks k n, 0 ≤ z ∧ z ≤ 255 := by
  intro z hz
  simp only [marks, List.mem_map] at hz
  obtain ⟨i, _, rfl⟩ := hz
  exact mk_range _ _
theorem marks_take (k : Int) (n m : Nat) : marks k n = (marks k (n + m)).take n := by
  simp [marks, ← List.map_take, List.take_range]
theorem own_get {w1 : World} {B g n cap : Nat} {L : List Int} (h : w1.ownsRow B 5 1 (.slice (some ⟨g, 0, none⟩) n cap) n (bv L)) {i : Nat} (hi : i < L.length) : w1.cell? ⟨g, i, none⟩ = some (.int .u8 (L.getD i 0)) := by
  have := h.cells (g := g) rfl i (.int .u8 (L.getD i 0)) (by simp [bv, List.getD, List.getElem?_eq_getElem hi])
  have hadd : (⟨g, 0, none⟩ : Addr).add i = ⟨g, 0 + i, none⟩ := by unfold Addr.add; split <;> simp_all
  rw [hadd, Nat.zero_add] at this; exact this
theorem grown_of_below {w w' : World} (h : Below w.heap.size w w') : w.grownBy w' none := ⟨h.os, h.tape, h.output, h.size, fun k hk _ => h.block k hk⟩
theorem own_below {w w' : World} {B e sz : Nat} {v : Value} {n : Nat} {xs : List Value} (h : w.ownsRow B e sz v n xs) (hb : Below w.heap.size w w') : w'.ownsRow B e sz v n xs :=
  h.kept (grown_of_below hb) (by cases hv : v.ownBlock <;> simp)
theorem own_form {w : World} {B e sz : Nat} {v : Value} {n : Nat} {xs : List Value} (h : w.ownsRow B e sz v n xs) (hn : 0 < n) : ∃ g c, v = .slice (some ⟨g, 0, none⟩) n c ∧ n ≤ c := by
  rcases h.2 with ⟨_, rfl⟩ | ⟨g, cap, cur, rfl, _, _, hc, _⟩
  · omega
  · exact ⟨g, cap, rfl, hc⟩
theorem reads_own {w : World} {B g m cap : Nat} {L zs : List Int} (h : w.ownsRow B 5 1 (.slice (some ⟨g, 0, none⟩) m cap) m (bv L)) (hz : zs = L.take zs.length) : Reads w (some ⟨g, 0, none⟩) zs w.heap.size := by
  intro _
  refine ⟨g, 0, rfl, (h.lt g rfl).2, fun j hj => ?_⟩
  have hl : zs.length ≤ L.length := by
    have := congrArg List.length hz
    simp at this
    omega
  rw [Nat.zero_add, own_get h (by omega)]
  rw [hz]
  simp [hj]

set_option maxRecDepth 100000 in
set_option maxHeartbeats 1000000 in
theorem lent_any (ao : Option Addr) (cap : Nat) (zs : List Int) (w : World) (hn : zs.length ≤ 140737488351232) (hr : Reads w ao zs w.heap.size) :
    Calls Tryd.prog 29 #[.slice ao zs.length cap] w fun e w' => ∃ v, e = .returned v ∧
      w'.ownsRow w.heap.size 5 1 v (zs.length + 64) (bv (zs ++ marks 0 64)) ∧ Below w.heap.size w w' := by
  obtain ⟨i0, hi, hz0, hz1, hz2⟩ := info_parts Tryd.info5
  go_enter Tryd.func29, Tryd.ntmps29
  go_wp2
  go_loopw [3, 4] (fun v i wr => ∃ k : Nat, k ≤ zs.length ∧ i = .int .i64 k ∧ wr.ownsRow w.heap.size 5 1 v k (bv (zs.take k)) ∧ Below w.heap.size w wr)
    (fun _ i _ => zs.length - (intOf i).toNat)
  case atStart => exact ⟨0, Nat.zero_le _, rfl, World.ownsRow_nil _ _ _ _, Below.refl _ _⟩
  case round =>
    obtain ⟨k, hk, rfl, hown, hb⟩ := hrel
    by_cases hlt : k < zs.length
    · obtain ⟨b, off, rfl, hbl, hc⟩ := (hr.below hb) (by omega)
      have hck := hc k hlt
      have hB := hb.size
      clear hc
      have hts := take_snoc zs k hlt
      generalize zs.getD k 0 = c at hck hts
      have HS : Hid (zs.take (k + 1) = zs.take k ++ [c]) := hts
      clear hts
      go_wp2_with (at_builtin; refine wpList_append_own _ rfl _ _ 32 rfl w.heap.size 5 i0 (.int .u8 0) 1 1 Tryd.underlying32 hi hz0 hz1 hz2 rfl (by decide) _ _ _ rfl (hown.alloc _) ⟨wr.heap.size, 0, none⟩ 1 1 [.int .u8 c] rfl rfl ?c1 ?c2 ?c3 ?c4 ?c5 ?_)
      case c1 =>
        intro j u hj
        match j, hj with
        | 0, hj => simp at hj; subst hj; simp [Addr.add]
      case c2 => intro u hu; simp at hu; subst hu; rfl
      case c3 => unfold maxLen; omega
      case c4 => omega
      case c5 => simp; omega
      intro v' w1 hown' hgrow _
      have R1 := own_snoc HS.out hown'
      have R2 := grown_below hb hB hown hgrow
      clear hown' hgrow hown hck
      go_wp2
      go_roundw
      case rel => exact ⟨k + 1, by omega, by go_num, R1, R2⟩
      case measure => simp [intOf]; omega
    · go_wp2
      go_loopw [3, 5] (fun v i wr => ∃ k : Nat, k ≤ 64 ∧ i = .int .i64 k ∧ wr.ownsRow w.heap.size 5 1 v (zs.length + k) (bv (zs ++ marks 0 k)) ∧ Below w.heap.size w wr)
        (fun _ i _ => 64 - (intOf i).toNat)
      case atStart => exact ⟨0, by omega, rfl, by simpa [marks, show k = zs.length by omega] using hown, hb⟩
      case round =>
        clear hown hb
        obtain ⟨j, hj, rfl, hown, hb⟩ := hrel
        have hB := hb.size
        by_cases hlt2 : j < 64
        · go_wp2_with (first | (go_at_call 55; refine (mark_any _ _ _ (by omega) (by omega)).mono ?_; rintro e w' ⟨rfl, rfl⟩) | (at_builtin; refine wpList_append_own _ rfl _ _ 32 rfl w.heap.size 5 i0 (.int .u8 0) 1 1 Tryd.underlying32 hi hz0 hz1 hz2 rfl (by decide) _ _ _ rfl (hown.alloc _) ⟨_, 0, none⟩ 1 1 [.int .u8 (mk 0 j)] rfl rfl ?d1 ?d2 ?d3 ?d4 ?d5 ?_))
          case d1 =>
            intro j u hj
            match j, hj with
            | 0, hj => simp at hj; subst hj; simp [Addr.add]
          case d2 => intro u hu; simp at hu; subst hu; rfl
          case d3 => unfold maxLen; omega
          case d4 => omega
          case d5 => simp; omega
          intro v' w1 hown' hgrow _
          have R1 := own_snoc (M := zs ++ marks 0 (j + 1)) (by rw [marks_succ, List.append_assoc]) hown'
          have R2 := grown_below hb hB hown hgrow
          clear hown' hgrow hown
          go_wp2
          go_roundw
          case rel => exact ⟨j + 1, by omega, by go_num, R1, R2⟩
          case measure => simp [intOf]; omega
        · go_wp2
          go_ret
          obtain rfl : j = 64 := by omega
          exact ⟨_, rfl, hown, hb⟩

theorem grown_trans {w w1 w2 : World} {row : Option Nat} (h1 : w.grownBy w1 row) (h2 : w1.grownBy w2 row) : w.grownBy w2 row :=
  ⟨h2.os.trans h1.os, h2.tape.trans h1.tape, h2.output.trans h1.output, Nat.le_trans h1.size h2.size, fun k hk hne => (h2.block k (Nat.lt_of_lt_of_le hk h1.size) hne).trans (h1.block k hk hne)⟩

theorem over_step (L : List Int) (k : Nat) (h : k < L.length) : bv (marks (-1) (k + 1) ++ L.drop (k + 1)) = (bv (marks (-1) k ++ L.drop k)).set k (.int .u8 (mk (-1) k)) := by
  have hl := marks_len (-1) k
  rw [marks_succ, List.drop_eq_getElem_cons h]
  simp only [bv, List.map_append, List.map_cons, List.append_assoc, List.cons_append, List.nil_append]
  rw [List.set_append_right _ _ (by simp [hl])]
  simp [hl]

set_option maxHeartbeats 1000000 in
theorem over_any (g cap n m B : Nat) (L : List Int) (w : World) (hn : m ≤ 140737488355328) (hm : n ≤ m) (hL : L.length = m)
    (hown : w.ownsRow B 5 1 (.slice (some ⟨g, 0, none⟩) m cap) m (bv L)) :
    Calls Tryd.prog 33 #[.slice (some ⟨g, 0, none⟩) n cap] w fun e w' => e = .returned (.tuple #[]) ∧
      w'.ownsRow B 5 1 (.slice (some ⟨g, 0, none⟩) m cap) m (bv (marks (-1) n ++ L.drop n)) ∧ Below B w w' ∧ w'.heap.size = w.heap.size ∧ w.grownBy w' (some g) := by
  go_enter Tryd.func33, Tryd.ntmps33
  go_wp2
  go_loopw [2] (fun i wr => ∃ k : Nat, k ≤ n ∧ i = .int .i64 k ∧ wr.ownsRow B 5 1 (.slice (some ⟨g, 0, none⟩) m cap) m (bv (marks (-1) k ++ L.drop k)) ∧ Below B w wr ∧ wr.heap.size = w.heap.size ∧ w.grownBy wr (some g))
    (fun i _ => n - (intOf i).toNat)
  case atStart => exact ⟨0, Nat.zero_le _, rfl, by simpa [marks] using hown, Below.refl _ _, rfl, World.grownBy.refl _ _⟩
  case round =>
    clear hown
    obtain ⟨k, hk, rfl, hown, hb, hs, hg⟩ := hrel
    have HS : Hid (wr.heap.size = w.heap.size) := hs
    clear hs
    by_cases hlt : k < n
    · have hck := own_get hown (i := k) (by simp [marks_len]; omega)
      have hfk := hown.frozenAt k
      generalize (marks (-1) k ++ L.drop k).getD k 0 = c at hck
      go_wp2_with (go_at_call 55; refine (mark_any _ _ _ (by omega) (by omega)).mono ?_; rintro e w' ⟨rfl, rfl⟩)
      have R := hown.stored k (.int .u8 (mk (-1) k))
      have hlo := (hown.lt g rfl).1
      go_roundw
      case rel =>
        refine ⟨k + 1, by omega, by go_num, ?_, hb.setCell (p := ⟨g, k, none⟩) hlo _, by rw [World.size_setCell]; exact HS.out, ?_⟩
        · have e : bv (marks (-1) (k + 1) ++ L.drop (k + 1)) = (bv (marks (-1) k ++ L.drop k)).set k (.int .u8 (mk (-1) k)) := over_step L k (by omega)
          rw [e]; exact R.1
        · exact grown_trans hg R.2
      case measure => simp [intOf]; omega
    · go_wp2
      go_end0
      obtain rfl : k = n := by omega
      exact ⟨rfl, hown, hb, HS.out, hg⟩
end Go.Proofs.YtnjglagfpghbjaaDoor
namespace Go.Proofs.YtnjglagfpghbjaaDoor
open Go.RowKit Go.WideShapes

theorem nil_eq (a : Option Addr) (n c : Nat) (w : World) : (binOp .eql 32 (.slice a n c) (.slice none 0 0)).run Tryd.prog w = .ok (.bool a.isNone) w := by
  have e : binOp .eql 32 (.slice a n c) (.slice none 0 0) = (do pure (.bool (← Op.equal 32 (.slice a n c) (.slice none 0 0)))) := rfl
  rw [e, Sem.run_bind, run_equal_slice_nil w _ _ a n c Tryd.underlying32]
  rfl

set_option maxRecDepth 100000 in
set_option maxHeartbeats 1000000 in
theorem clone_any (ao : Option Addr) (cap : Nat) (zs : List Int) (w : World) (hn : zs.length ≤ 140737488355328) (hnil : ao = none → zs = []) (hr : Reads w ao zs w.heap.size) :
    Calls Tryd.prog 53 #[.slice ao zs.length cap] w fun e w' => ∃ v, e = .returned v ∧ w'.ownsRow w.heap.size 5 1 v zs.length (bv zs) ∧ Below w.heap.size w w' := by
  obtain ⟨i0, hi, hz0, hz1, hz2⟩ := info_parts Tryd.info5
  have hq := nil_eq ao zs.length cap w
  cases ao with
  | none =>
    obtain rfl := hnil rfl
    simp only [List.length_nil] at hq
    go_enter Tryd.func53, Tryd.ntmps53
    go_wp2
    go_ret
    exact ⟨_, rfl, World.ownsRow_nil _ _ _ _, Below.refl _ _⟩
  | some ad =>
    clear hnil
    have own0 := World.ownsRow_lit (size := 1) (base := w.heap.size) (e := 5) w #[] 0 (Nat.le_refl _) (by decide) rfl
    have hb0 : Below w.heap.size w (w.alloc (.cells #[] 5)) := (Below.refl w.heap.size w).alloc (Nat.le_refl _) _
    have hr0 := hr.below hb0
    have hcl : ∀ j u, (bv zs)[j]? = some u → (w.alloc (.cells #[] 5)).cell? (ad.add j) = some u := by
      intro j u hj
      have hjl : j < zs.length := by
        have := (List.getElem?_eq_some_iff.1 hj).1
        simpa [bv] using this
      obtain ⟨b, off, e, hlt, hc⟩ := hr0 (by omega)
      simp only [Option.some.injEq] at e
      subst e
      rw [add_plain, hc j hjl]
      simp [bv, hjl] at hj
      simp [hjl, hj]
    have HC : Hid (∀ j u, (bv zs)[j]? = some u → (w.alloc (.cells #[] 5)).cell? (ad.add j) = some u) := hcl
    clear hcl hr0 hr
    go_enter Tryd.func53, Tryd.ntmps53
    go_wp2_with (at_builtin; refine wpList_append_own _ rfl _ _ 32 rfl w.heap.size 5 i0 (.int .u8 0) 1 1 Tryd.underlying32 hi hz0 hz1 hz2 rfl (by decide) _ 0 [] rfl own0 ad zs.length cap (bv zs) rfl ?d0 HC.out ?d2 ?d3 ?d4 ?d5 ?_)
    case d0 => simp [bv]
    case d2 => intro u hu; simp [bv] at hu; obtain ⟨z, _, rfl⟩ := hu; rfl
    case d3 => unfold maxLen; omega
    intro v' w1 hown' hgrow _
    have R2 : Below w.heap.size w w1 := hb0.grown hgrow (by simp) (fun k e => by simp [Value.ownBlock] at e; omega)
    clear hgrow own0 hb0 HC
    go_wp2
    go_ret
    exact ⟨_, rfl, hown', R2⟩
end Go.Proofs.YtnjglagfpghbjaaDoor
namespace Go.Proofs.YtnjglagfpghbjaaDoor
open Go.RowKit
set_option maxRecDepth 100000

theorem take_ne {xs ys : List Int} {k : Nat} (h : xs.getD k 0 ≠ ys.getD k 0) : xs ≠ ys := by
  intro e; subst e; exact h rfl

set_option maxRecDepth 100000 in
set_option maxHeartbeats 2000000 in
theorem same_any (ao bo : Option Addr) (ca cb : Nat) (xs ys : List Int) (w : World) (hn : xs.length ≤ 140737488355328) (ha : Reads w ao xs w.heap.size) (hr : Reads w bo ys w.heap.size) :
    Calls Tryd.prog 19 #[.slice ao xs.length ca, .slice bo ys.length cb] w fun e w' => e = .returned (.bool (decide (xs = ys))) ∧ ∃ m, w' = w.drewN m := by
  by_cases hl : xs.length = ys.length
  · have hlI : (xs.length : Int) = (ys.length : Int) := by omega
    go_enter Tryd.func19, Tryd.ntmps19
    go_wp2
    go_loopw [5] (fun i wr => ∃ k m : Nat, k ≤ xs.length ∧ i = .int .i64 k ∧ wr = w.drewN m ∧ xs.take k = ys.take k)
      (fun i _ => xs.length - (intOf i).toNat)
    case atStart => exact ⟨0, 0, Nat.zero_le _, rfl, rfl, rfl⟩
    case round =>
      obtain ⟨k, m, hk, rfl, hw2, hpre⟩ := hrel
      have HP : Hid (xs.take k = ys.take k) := hpre
      clear hpre
      by_cases hlt : k < xs.length
      · obtain ⟨b, off, rfl, hbl, hc⟩ := hr (by omega)
        obtain ⟨b2, off2, rfl, hbl2, hc2⟩ := ha (by omega)
        have hck : wr.cell? ⟨b, off + k, none⟩ = some (.int .u8 (ys.getD k 0)) := by rw [hw2]; exact hc k (by omega)
        have hck2 : wr.cell? ⟨b2, off2 + k, none⟩ = some (.int .u8 (xs.getD k 0)) := by rw [hw2]; exact hc2 k hlt
        clear hc hc2
        have HW2 : Hid (wr = w.drewN m) := hw2
        clear hw2
        have hlt' : (k : Int) < (xs.length : Int) := by omega
        have hlt'' : (k : Int) < (ys.length : Int) := by omega
        have HT1 : Hid (xs.take (k + 1) = xs.take k ++ [xs.getD k 0]) := take_snoc xs k hlt
        have HT2 : Hid (ys.take (k + 1) = ys.take k ++ [ys.getD k 0]) := take_snoc ys k (by omega)
        by_cases hcc : xs.getD k 0 = ys.getD k 0
        · rw [hcc] at hck2 HT1
          generalize ys.getD k 0 = c at hck hck2 HT1 HT2
          clear hcc
          go_wp2
          go_quiet (fail)
          go_wp2
          go_roundw
          case rel => exact ⟨k + 1, _, by omega, by go_num, by rw [HW2.out, World.drewN_drewN], by rw [HT1.out, HT2.out, HP.out]⟩
          case measure => simp [intOf]; omega
        · have HN : Hid (decide (xs = ys) = false) := decide_eq_false (take_ne hcc)
          generalize ys.getD k 0 = c at hck hcc
          generalize xs.getD k 0 = c2 at hck2 hcc
          clear HT1 HT2 HP
          have hbe : (c2 != c) = true := by simpa using hcc
          go_wp2
          go_quiet (fail)
          go_wp2
          go_ret
          exact ⟨by rw [HN.out]; rfl, _, by rw [HW2.out, World.drewN_drewN]⟩
      · have HN : Hid (decide (xs = ys) = true) := by
          have e1 := HP.out
          rw [List.take_of_length_le (by omega), List.take_of_length_le (by omega)] at e1
          exact decide_eq_true e1
        have HW2 : Hid (wr = w.drewN m) := hw2
        clear hw2 HP
        go_wp2
        go_ret
        exact ⟨by rw [HN.out]; rfl, _, HW2.out⟩
  · have hlI : ¬ (xs.length : Int) = (ys.length : Int) := by omega
    have HN : Hid (decide (xs = ys) = false) := decide_eq_false (fun e => hl (by rw [e]))
    go_enter Tryd.func19, Tryd.ntmps19
    go_wp2
    go_ret
    exact ⟨by rw [HN.out]; rfl, 0, rfl⟩
end Go.Proofs.YtnjglagfpghbjaaDoor
namespace Go.Proofs.YtnjglagfpghbjaaDoor
open Go.RowKit
set_option maxRecDepth 100000

theorem Reads.drewN {w : World} {ao : Option Addr} {zs : List Int} {B : Nat} (h : Reads w ao zs B) (n : Nat) : Reads (w.drewN n) ao zs B := h

set_option maxRecDepth 100000 in
set_option maxHeartbeats 1000000 in
theorem kept_any (ao : Option Addr) (cap : Nat) (zs : List Int) (g capF : Nat) (w : World) (hn : zs.length ≤ 140737488351232) (hr : Reads w ao zs w.heap.size)
    (hcl : ∀ i, i < zs.length + 64 → w.cell? ⟨g, i, none⟩ = some (.int .u8 ((zs ++ marks 0 64).getD i 0))) :
    Calls Tryd.prog 32 #[.slice (some ⟨g, 0, none⟩) (zs.length + 64) capF, .slice ao zs.length cap] w fun e w' => e = .returned (.bool true) ∧ ∃ m, w' = w.drewN m := by
  have HC : Hid (∀ i, i < zs.length + 64 → w.cell? ⟨g, i, none⟩ = some (.int .u8 ((zs ++ marks 0 64).getD i 0))) := hcl
  clear hcl
  go_enter Tryd.func32, Tryd.ntmps32
  go_wp2
  go_loopw [5] (fun i wr => ∃ k m : Nat, k ≤ zs.length ∧ i = .int .i64 k ∧ wr = w.drewN m)
    (fun i _ => zs.length - (intOf i).toNat)
  case atStart => exact ⟨0, 0, Nat.zero_le _, rfl, rfl⟩
  case round =>
    obtain ⟨k, m, hk, rfl, rfl⟩ := hrel
    by_cases hlt : k < zs.length
    · obtain ⟨b, off, rfl, hbl, hc⟩ := hr (by omega)
      have hck := hc k hlt
      clear hc
      have hfk : w.cell? ⟨g, k, none⟩ = some (.int .u8 (zs.getD k 0)) := by
        rw [HC.out k (by omega)]
        simp [List.getElem?_append_left hlt]
      generalize zs.getD k 0 = c at hck hfk
      have hlt' : (k : Int) < (zs.length : Int) := by omega
      have hlt2 : (k : Int) < (zs.length : Int) + 64 := by omega
      go_wp2
      go_quiet (fail)
      go_wp2
      go_roundw
      case rel => exact ⟨k + 1, _, by omega, by go_num, rfl⟩
      case measure => simp [intOf]; omega
    · go_wp2
      go_loopw [6] (fun i wr => ∃ k m : Nat, k ≤ 64 ∧ i = .int .i64 k ∧ wr = w.drewN m)
        (fun i _ => 64 - (intOf i).toNat)
      case atStart => exact ⟨0, m, by omega, rfl, rfl⟩
      case round =>
        obtain ⟨j, m2, hj, rfl, hw2⟩ := hrel
        by_cases hlt2 : j < 64
        · have hfk : wr.cell? ⟨g, zs.length + j, none⟩ = some (.int .u8 (mk 0 j)) := by
            rw [hw2, World.cell?_drewN, HC.out _ (by omega)]
            simp [marks, hlt2]
          have hlt3 : (zs.length : Int) + (j : Int) < (zs.length : Int) + 64 := by omega
          have HW2 : Hid (wr = w.drewN m2) := hw2
          clear hw2
          go_wp2
          go_quiet ((go_at_call 55; exact Calls.quiet_of_same (mark_any _ _ _ (by omega) (by omega))))
          go_wp2
          go_roundw
          case rel => exact ⟨j + 1, _, by omega, by go_num, by rw [HW2.out, World.drewN_drewN]⟩
          case measure => simp [intOf]; omega
        · go_wp2
          go_ret
          exact ⟨rfl, _, rfl⟩
end Go.Proofs.YtnjglagfpghbjaaDoor
namespace Go.Proofs.YtnjglagfpghbjaaDoor
open Go.ChangeShapes Go.WideShapes Go.ChangeAt Go.RowKit

theorem Tryd.own : ownKnob Tryd.prog.godebug = none := by kernel_rfl
theorem Tryd.laidOut : laidOutB Tryd.prog = true := by kernel_rfl
theorem Tryd.cells5 : Tryd.prog.cellsOf 5 = 1 := by kernel_rfl
theorem Tryd.bytes5 : Tryd.prog.bytesOf 5 = 1 := by kernel_rfl
theorem int_wf {z : Int} (h : (Lit.int .i64 z).wf = true) : -9223372036854775808 ≤ z ∧ z ≤ 9223372036854775807 := by
  have h1 : IntKind.i64.min = -9223372036854775808 := rfl
  have h2 : IntKind.i64.max = 9223372036854775807 := rfl
  simp only [Lit.wf, Bool.and_eq_true, decide_eq_true_eq] at h
  omega
theorem byte_wf {z : Int} (h : (Lit.int .u8 z).wf = true) : 0 ≤ z ∧ z ≤ 255 := by
  simpa [Lit.wf, IntKind.min, IntKind.max, IntKind.signed, IntKind.bits] using h
theorem bulk_lits {H : Type} (k : IntKind) (zs : List Int) : Rows.uptoBulkAll (lits (H := H) k zs) = zs.length := by
  induction zs with
  | nil => rfl
  | cons z zs ih =>
    have e : lits (H := H) k (z :: zs) = .lit (.int k z) :: lits k zs := rfl
    rw [e]
    simp only [Rows.uptoBulkAll, Rows.uptoBulk, ih, List.length_cons]
    omega

/-- a slice of bytes that is handed in, or lies in what is -/
theorem bytes_cells {H : Type} {enc : TypeId × Value → H} {W : World} {fuel : Nat} {cs : List Value} {d : DataW H} {p : List MemPlace}
    (hf : DataW.trod enc Tryd.prog W 0 (fun _ => true) true fuel 32 cs = some (d, p)) (hlt : ∀ x ∈ p, x.block < W.heap.size) :
    ∃ (a0 : Option Addr) (cap : Nat) (zs : List Int), cs = [.slice a0 zs.length cap] ∧ zs.length ≤ cap ∧ (∀ z ∈ zs, 0 ≤ z ∧ z ≤ 255) ∧ Reads W a0 zs W.heap.size ∧ (d = .nil ∧ zs = [] ∨ ∃ sp, d = .slice (lits .u8 zs) (lits .u8 sp)) := by
  rcases open_ints Tryd.underlying32 Tryd.underlying5 Tryd.cells5 hf with ⟨hcs, hx⟩ | ⟨a, len, cap, zs, hcs, _, hl, hm, hz, hx, hcell, hwz⟩
  · simp only [Prod.mk.injEq] at hx
    exact ⟨none, 0, [], hcs, by simp, by simp, Reads.nil _ _ _, .inl ⟨hx.1, rfl⟩⟩
  · simp only [Prod.mk.injEq] at hx
    obtain ⟨rfl, rfl⟩ := hx
    simp only [if_true] at hz
    have hlz : (zs.take len).length = len := by simp; omega
    refine ⟨some a, cap, zs.take len, by rw [hlz]; exact hcs, by rw [hlz]; exact hl, fun z hz' => byte_wf (hwz z (List.mem_of_mem_take hz')), fun hpos => ?_, .inr ⟨_, rfl⟩⟩
    obtain ⟨b, off, spot⟩ := a
    have hspot : spot = none := by simpa [Addr.add] using World.cell?_spot (hcell 0 (by omega))
    subst hspot
    have hbW : b < W.heap.size := hlt (.cell b off) (MemPlace.mem_row.2 ⟨0, by omega, by simp⟩)
    refine ⟨b, off, rfl, hbW, fun j hj => ?_⟩
    rw [hlz] at hj
    rw [← add_plain, hcell j (by omega)]
    simp [hj]
theorem bytes_open {H : Type} {enc : TypeId × Value → H} {W : World} {a0 : Option Addr} {len cap : Nat} {d : DataW H} {p : List MemPlace}
    (h : DataW.Trod enc Tryd.prog W 0 (fun _ => true) true 32 (.slice a0 len cap) d p) (hlt : ∀ x ∈ p, x.block < W.heap.size) :
    ∃ zs : List Int, zs.length = len ∧ zs.length ≤ cap ∧ (∀ z ∈ zs, 0 ≤ z ∧ z ≤ 255) ∧ Reads W a0 zs W.heap.size ∧ (d = .nil ∧ zs = [] ∨ ∃ sp, d = .slice (lits .u8 zs) (lits .u8 sp)) := by
  obtain ⟨fuel, hf⟩ := h
  obtain ⟨a, c, zs, hcs, hcp, h1, h2, h3⟩ := bytes_cells hf hlt
  simp [Value.cells] at hcs
  obtain ⟨rfl, rfl, rfl⟩ := hcs
  exact ⟨zs, rfl, hcp, h1, h2, h3⟩
theorem quad_wf {z : Int} (h : (Lit.int .u64 z).wf = true) : 0 ≤ z ∧ z < 18446744073709551616 := by
  have h1 : IntKind.u64.min = 0 := rfl
  have h2 : IntKind.u64.max = 18446744073709551615 := rfl
  simp only [Lit.wf, Bool.and_eq_true, decide_eq_true_eq] at h
  omega
theorem word_wf {z : Int} (h : (Lit.int .u32 z).wf = true) : 0 ≤ z ∧ z ≤ 4294967295 := by
  simpa [Lit.wf, IntKind.min, IntKind.max, IntKind.signed, IntKind.bits] using h
theorem weightsAll_mem {H : Type} {P : Program} {e : TypeId} : ∀ {l : List (DataW H)} {d : DataW H}, d ∈ l → ∀ n ∈ d.weights P e, n ∈ DataW.weightsAll P e l
  | d' :: r, d, hd, n, hn => by
    simp only [DataW.weightsAll, List.mem_append]
    rcases List.mem_cons.1 hd with rfl | h
    · exact Or.inl hn
    · exact Or.inr (weightsAll_mem h n hn)
theorem lits_len {H : Type} (k : IntKind) (zs : List Int) : (lits (H := H) k zs).length = zs.length := by simp [lits]
end Go.Proofs.YtnjglagfpghbjaaDoor
