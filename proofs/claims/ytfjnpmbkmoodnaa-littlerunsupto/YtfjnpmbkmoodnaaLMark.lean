import Derived.Test.YtfjnpmbkmoodnaaLBase
import Derived.Laws.AppendOwn
namespace Go.Proofs.Ytfjnpmbkmoodnaa
open Go.RowKit
set_option maxRecDepth 100000

/-- The mark of place i of list k. -/
def mk (k i : Int) : Int :=
  bits BinOp.xor IntKind.u32 (((k + 2) * 2654435761 + i * 2246822519) % 4294967296) (((k + 2) * 2654435761 + i * 2246822519) % 4294967296 / 32768) * 739982445 % 4294967296 / 16777216

theorem mk_range (k i : Int) : 0 ≤ mk k i ∧ mk k i ≤ 255 := by
  unfold mk
  generalize bits BinOp.xor IntKind.u32 _ _ = x
  omega



theorem mk_mod (k i : Int) : ((k + 2) % 4294967296 * 2654435761 + i % 4294967296 * 2246822519) % 4294967296 = ((k + 2) * 2654435761 + i * 2246822519) % 4294967296 := by omega

set_option maxHeartbeats 400000 in
theorem mark_any (k i : Int) (w : World) (hk : -1 ≤ k ∧ k ≤ 1000000000000000000) (hi : 0 ≤ i ∧ i ≤ 1000000000000000000) :
    Calls Try.prog 20 #[.int .i64 k, .int .i64 i] w fun e w' => e = .returned (.int .u8 (mk k i)) ∧ w' = w := by
  obtain ⟨hk0, hk1⟩ := hk
  obtain ⟨hi0, hi1⟩ := hi
  go_enter Try.func20, Try.ntmps20
  go_wp2
  go_ret
  refine ⟨ret_int ?_, rfl⟩
  unfold mk
  rw [mk_mod]

def marks (k : Int) (m : Nat) : List Int := (List.range m).map fun (i : Nat) => mk k (i : Int)
theorem marks_succ (k : Int) (m : Nat) : marks k (m + 1) = marks k m ++ [mk k (m : Int)] := by
  simp [marks, List.range_succ]
theorem marks_len (k : Int) (m : Nat) : (marks k m).length = m := by simp [marks]
theorem marks_wf (k : Int) (n : Nat) : ∀ z ∈ marks k n, 0 ≤ z ∧ z ≤ 255 := by
  intro z hz
  simp only [marks, List.mem_map] at hz
  obtain ⟨i, _, rfl⟩ := hz
  exact mk_range _ _
theorem marks_take (k : Int) (n m : Nat) : marks k n = (marks k (n + m)).take n := by
  simp [marks, ← List.map_take, List.take_range]
theorem own_get {w1 : World} {B g n cap : Nat} {L : List Int} (h : w1.ownsRow B 5 1 (.slice (some ⟨g, 0, none⟩) n cap) n (bv L)) {i : Nat} (hi : i < L.length) : w1.cell? ⟨g, i, none⟩ = some (.int .u8 (L.getD i 0)) := by
  have := h.cells (g := g) rfl i (.int .u8 (L.getD i 0)) (by simp [bv, List.getD, List.getElem?_eq_getElem hi])
  have hadd : (⟨g, 0, none⟩ : Addr).add i = ⟨g, 0 + i, none⟩ := by unfold Addr.add; split <;> simp_all
  rw [hadd, Nat.zero_add] at this; exact this
theorem grown_of_below {w w' : World} (h : Below w.heap.size w w') : w.grownBy w' none := ⟨h.os, h.tape, h.output, h.size, fun k hk _ => h.block k hk⟩
theorem own_below {w w' : World} {B e sz : Nat} {v : Value} {n : Nat} {xs : List Value} (h : w.ownsRow B e sz v n xs) (hb : Below w.heap.size w w') : w'.ownsRow B e sz v n xs :=
  h.kept (grown_of_below hb) (by cases hv : v.ownBlock <;> simp)
theorem own_form {w : World} {B e sz : Nat} {v : Value} {n : Nat} {xs : List Value} (h : w.ownsRow B e sz v n xs) (hn : 0 < n) : ∃ g c, v = .slice (some ⟨g, 0, none⟩) n c ∧ n ≤ c := by
  rcases h.2 with ⟨_, rfl⟩ | ⟨g, cap, cur, rfl, _, _, hc, _⟩
  · omega
  · exact ⟨g, cap, rfl, hc⟩
theorem reads_own {w : World} {B g m cap : Nat} {L zs : List Int} (h : w.ownsRow B 5 1 (.slice (some ⟨g, 0, none⟩) m cap) m (bv L)) (hz : zs = L.take zs.length) : Reads w (some ⟨g, 0, none⟩) zs w.heap.size := by
  intro _
  refine ⟨g, 0, rfl, (h.lt g rfl).2, fun j hj => ?_⟩
  have hl : zs.length ≤ L.length := by
    have := congrArg List.length hz
    simp at this
    omega
  rw [Nat.zero_add, own_get h (by omega)]
  rw [hz]
  simp [hj]

set_option maxRecDepth 100000 in
set_option maxHeartbeats 1000000 in
theorem lent_any (ao : Option Addr) (cap : Nat) (zs : List Int) (w : World) (hn : zs.length ≤ 140737488351232) (hr : Reads w ao zs w.heap.size) :
    Calls Try.prog 5 #[.slice ao zs.length cap] w fun e w' => ∃ v, e = .returned v ∧
      w'.ownsRow w.heap.size 5 1 v (zs.length + 64) (bv (zs ++ marks 0 64)) ∧ Below w.heap.size w w' := by
  obtain ⟨i0, hi, hz0, hz1, hz2⟩ := info_parts Try.info5
  go_enter Try.func5, Try.ntmps5
  go_wp2
  go_loopw [3, 4] (fun v i wr => ∃ k : Nat, k ≤ zs.length ∧ i = .int .i64 k ∧ wr.ownsRow w.heap.size 5 1 v k (bv (zs.take k)) ∧ Below w.heap.size w wr)
    (fun _ i _ => zs.length - (intOf i).toNat)
  case atStart => exact ⟨0, Nat.zero_le _, rfl, World.ownsRow_nil _ _ _ _, Below.refl _ _⟩
  case round =>
    obtain ⟨k, hk, rfl, hown, hb⟩ := hrel
    by_cases hlt : k < zs.length
    · obtain ⟨b, off, rfl, hbl, hc⟩ := (hr.below hb) (by omega)
      have hck := hc k hlt
      have hB := hb.size
      clear hc
      have hts := take_snoc zs k hlt
      generalize zs.getD k 0 = c at hck hts
      have HS : Hid (zs.take (k + 1) = zs.take k ++ [c]) := hts
      clear hts
      go_wp2_with (at_builtin; refine wpList_append_own _ rfl _ _ 26 rfl w.heap.size 5 i0 (.int .u8 0) 1 1 Try.underlying26 hi hz0 hz1 hz2 rfl (by decide) _ _ _ rfl (hown.alloc _) ⟨wr.heap.size, 0, none⟩ 1 1 [.int .u8 c] rfl rfl ?c1 ?c2 ?c3 ?c4 ?c5 ?_)
      case c1 =>
        intro j u hj
        match j, hj with
        | 0, hj => simp at hj; subst hj; simp [Addr.add]
      case c2 => intro u hu; simp at hu; subst hu; rfl
      case c3 => unfold maxLen; omega
      case c4 => omega
      case c5 => simp; omega
      intro v' w1 hown' hgrow _
      have R1 := own_snoc HS.out hown'
      have R2 := grown_below hb hB hown hgrow
      clear hown' hgrow hown hck
      go_wp2
      go_roundw
      case rel => exact ⟨k + 1, by omega, by go_num, R1, R2⟩
      case measure => simp [intOf]; omega
    · go_wp2
      go_loopw [3, 5] (fun v i wr => ∃ k : Nat, k ≤ 64 ∧ i = .int .i64 k ∧ wr.ownsRow w.heap.size 5 1 v (zs.length + k) (bv (zs ++ marks 0 k)) ∧ Below w.heap.size w wr)
        (fun _ i _ => 64 - (intOf i).toNat)
      case atStart => exact ⟨0, by omega, rfl, by simpa [marks, show k = zs.length by omega] using hown, hb⟩
      case round =>
        clear hown hb
        obtain ⟨j, hj, rfl, hown, hb⟩ := hrel
        have hB := hb.size
        by_cases hlt2 : j < 64
        · go_wp2_with (first | (go_at_call 20; refine (mark_any _ _ _ (by omega) (by omega)).mono ?_; rintro e w' ⟨rfl, rfl⟩) | (at_builtin; refine wpList_append_own _ rfl _ _ 26 rfl w.heap.size 5 i0 (.int .u8 0) 1 1 Try.underlying26 hi hz0 hz1 hz2 rfl (by decide) _ _ _ rfl (hown.alloc _) ⟨_, 0, none⟩ 1 1 [.int .u8 (mk 0 j)] rfl rfl ?d1 ?d2 ?d3 ?d4 ?d5 ?_))
          case d1 =>
            intro j u hj
            match j, hj with
            | 0, hj => simp at hj; subst hj; simp [Addr.add]
          case d2 => intro u hu; simp at hu; subst hu; rfl
          case d3 => unfold maxLen; omega
          case d4 => omega
          case d5 => simp; omega
          intro v' w1 hown' hgrow _
          have R1 := own_snoc (M := zs ++ marks 0 (j + 1)) (by rw [marks_succ, List.append_assoc]) hown'
          have R2 := grown_below hb hB hown hgrow
          clear hown' hgrow hown
          go_wp2
          go_roundw
          case rel => exact ⟨j + 1, by omega, by go_num, R1, R2⟩
          case measure => simp [intOf]; omega
        · go_wp2
          go_ret
          obtain rfl : j = 64 := by omega
          exact ⟨_, rfl, hown, hb⟩

theorem grown_trans {w w1 w2 : World} {row : Option Nat} (h1 : w.grownBy w1 row) (h2 : w1.grownBy w2 row) : w.grownBy w2 row :=
  ⟨h2.os.trans h1.os, h2.tape.trans h1.tape, h2.output.trans h1.output, Nat.le_trans h1.size h2.size, fun k hk hne => (h2.block k (Nat.lt_of_lt_of_le hk h1.size) hne).trans (h1.block k hk hne)⟩

theorem over_step (L : List Int) (k : Nat) (h : k < L.length) : bv (marks (-1) (k + 1) ++ L.drop (k + 1)) = (bv (marks (-1) k ++ L.drop k)).set k (.int .u8 (mk (-1) k)) := by
  have hl := marks_len (-1) k
  rw [marks_succ, List.drop_eq_getElem_cons h]
  simp only [bv, List.map_append, List.map_cons, List.append_assoc, List.cons_append, List.nil_append]
  rw [List.set_append_right _ _ (by simp [hl])]
  simp [hl]

set_option maxHeartbeats 1000000 in
theorem over_any (g cap n m B : Nat) (L : List Int) (w : World) (hn : m ≤ 140737488355328) (hm : n ≤ m) (hL : L.length = m)
    (hown : w.ownsRow B 5 1 (.slice (some ⟨g, 0, none⟩) m cap) m (bv L)) :
    Calls Try.prog 13 #[.slice (some ⟨g, 0, none⟩) n cap] w fun e w' => e = .returned (.tuple #[]) ∧
      w'.ownsRow B 5 1 (.slice (some ⟨g, 0, none⟩) m cap) m (bv (marks (-1) n ++ L.drop n)) ∧ Below B w w' ∧ w'.heap.size = w.heap.size ∧ w.grownBy w' (some g) := by
  go_enter Try.func13, Try.ntmps13
  go_wp2
  go_loopw [2] (fun i wr => ∃ k : Nat, k ≤ n ∧ i = .int .i64 k ∧ wr.ownsRow B 5 1 (.slice (some ⟨g, 0, none⟩) m cap) m (bv (marks (-1) k ++ L.drop k)) ∧ Below B w wr ∧ wr.heap.size = w.heap.size ∧ w.grownBy wr (some g))
    (fun i _ => n - (intOf i).toNat)
  case atStart => exact ⟨0, Nat.zero_le _, rfl, by simpa [marks] using hown, Below.refl _ _, rfl, World.grownBy.refl _ _⟩
  case round =>
    clear hown
    obtain ⟨k, hk, rfl, hown, hb, hs, hg⟩ := hrel
    have HS : Hid (wr.heap.size = w.heap.size) := hs
    clear hs
    by_cases hlt : k < n
    · have hck := own_get hown (i := k) (by simp [marks_len]; omega)
      have hfk := hown.frozenAt k
      generalize (marks (-1) k ++ L.drop k).getD k 0 = c at hck
      go_wp2_with (go_at_call 20; refine (mark_any _ _ _ (by omega) (by omega)).mono ?_; rintro e w' ⟨rfl, rfl⟩)
      have R := hown.stored k (.int .u8 (mk (-1) k))
      have hlo := (hown.lt g rfl).1
      go_roundw
      case rel =>
        refine ⟨k + 1, by omega, by go_num, ?_, hb.setCell (p := ⟨g, k, none⟩) hlo _, by rw [World.size_setCell]; exact HS.out, ?_⟩
        · have e : bv (marks (-1) (k + 1) ++ L.drop (k + 1)) = (bv (marks (-1) k ++ L.drop k)).set k (.int .u8 (mk (-1) k)) := over_step L k (by omega)
          rw [e]; exact R.1
        · exact grown_trans hg R.2
      case measure => simp [intOf]; omega
    · go_wp2
      go_end0
      obtain rfl : k = n := by omega
      exact ⟨rfl, hown, hb, HS.out, hg⟩
end Go.Proofs.Ytfjnpmbkmoodnaa
