import Derived.RangeFuncNested
import Derived.RangeFuncBound
import Derived.RangeFuncCalls
import Derived.RangeFuncLeaves
import Derived.Shelf.Abstract
import Derived.Shelf.RegionOpen
import Derived.WalkKit
import Derived.OwnWalkIn
import Derived.TacticsInMore
import Derived.LoopNIn
import Derived.LoopIn
import Derived.Test.YtpndbbepfjocgaaCuts
import Derived.Test.YtpndbbepfjocgaaShelf
namespace Go.Proofs.Ytpndbbepfjocgaa
open Go.RowKit Go.Shelf
attribute [local go_sem] Oper.semAt_some

/-- what a round that goes on keeps: the box of the text, and walks -/
def Kp (Bs : Nat) (s : ByteArray) (W W' : World) : Prop := (Boxed W Bs 9 (.string s) → Boxed W' Bs 9 (.string s)) ∧ KeepsWalks W W'
theorem Kp_t {Bs : Nat} {s : ByteArray} {A B C : World} (h : Kp Bs s A B) (k : Kp Bs s B C) : Kp Bs s A C := ⟨fun x => k.1 (h.1 x), h.2.trans k.2⟩
theorem boxed_step {A B : World} {row : Option Nat} {b t : Nat} {v : Value} (h : Boxed A b t v) (hg : A.grownBy B row) (hr : ∀ r, row = some r → ∃ o : Obj, A.heap[r]? = some o ∧ o.isCells = false) : Boxed B b t v :=
  h.kept hg (fun e => by
    obtain ⟨o, ho, hc⟩ := hr b e.symm
    have h' : A.heap[b]? = some (.cells #[v] t (0, 0)) := h
    rw [h'] at ho
    cases ho
    simp [Obj.isCells] at hc)
theorem Kp_b {Bs : Nat} {s : ByteArray} {w : World} (W : World) (l : Nat) (o o' : Obj) (hl : w.heap.size ≤ l) (h : W.heap[l]? = some o) (hc : o.isCells = false) (hw : o.isWalk = false) : Kp Bs s W (W.putObj l o') :=
  ⟨fun x => boxed_step x (grownBy_putObj' W l o') (fun r e => by cases e; exact ⟨_, h, hc⟩), walksK_b (w := w) W l o o' hl h hc hw⟩

theorem grownBy_iterAt (w : World) (k : Nat) (s : ByteArray) (pos : Nat) : w.grownBy (w.iterAt k s pos) (some k) :=
  ⟨rfl, rfl, rfl, by rw [Lib.iterAt_size]; exact Nat.le_refl _, fun j _ hj => Lib.iterAt_other w k j s pos (fun e => hj (by rw [e]))⟩

def encs {s : ByteArray} (x : Cut s) : Array Value := #[.int .i64 (x.1.1 : Int), .int .i32 x.1.2]

theorem extract_drop (s : ByteArray) (pos : Nat) : s.extract pos s.size = ⟨(s.data.toList.drop pos).toArray⟩ := by
  obtain ⟨l, rfl⟩ : ∃ l : List UInt8, s = ⟨l.toArray⟩ := ⟨s.data.toList, by simp⟩
  rw [ByteArray.extract_mk]
  have e : (ByteArray.mk l.toArray).size = l.length := by simp [ByteArray.size]
  rw [e, List.take_of_length_le (by simp)]

section
variable {s : ByteArray} {pos f K Bs : Nat} {pre : List (Cut s)} {wr W3 : World} {J : List (Cut s) → World → Prop}
theorem next_pre (hlt : pos < s.size) (h : pre ++ cutsFrom s f pos = cuts s) (hf : s.size ≤ pos + f) : pre ++ [cutAt s pos hlt] <+: cuts s := by
  obtain ⟨f', rfl⟩ : ∃ f', f = f' + 1 := ⟨f - 1, by omega⟩
  rw [cutsFrom_step s f' pos hlt] at h
  exact ⟨cutsFrom s f' (pos + wid s pos), by rw [← h]; simp⟩
theorem next_rel (hlt : pos < s.size) (h : pre ++ cutsFrom s f pos = cuts s) (hf : s.size ≤ pos + f) (hlen : pre.length ≤ pos) (_ : wr.heap[K]? = some (.stringIter s pos))
    (E1 : W3.heap[K]? = some (.stringIter s (pos + wid s pos))) (E2 : Boxed W3 Bs 9 (.string s)) (hJ : J (pre ++ [cutAt s pos hlt]) W3) :
    ∃ (pos f : Nat) (pre : List (Cut s)), pre ++ cutsFrom s f pos = cuts s ∧ s.size ≤ pos + f ∧ pre.length ≤ pos ∧ W3.heap[K]? = some (.stringIter s pos) ∧ Boxed W3 Bs 9 (.string s) ∧ J pre W3 := by
  obtain ⟨f', rfl⟩ : ∃ f', f = f' + 1 := ⟨f - 1, by omega⟩
  rw [cutsFrom_step s f' pos hlt] at h
  have hw := wid_pos s pos
  exact ⟨pos + wid s pos, f', pre ++ [cutAt s pos hlt], by rw [← h]; simp, by omega, by simp; omega, E1, E2, hJ⟩
theorem next_less (hlt : pos < s.size) (hw : 1 ≤ wid s pos) (h : wr.heap[K]? = some (.stringIter s pos)) (E1 : W3.heap[K]? = some (.stringIter s (pos + wid s pos))) :
    s.size - W3.iterPos K < s.size - wr.iterPos K := by
  simp only [World.iterPos, h, E1]; omega
end

set_option maxRecDepth 100000 in
set_option maxHeartbeats 2000000 in
theorem runes1_in (n : Nat) (hn : 1 ≤ n) (l Bs : Nat) (s : ByteArray) (J Jx : List (Cut s) → World → Prop) (W : World) (hJ : AbidesFrom W.heap.size J)
    (hY : ∀ pre x W1, J pre W1 → pre.length < s.size → YieldAt Fence.wide (n - 1) Try.prog l (encs x) W1 fun e W' =>
      (e = .returned (.bool true) ∧ J (pre ++ [x]) W' ∧ Kp Bs s W1 W') ∨ (e = .returned (.bool false) ∧ Jx (pre ++ [x]) W'))
    (hbox : Boxed W Bs 9 (.string s)) (h0 : J [] W) :
    CallsIn Fence.wide n Try.prog 55 #[.func (.yield l) #[] #[], .pointer (some ⟨Bs, 0, none⟩)] W fun e W' => (∃ v, e = .returned v) ∧
      ((∃ ys, ys = cuts s ∧ J ys W') ∨ (∃ pre, pre <+: cuts s ∧ Jx pre W')) := by
  have hcell := hbox.cell
  have hBs := hbox.lt
  refine callsIn_of_wp Try.func55 rfl trivial ?_ rfl
  simp only [Try.ntmps55, List.size_toArray, List.length_cons, List.length_nil, Nat.reduceAdd, Nat.reduceSub, Array.replicate_succ, Array.replicate_zero, List.push_toArray, List.append_toArray, List.nil_append, List.cons_append]
  gi_wp2
  gi_loopw [3] (fun _ wr => ∃ (pos f : Nat) (pre : List (Cut s)), pre ++ cutsFrom s f pos = cuts s ∧ s.size ≤ pos + f ∧ pre.length ≤ pos ∧ wr.heap[W.heap.size]? = some (.stringIter s pos) ∧ Boxed wr Bs 9 (.string s) ∧ J pre wr)
    (fun _ wr => s.size - wr.iterPos W.heap.size)
  case atStart =>
    exact ⟨0, s.size, [], rfl, by omega, by simp, World.iter_heap W s 0, hbox.alloc _, hJ [] W _ none h0 (World.grownBy_alloc W _ none) (fun r e => by cases e)⟩
  case round =>
    obtain ⟨pos, f, pre, hpre, hf, hlen, hit, hbx, hj⟩ := hrel
    have hc := hbx.cell
    have HP : Hid (pre ++ cutsFrom s f pos = cuts s) := hpre
    clear hpre
    by_cases hlt : pos < s.size
    · have hnx : ∀ ty, (Instr.next (.pointer (some ⟨W.heap.size, 0, none⟩)) true ty).run Try.prog wr = .ok (.tuple #[.bool true, .int .i64 pos, .int .i32 (Utf8.decode s pos).1]) (wr.iterAt W.heap.size s (pos + wid s pos)) := fun ty => Lib.run_next_any_at wr W.heap.size s pos ty hit hlt
      have hit2 := Lib.iterAt_heap wr W.heap.size s pos (pos + wid s pos) hit
      have hbx2 : Boxed (wr.iterAt W.heap.size s (pos + wid s pos)) Bs 9 (.string s) := (Lib.iterAt_other wr W.heap.size Bs s _ (by omega)).trans hbx
      have hc2 := hbx2.cell
      have hj2 : J pre (wr.iterAt W.heap.size s (pos + wid s pos)) := hJ pre wr _ (some W.heap.size) hj (grownBy_iterAt wr _ s _) (fun r e => by cases e; exact ⟨Nat.le_refl _, _, hit, rfl⟩)
      generalize wr.iterAt W.heap.size s (pos + wid s pos) = W2 at hnx hit2 hbx2 hc2 hj2
      obtain ⟨fn, tmps, assign, body, hy, hR⟩ := hY pre (cutAt s pos hlt) W2 hj2 (by omega)
      have hy' : (Instr.yield l #[.int .i64 (pos : Int), .int .i32 (numAt s pos)]).run Try.prog W2 = .ok (.round l fn tmps assign body) W2 := hy
      clear hy
      have hrm := decode_max s pos
      have hwp := wid_pos s pos
      have HN : Hid (numAt s pos = if (Utf8.decode s pos).1 = 65533 ∧ Lib.hasPrefix (s.data.toList.drop pos) [239, 191, 189] = false then -1 - ((s.get! pos).toNat : Int) else ((Utf8.decode s pos).1 : Int)) := rfl
      generalize (Utf8.decode s pos).1 = r at hnx hrm HN
      by_cases hr : r = 65533
      · subst hr
        have hex : s.extract pos s.size = ⟨(s.data.toList.drop pos).toArray⟩ := extract_drop s pos
        by_cases hp : Lib.hasPrefix (s.data.toList.drop pos) [239, 191, 189] = true
        · rw [HN.out, if_neg (by simp [hp])] at hy'
          have hy2 : (Instr.yield l #[.int .i64 (pos : Int), .int .i32 65533]).run Try.prog W2 = .ok (.round l fn tmps assign body) W2 := hy'
          clear HN hy'
          gi_wp2_with (refine ⟨trivial, ?_⟩; gi_at_call 46; refine (callsIn_wide.2 (Try.strings_HasPrefix _ _ _)).mono ?_; rintro e w' ⟨rfl, hw'⟩; subst hw')
          refine hR.mono ?_
          rintro e W3 (⟨rfl, hJ3, hk3⟩ | ⟨rfl, hJx3⟩)
          · have E1 : W3.heap[W.heap.size]? = some (.stringIter s (pos + wid s pos)) := hk3.2.same _ _ hit2 rfl
            have E2 : Boxed W3 Bs 9 (.string s) := hk3.1 hbx2
            gi_wp2
            go_roundw
            case rel => exact next_rel hlt HP.out hf hlen hit E1 E2 hJ3
            case measure => exact next_less hlt hwp hit E1
          · gi_wp2
            refine bodyPost_ret (results_none rfl _ _ _) rfl ?_
            exact ⟨⟨_, rfl⟩, .inr ⟨_, next_pre hlt HP.out hf, hJx3⟩⟩
        · have hpf : Lib.hasPrefix (s.data.toList.drop pos) [239, 191, 189] = false := by simpa using hp
          have hby : ((s.get! pos).toNat : Int) = ((s[pos]'hlt).toNat : Int) := by rw [← get_at s pos hlt]; rfl
          rw [HN.out, if_pos ⟨rfl, hpf⟩, hby] at hy'
          have hbl := (s[pos]'hlt).toNat_lt
          clear HN hp hby
          gi_wp2_with (refine ⟨trivial, ?_⟩; gi_at_call 46; refine (callsIn_wide.2 (Try.strings_HasPrefix _ _ _)).mono ?_; rintro e w' ⟨rfl, hw'⟩; subst hw')
          refine hR.mono ?_
          rintro e W3 (⟨rfl, hJ3, hk3⟩ | ⟨rfl, hJx3⟩)
          · have E1 : W3.heap[W.heap.size]? = some (.stringIter s (pos + wid s pos)) := hk3.2.same _ _ hit2 rfl
            have E2 : Boxed W3 Bs 9 (.string s) := hk3.1 hbx2
            gi_wp2
            go_roundw
            case rel => exact next_rel hlt HP.out hf hlen hit E1 E2 hJ3
            case measure => exact next_less hlt hwp hit E1
          · gi_wp2
            refine bodyPost_ret (results_none rfl _ _ _) rfl ?_
            exact ⟨⟨_, rfl⟩, .inr ⟨_, next_pre hlt HP.out hf, hJx3⟩⟩
      · have hne : ((r : Int) == 65533) = false := by rw [beq_eq_false_iff_ne]; omega
        rw [HN.out, if_neg (fun h => hr h.1)] at hy'
        clear HN hr
        gi_wp2
        refine ⟨trivial, ?_⟩
        gi_wp2
        refine hR.mono ?_
        rintro e W3 (⟨rfl, hJ3, hk3⟩ | ⟨rfl, hJx3⟩)
        · have E1 : W3.heap[W.heap.size]? = some (.stringIter s (pos + wid s pos)) := hk3.2.same _ _ hit2 rfl
          have E2 : Boxed W3 Bs 9 (.string s) := hk3.1 hbx2
          gi_wp2
          go_roundw
          case rel => exact next_rel hlt HP.out hf hlen hit E1 E2 hJ3
          case measure => exact next_less hlt hwp hit E1
        · gi_wp2
          refine bodyPost_ret (results_none rfl _ _ _) rfl ?_
          exact ⟨⟨_, rfl⟩, .inr ⟨_, next_pre hlt HP.out hf, hJx3⟩⟩
    · have hne : ∀ ty, (Instr.next (.pointer (some ⟨W.heap.size, 0, none⟩)) true ty).run Try.prog wr = .ok (.tuple #[.bool false]) wr := fun ty => Lib.run_next_end_at wr W.heap.size s pos ty hit hlt
      gi_wp2
      go_end0
      refine ⟨⟨_, rfl⟩, .inl ⟨pre, ?_, hj⟩⟩
      have := HP.out
      rw [cutsFrom_end s f pos hlt, List.append_nil] at this
      exact this
end Go.Proofs.Ytpndbbepfjocgaa
namespace Go.Proofs.Ytpndbbepfjocgaa
open Go.RowKit Go.Shelf
attribute [local go_sem] Oper.semAt_some

set_option maxHeartbeats 1000000 in
theorem runes_in (n : Nat) (s : ByteArray) (w : World) :
    CallsIn Fence.wide n Try.prog 44 #[.string s] w fun e w' => e = .returned (.func (.func 55) #[] #[.pointer (some ⟨w.heap.size, 0, none⟩)]) ∧ w' = w.alloc (.cells #[.string s] 9) := by
  refine callsIn_of_wp Try.func44 rfl trivial ?_ rfl
  simp only [Try.ntmps44, List.size_toArray, List.length_cons, List.length_nil, Nat.reduceAdd, Nat.reduceSub, Array.replicate_succ, Array.replicate_zero, List.push_toArray, List.append_toArray, List.nil_append, List.cons_append]
  gi_wp2
  go_ret
  exact ⟨rfl, rfl⟩

theorem runes_stops (n : Nat) (hn : 1 ≤ n) (Bs : Nat) (s : ByteArray) (w : World) (hc : Boxed w Bs 9 (.string s)) :
    SeqStopsK Fence.wide n Try.prog 55 #[.pointer (some ⟨Bs, 0, none⟩)] (encs (s := s)) (Kp Bs s) (fun ys => ys = cuts s) (fun pre => pre <+: cuts s) s.size w :=
  fun l J Jx W hW hJ _ hY h0 => runes1_in n hn l Bs s J Jx W hJ hY ((hW.block Bs hc.lt).trans hc) h0

theorem kp_set {Bs : Nat} {s : ByteArray} (W : World) (b : Nat) (u : Value) (h : Bs ≠ b) : Kp Bs s W (W.setCell ⟨b, 0, none⟩ u) :=
  ⟨fun x => x.other h u, KeepsWalks.setCell W _ u⟩
theorem kp_refl (Bs : Nat) (s : ByteArray) (W : World) : Kp Bs s W W := ⟨id, KeepsWalks.refl W⟩
end Go.Proofs.Ytpndbbepfjocgaa
