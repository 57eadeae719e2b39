import Derived.Test.YtilepggnplhngaaRaNum
import Derived.Deep.AppendLies
namespace Go.Proofs.Ytilepggnplhngaa
open Go.RowKit

def pl {s : ByteArray} (pre : List (Cut s)) : List Value := pre.map fun x => .int .i64 (x.1.1 : Int)
def nm {s : ByteArray} (pre : List (Cut s)) : List Value := pre.map fun x => .int .i32 x.1.2
theorem pl_snoc {s : ByteArray} (pre : List (Cut s)) (x : Cut s) : pl (pre ++ [x]) = pl pre ++ [.int .i64 (x.1.1 : Int)] := by simp [pl]
theorem nm_snoc {s : ByteArray} (pre : List (Cut s)) (x : Cut s) : nm (pre ++ [x]) = nm pre ++ [.int .i32 x.1.2] := by simp [nm]

theorem Try.info3 : (Try.prog.info? 3).map (fun i => (i.zero, i.size, i.bytes)) = some (some (.int .i64 0), 1, 8) := by kernel_rfl
theorem Try.info21 : (Try.prog.info? 21).map (fun i => (i.zero, i.size, i.bytes)) = some (some (.int .i32 0), 1, 4) := by kernel_rfl

theorem own_other {w w1 : World} {B e e' : Nat} {v v0 : Value} {n n0 : Nat} {xs ys : List Value} {o : Obj} (hne : e ≠ e') (h : w.ownsRow B e 1 v n xs) (h0 : w.ownsRow B e' 1 v0 n0 ys) (hg : (w.alloc o).grownBy w1 v0.ownBlock) : w1.ownsRow B e 1 v n xs := by
  refine (h.alloc o).kept hg ?_
  rcases h.2 with ⟨rfl, _⟩ | ⟨g, cap, cur, rfl, _, hh, _⟩
  · exact .inl rfl
  · right
    rcases h0.2 with ⟨rfl, _⟩ | ⟨g0, cap0, cur0, rfl, _, hh0, _⟩
    · simp [Value.ownBlock]
    · simp only [Value.ownBlock, ne_eq, Option.some.injEq]
      intro he
      rw [he] at hh
      rw [hh] at hh0
      simp only [Option.some.injEq, Obj.cells.injEq] at hh0
      exact hne hh0.2.1

theorem grown_below' {B e : Nat} {a w w' : World} {xs : List Value} {v : Value} {n : Nat} {o : Obj} (h : Below B a w) (hB : B ≤ w.heap.size) (hown : w.ownsRow B e 1 v n xs) (hg : (w.alloc o).grownBy w' v.ownBlock) : Below B a w' :=
  (h.alloc hB o).grown hg (by simp; omega) (fun k e => (hown.lt k e).1)

section
variable {s : ByteArray} {pos f : Nat} {pre : List (Cut s)}
theorem cut_next (hlt : pos < s.size) (h : pre ++ cutsFrom s f pos = cuts s) (hf : s.size ≤ pos + f) : (pre ++ [cutAt s pos hlt]) ++ cutsFrom s (f - 1) (pos + wid s pos) = cuts s ∧ s.size ≤ pos + wid s pos + (f - 1) := by
  obtain ⟨f', rfl⟩ : ∃ f', f = f' + 1 := ⟨f - 1, by omega⟩
  rw [cutsFrom_step s f' pos hlt] at h
  have hw := wid_pos s pos
  refine ⟨?_, by omega⟩
  rw [← h]; simp
end

set_option maxRecDepth 100000 in
set_option maxHeartbeats 2000000 in
theorem cuts_any (s : ByteArray) (w : World) (hs : s.size ≤ 1048576) :
    Calls Try.prog 4 #[.string s] w fun e w' => ∃ v1 v2, e = .returned (.tuple #[v1, v2]) ∧ w'.ownsRow w.heap.size 3 1 v1 (cuts s).length (pl (cuts s)) ∧ w'.ownsRow w.heap.size 21 1 v2 (cuts s).length (nm (cuts s)) ∧ Below w.heap.size w w' := by
  obtain ⟨i3, hi3, hz30, hz31, hz32⟩ := info_parts Try.info3
  obtain ⟨i21, hi21, hz10, hz11, hz12⟩ := info_parts Try.info21
  go_enter Try.func4, Try.ntmps4
  go_wp2
  go_loopw [4, 5, 6] (fun v1 v2 i wr => ∃ (pos f : Nat) (pre : List (Cut s)), pre ++ cutsFrom s f pos = cuts s ∧ s.size ≤ pos + f ∧ pos ≤ s.size ∧ pre.length ≤ pos ∧ i = .int .i64 pos ∧ wr.ownsRow w.heap.size 3 1 v1 pre.length (pl pre) ∧ wr.ownsRow w.heap.size 21 1 v2 pre.length (nm pre) ∧ Below w.heap.size w wr)
    (fun _ _ i _ => s.size - (intOf i).toNat)
  case atStart => exact ⟨0, s.size, [], rfl, by omega, by omega, by simp, rfl, World.ownsRow_nil _ _ _ _, World.ownsRow_nil _ _ _ _, Below.refl _ _⟩
  case round =>
    obtain ⟨pos, f, pre, hpre, hf, hps, hlen, rfl, own4, own5, hb⟩ := hrel
    have HP : Hid (pre ++ cutsFrom s f pos = cuts s) := hpre
    clear hpre
    have hB := hb.size
    by_cases hlt : pos < s.size
    · have hltI : (pos : Int) < (s.size : Int) := by omega
      have hbe := bt_eq s pos hlt
      have hbl := bt_lt s pos
      have hwl := wid_le s pos hlt
      have hwp := wid_pos s pos
      rcases ra_num s pos with ⟨hra, hnum, hw1⟩ | ⟨hnn, hra⟩
      · have HR : Hid (ra s pos = (0, 0)) := hra
        have hsb : (s[pos]'hlt).toNat = bt s pos := hbe.symm
        have HN : Hid (numAt s pos = -1 - (bt s pos : Int)) := hnum
        have HW : Hid (wid s pos = 1) := hw1
        clear hra hnum hw1 hbe
        go_wp2_with (first
          | (go_at_call 7; refine (ra_any s pos _ (by omega) hlt).mono ?_; rintro e w' ⟨rfl, hw'⟩; rw [HR.out]; subst hw')
          | (at_builtin; refine wpList_append_own _ rfl (.tmp 19) (.tmp 21) 22 rfl w.heap.size 3 i3 (.int .i64 0) 1 8 Try.underlying22 hi3 hz30 hz31 hz32 rfl (by decide) _ _ _ rfl (own4.alloc _) ⟨_, 0, none⟩ 1 1 _ rfl rfl (World.news_of_block (heap_alloc_new _ _)) (by intro u hu; simp at hu; subst hu; rfl) (by unfold maxLen; omega) (by omega) (by simp; omega) ?_; intro v1 w1 own41 grow1 _; have own51 := own_other (by decide) own5 own4 grow1; have hb1 := grown_below' hb hB own4 grow1; have hB1 := hb1.size)
          | (at_builtin; refine wpList_append_own _ rfl (.tmp 25) (.tmp 31) 23 rfl w.heap.size 21 i21 (.int .i32 0) 1 4 Try.underlying23 hi21 hz10 hz11 hz12 rfl (by decide) _ _ _ rfl (own51.alloc _) ⟨_, 0, none⟩ 1 1 _ rfl rfl (World.news_of_block (heap_alloc_new _ _)) (by intro u hu; simp at hu; subst hu; rfl) (by unfold maxLen; omega) (by omega) (by simp; omega) ?_; intro v2 w2 own52 grow2 _; have own42 := own_other (by decide) own41 own51 grow2; have hb2 := grown_below' hb1 hB1 own51 grow2))
        go_roundw
        case rel =>
          obtain ⟨hn1, hn2⟩ := cut_next hlt HP.out hf
          rw [HW.out] at hn1 hn2
          refine ⟨pos + 1, f - 1, pre ++ [cutAt s pos hlt], hn1, hn2, by omega, by simp; omega, by go_num, ?_, ?_, hb2⟩
          · rw [pl_snoc, List.length_append]; exact own42
          · have e : (cutAt s pos hlt).1.2 = -1 - (bt s pos : Int) := HN.out
            rw [nm_snoc, List.length_append, e]; exact own52
        case measure => simp [intOf]; omega
      · have HR : Hid (ra s pos = (numAt s pos, wid s pos)) := hra
        have hne : ((wid s pos : Int) == 0) = false := by rw [beq_eq_false_iff_ne]; omega
        clear hra hnn hbe
        go_wp2_with (first
          | (go_at_call 7; refine (ra_any s pos _ (by omega) hlt).mono ?_; rintro e w' ⟨rfl, hw'⟩; rw [HR.out]; subst hw')
          | (at_builtin; refine wpList_append_own _ rfl (.tmp 19) (.tmp 21) 22 rfl w.heap.size 3 i3 (.int .i64 0) 1 8 Try.underlying22 hi3 hz30 hz31 hz32 rfl (by decide) _ _ _ rfl (own4.alloc _) ⟨_, 0, none⟩ 1 1 _ rfl rfl (World.news_of_block (heap_alloc_new _ _)) (by intro u hu; simp at hu; subst hu; rfl) (by unfold maxLen; omega) (by omega) (by simp; omega) ?_; intro v1 w1 own41 grow1 _; have own51 := own_other (by decide) own5 own4 grow1; have hb1 := grown_below' hb hB own4 grow1; have hB1 := hb1.size)
          | (at_builtin; refine wpList_append_own _ rfl (.tmp 35) (.tmp 37) 23 rfl w.heap.size 21 i21 (.int .i32 0) 1 4 Try.underlying23 hi21 hz10 hz11 hz12 rfl (by decide) _ _ _ rfl (own51.alloc _) ⟨_, 0, none⟩ 1 1 _ rfl rfl (World.news_of_block (heap_alloc_new _ _)) (by intro u hu; simp at hu; subst hu; rfl) (by unfold maxLen; omega) (by omega) (by simp; omega) ?_; intro v2 w2 own52 grow2 _; have own42 := own_other (by decide) own41 own51 grow2; have hb2 := grown_below' hb1 hB1 own51 grow2))
        go_roundw
        case rel =>
          obtain ⟨hn1, hn2⟩ := cut_next hlt HP.out hf
          refine ⟨pos + wid s pos, f - 1, pre ++ [cutAt s pos hlt], hn1, hn2, by omega, by simp; omega, by go_num, ?_, ?_, hb2⟩
          · rw [pl_snoc, List.length_append]; exact own42
          · rw [nm_snoc, List.length_append]; exact own52
        case measure => simp [intOf]; omega
    · go_wp2
      go_ret2
      refine ⟨_, _, rfl, ?_⟩
      have := HP.out
      rw [cutsFrom_end s f pos hlt, List.append_nil] at this
      subst this
      exact ⟨own4, own5, hb⟩
end Go.Proofs.Ytilepggnplhngaa
