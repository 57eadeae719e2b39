import Derived.Test.YtcmfephbhbgoiaaDoorENote
import Derived.Deep.AppendLies
import Derived.Deep.RegionLaw
namespace Go.Proofs.YtcmfephbhbgoiaaDoor
open Go.RowKit Go.WideShapes
set_option maxRecDepth 100000

theorem note_off (a : Nat) (c : Int) (f : Value) (w : World) (hc : w.cell? ⟨a, 2, none⟩ = some (.bool false)) :
    Calls Tryd.prog 59 #[.pointer (some ⟨a, 0, none⟩), .int .i64 c, f] w fun e w' => e = .returned (.tuple #[]) ∧ w' = w := by
  go_enter Tryd.func59, Tryd.ntmps59
  go_wp2
  refine bodyPost_ret (results_none rfl _ _ _) rfl ?_
  exact ⟨rfl, rfl⟩
theorem own_slice {w : World} {B e sz n : Nat} {v : Value} {xs : List Value} (h : w.ownsRow B e sz v n xs) : ∃ ao c, v = .slice ao n c := by
  rcases h.2 with ⟨rfl, rfl⟩ | ⟨g, cap, cur, rfl, _⟩
  · exact ⟨_, _, rfl⟩
  · exact ⟨_, _, rfl⟩
/-- what the touched bytes of a call are in the log -/
def tcs (x n N : Nat) (wr : Bool) : List (Int × Bool) := (List.range n).map fun i => ((((x + i) % N : Nat) : Int), wr)
theorem tcs_len (x n N : Nat) (wr : Bool) : (tcs x n N wr).length = n := by simp [tcs]
theorem tcs_succ (x n N : Nat) (wr : Bool) : tcs x (n + 1) N wr = tcs x n N wr ++ [((((x + n) % N : Nat) : Int), wr)] := by simp [tcs, List.range_succ]
theorem belS {a w : World} {o : Obj} (h : Below a.heap.size a w) : Below a.heap.size a (w.alloc o) := h.alloc h.size o
theorem btS {w a b : World} (h1 : Below w.heap.size w a) (h2 : Below a.heap.size a b) : Below w.heap.size w b := h1.trans (h2.mono h1.size)
theorem infoT : (Tryd.prog.info? 106).map (fun i => (i.zero, i.size, i.bytes)) = some (some (.agg #[.int .u32 0, .bool false]), 2, 8) := by kernel_rfl
theorem tvv_one' (L : List (Int × Bool)) : ∀ u ∈ tvv L, u.oneCell' = true := by
  intro u hu
  obtain ⟨t, _, ht⟩ := List.mem_flatMap.1 hu
  simp only [List.mem_cons, List.not_mem_nil, or_false] at ht
  rcases ht with rfl | rfl <;> rfl
theorem MemS.of_obj {w : World} {a g cap : Nat} {bs : List Int} {lg : Bool} {tv : Value} {ts : List (Int × Bool)} (h : MemS w a g cap bs lg tv ts) {w' : World} {lg' : Bool} {tv' : Value} {ts' : List (Int × Bool)} {S : Nat → Prop} (hk : Kp S w w') (hs : ¬ S g)
    (ho : w'.heap[a]? = some (.cells #[.pointer (some ⟨a, 0, none⟩), .slice (some ⟨g, 0, none⟩) bs.length cap, .bool lg', tv'] 36 (0, 0))) (hl : w'.ownsRow 0 106 2 tv' ts'.length (tvv ts')) (na : tv'.ownBlock ≠ some a) (ng : tv'.ownBlock ≠ some g) (ht : ts'.length ≤ 65536) : MemS w' a g cap bs lg' tv' ts' :=
  ⟨ho, hk.own h.row (fun k e => by simp only [Value.ownBlock, Option.some.injEq] at e; subst e; exact hs), hl, h.ne, na, ng, h.pw, h.wf, ht⟩
theorem set_obj3 {w : World} {a : Nat} {c0 c1 c2 c3 v : Value} {t : TypeId} (h : w.heap[a]? = some (.cells #[c0, c1, c2, c3] t (0, 0))) : (w.setCell ⟨a, 3, none⟩ v).heap[a]? = some (.cells #[c0, c1, c2, v] t (0, 0)) := by
  rw [setCell_eq_setRow w a 3 _ t (0, 0) v h, setRow_heap w a _ _ t _ h]
  rfl
theorem set_obj2 {w : World} {a : Nat} {c0 c1 c2 c3 v : Value} {t : TypeId} (h : w.heap[a]? = some (.cells #[c0, c1, c2, c3] t (0, 0))) : (w.setCell ⟨a, 2, none⟩ v).heap[a]? = some (.cells #[c0, c1, v, c3] t (0, 0)) := by
  rw [setCell_eq_setRow w a 2 _ t (0, 0) v h, setRow_heap w a _ _ t _ h]
  rfl
theorem take_all (ts new : List (Int × Bool)) (h : ts.length + new.length ≤ 65536) : (ts ++ new).take 65536 = ts ++ new := List.take_of_length_le (by simp; omega)
theorem tcs_cut (ts : List (Int × Bool)) (x n N K : Nat) (wr : Bool) (h : K ≤ n) (hK : ts.length + K = 65536) : (ts ++ tcs x n N wr).take 65536 = ts ++ tcs x K N wr := by
  rw [List.take_append, List.take_of_length_le (by omega), ← hK, Nat.add_sub_cancel_left]
  congr 1
  simp [tcs, ← List.map_take, List.take_range, Nat.min_eq_left h]
theorem note_step {w wr W1 w2 : World} {a g cap gg cc n : Nat} {bs : List Int} {lg : Bool} {tv tv' : Value} {ts : List (Int × Bool)} {p : Int × Bool} (hK : Kp (Foot a g tv) w wr) (hT : ∀ j, tv'.ownBlock = some j → tv.ownBlock = some j ∨ w.heap.size ≤ j)
    (hR : MemS wr a g cap bs lg tv' ts) (hb : Below wr.heap.size wr W1) (own2 : w2.ownsRow 0 106 2 (.slice (some ⟨gg, 0, none⟩) (n + 1) cc) (n + 1) (tvv ts ++ [.int .u32 p.1, .bool p.2])) (hg2 : W1.grownBy w2 tv'.ownBlock) (hgg : tv'.ownBlock = some gg ∨ wr.heap.size ≤ gg) (hl : ts.length = n) (hm : n + 1 ≤ 65536) :
    MemS (w2.setCell ⟨a, 3, none⟩ (.slice (some ⟨gg, 0, none⟩) (n + 1) cc)) a g cap bs lg (.slice (some ⟨gg, 0, none⟩) (n + 1) cc) (ts ++ [p]) ∧ Kp (Foot a g tv) w (w2.setCell ⟨a, 3, none⟩ (.slice (some ⟨gg, 0, none⟩) (n + 1) cc)) ∧
      ∀ j, (Value.slice (some ⟨gg, 0, none⟩) (n + 1) cc).ownBlock = some j → tv.ownBlock = some j ∨ w.heap.size ≤ j := by
  have haw := hR.lt a (.inl rfl)
  have hgw := hR.lt g (.inr (.inl rfl))
  have k1 : Kp (fun k => tv'.ownBlock = some k) wr w2 := (Kp.ofBelow hb).trans (Kp.ofGrown (S := fun k => tv'.ownBlock = some k) hg2 (fun i h _ => h)) (fun i _ h => h)
  have k2 : Kp (Foot a g tv') wr (w2.setCell ⟨a, 3, none⟩ (.slice (some ⟨gg, 0, none⟩) (n + 1) cc)) := (k1.mono (fun i _ h => .inr (.inr h))).trans (Kp.setCell (S := fun k => k = a) _ _ _ rfl) (fun i _ h => .inl h)
  have ga : gg ≠ a := by
    rcases hgg with h | h
    · intro e; exact hR.na (e ▸ h)
    · omega
  have gG : gg ≠ g := by
    rcases hgg with h | h
    · intro e; exact hR.ng (e ▸ h)
    · omega
  have ho : w2.heap[a]? = wr.heap[a]? := k1.block a haw hR.na
  refine ⟨?_, hK.trans k2 ?_, ?_⟩
  · refine hR.of_obj (S := fun k => k = a ∨ tv'.ownBlock = some k) ((k1.mono (fun i _ h => .inr h)).trans (Kp.setCell (S := fun k => k = a) _ _ _ rfl) (fun i _ h => .inl h)) (fun h => h.elim (fun e => hR.ne e.symm) hR.ng) (set_obj3 (ho.trans hR.obj)) ?_ (by simp [Value.ownBlock, ga]) (by simp [Value.ownBlock, gG]) (by simp; omega)
    have := (Kp.setCell (S := fun k => k = a) w2 ⟨a, 3, none⟩ (.slice (some ⟨gg, 0, none⟩) (n + 1) cc) rfl).own own2 (fun k e => by simp only [Value.ownBlock, Option.some.injEq] at e; subst e; exact ga)
    rw [tvv_append, tvv_one, List.length_append, hl]
    exact this
  · intro i hi hF
    rcases hF with h | h | h
    · exact .inl h
    · exact .inr (.inl h)
    · rcases hT i h with h | h
      · exact .inr (.inr h)
      · omega
  · intro j hj
    simp only [Value.ownBlock, Option.some.injEq] at hj
    subst hj
    rcases hgg with h | h
    · exact hT gg h
    · exact .inr (Nat.le_trans hK.size h)
end Go.Proofs.YtcmfephbhbgoiaaDoor
