import Derived.Test.YtnjglagfpghbjaaDoorCP4
import Derived.Test.YtnjglagfpghbjaaDoorCP3
import Derived.Test.YtnjglagfpghbjaaDoorCP2
import Derived.Deep.QuietTactic
namespace Go.Proofs.YtnjglagfpghbjaaDoor
open Go.RowKit Go.WideShapes
set_option maxRecDepth 100000

/-- the document's segment in memory -/
structure RefS (w : World) (r g cap : Nat) (bs : List Int) (on : Bool) (tv : Value) (ts : List (Int × Bool)) : Prop where
  obj : w.heap[r]? = some (.cells #[.slice (some ⟨g, 0, none⟩) bs.length cap, .bool on, tv] 54 (0, 0))
  row : w.ownsRow 0 5 1 (.slice (some ⟨g, 0, none⟩) bs.length cap) bs.length (bv bs)
  log : w.ownsRow 0 56 2 tv ts.length (tvv ts)
  ne : r ≠ g
  na : tv.ownBlock ≠ some r
  ng : tv.ownBlock ≠ some g
  pw : Pw bs.length
  wf : ∀ z ∈ bs, 0 ≤ z ∧ z ≤ 255
  tl : ts.length ≤ 65536
theorem RefS.kept {S : Nat → Prop} {w w' : World} {a g cap : Nat} {bs : List Int} {lg : Bool} {tv : Value} {ts : List (Int × Bool)} (h : RefS w a g cap bs lg tv ts) (hk : Kp S w w') (hs : ∀ k, Foot a g tv k → ¬ S k) : RefS w' a g cap bs lg tv ts :=
  ⟨by rw [hk.block a (Array.getElem?_eq_some_iff.1 h.obj).1 (hs a (.inl rfl))]; exact h.obj, hk.own h.row (fun k e => hs k (.inr (.inl (by simpa [Value.ownBlock] using e.symm)))), hk.own h.log (fun k e => hs k (.inr (.inr e))), h.ne, h.na, h.ng, h.pw, h.wf, h.tl⟩
theorem RefS.lt {w : World} {a g cap : Nat} {bs : List Int} {lg : Bool} {tv : Value} {ts : List (Int × Bool)} (h : RefS w a g cap bs lg tv ts) (k : Nat) (hk : Foot a g tv k) : k < w.heap.size := by
  rcases hk with rfl | rfl | e
  · exact (Array.getElem?_eq_some_iff.1 h.obj).1
  · exact (h.row.lt k rfl).2
  · exact (h.log.lt k e).2
theorem set_ref2 {w : World} {a : Nat} {c0 c1 c2 v : Value} {t : TypeId} (h : w.heap[a]? = some (.cells #[c0, c1, c2] t (0, 0))) : (w.setCell ⟨a, 2, none⟩ v).heap[a]? = some (.cells #[c0, c1, v] t (0, 0)) := by
  rw [setCell_eq_setRow w a 2 _ t (0, 0) v h, setRow_heap w a _ _ t _ h]
  rfl
theorem set_ref1 {w : World} {a : Nat} {c0 c1 c2 v : Value} {t : TypeId} (h : w.heap[a]? = some (.cells #[c0, c1, c2] t (0, 0))) : (w.setCell ⟨a, 1, none⟩ v).heap[a]? = some (.cells #[c0, v, c2] t (0, 0)) := by
  rw [setCell_eq_setRow w a 1 _ t (0, 0) v h, setRow_heap w a _ _ t _ h]
  rfl
theorem RefS.of_obj {w : World} {a g cap : Nat} {bs : List Int} {lg : Bool} {tv : Value} {ts : List (Int × Bool)} (h : RefS w a g cap bs lg tv ts) {w' : World} {lg' : Bool} {tv' : Value} {ts' : List (Int × Bool)} {S : Nat → Prop} (hk : Kp S w w') (hs : ¬ S g)
    (ho : w'.heap[a]? = some (.cells #[.slice (some ⟨g, 0, none⟩) bs.length cap, .bool lg', tv'] 54 (0, 0))) (hl : w'.ownsRow 0 56 2 tv' ts'.length (tvv ts')) (na : tv'.ownBlock ≠ some a) (ng : tv'.ownBlock ≠ some g) (ht : ts'.length ≤ 65536) : RefS w' a g cap bs lg' tv' ts' :=
  ⟨ho, hk.own h.row (fun k e => by simp only [Value.ownBlock, Option.some.injEq] at e; subst e; exact hs), hl, h.ne, na, ng, h.pw, h.wf, ht⟩
theorem place_r (r g cap N x i : Nat) (w : World) (hx : x < 4294967296) (hi : i ≤ 65536) (hp : Pw N) (hc : w.cell? ⟨r, 0, none⟩ = some (.slice (some ⟨g, 0, none⟩) N cap)) :
    Calls Tryd.prog 57 #[.pointer (some ⟨r, 0, none⟩), .int .u32 x, .int .i64 i] w fun e w' => e = .returned (.int .i64 ((x + i) % N : Nat)) ∧ w' = w := by
  have hb := hp.bd
  have hm := hp.mod (x + i)
  have e1 : ((x : Int) + (i : Int)) % 4294967296 % (N : Int) = (((x + i) % N : Nat) : Int) := by rw [← hm]; simp
  have e2 : ((((x + i) % 4294967296 : Nat) : Int)) % (N : Int) = (((x + i) % N : Nat) : Int) := by rw [← hm]; simp
  have hn : ¬ (N : Int) = 0 := by omega
  have hl : (x + i) % N < N := Nat.mod_lt _ (by omega)
  generalize (x + i) % N = q at *
  go_enter Tryd.func57, Tryd.ntmps57
  go_wp2
  go_ret
  exact ⟨ret_int (by first | (simp; omega) | omega), rfl⟩
theorem note_roff (r : Nat) (p wr : Value) (w : World) (hc : w.cell? ⟨r, 1, none⟩ = some (.bool false)) :
    Calls Tryd.prog 58 #[.pointer (some ⟨r, 0, none⟩), p, wr] w fun e w' => e = .returned (.tuple #[]) ∧ w' = w := by
  go_enter Tryd.func58, Tryd.ntmps58
  go_wp2
  go_end0
  exact ⟨rfl, rfl⟩
theorem note_rfull (r : Nat) (p wr : Value) (to : Option Addr) (n tc : Nat) (w : World) (hc : w.cell? ⟨r, 1, none⟩ = some (.bool true)) (hc2 : w.cell? ⟨r, 2, none⟩ = some (.slice to n tc)) (hn : ¬ (n : Int) < 65536) :
    Calls Tryd.prog 58 #[.pointer (some ⟨r, 0, none⟩), p, wr] w fun e w' => e = .returned (.tuple #[]) ∧ w' = w := by
  go_enter Tryd.func58, Tryd.ntmps58
  go_wp2
  go_end0
  exact ⟨rfl, rfl⟩
theorem rnote_step {w wr W1 w2 : World} {a g cap gg cc n : Nat} {bs : List Int} {lg : Bool} {tv tv' : Value} {ts : List (Int × Bool)} {p : Int × Bool} (hK : Kp (Foot a g tv) w wr) (hT : ∀ j, tv'.ownBlock = some j → tv.ownBlock = some j ∨ w.heap.size ≤ j)
    (hR : RefS wr a g cap bs lg tv' ts) (hb : Below wr.heap.size wr W1) (own2 : w2.ownsRow 0 56 2 (.slice (some ⟨gg, 0, none⟩) (n + 1) cc) (n + 1) (tvv ts ++ [.int .u32 p.1, .bool p.2])) (hg2 : W1.grownBy w2 tv'.ownBlock) (hgg : tv'.ownBlock = some gg ∨ wr.heap.size ≤ gg) (hl : ts.length = n) (hm : n + 1 ≤ 65536) :
    RefS (w2.setCell ⟨a, 2, none⟩ (.slice (some ⟨gg, 0, none⟩) (n + 1) cc)) a g cap bs lg (.slice (some ⟨gg, 0, none⟩) (n + 1) cc) (ts ++ [p]) ∧ Kp (Foot a g tv) w (w2.setCell ⟨a, 2, none⟩ (.slice (some ⟨gg, 0, none⟩) (n + 1) cc)) ∧
      ∀ j, (Value.slice (some ⟨gg, 0, none⟩) (n + 1) cc).ownBlock = some j → tv.ownBlock = some j ∨ w.heap.size ≤ j := by
  have haw := hR.lt a (.inl rfl)
  have hgw := hR.lt g (.inr (.inl rfl))
  have k1 : Kp (fun k => tv'.ownBlock = some k) wr w2 := (Kp.ofBelow hb).trans (Kp.ofGrown (S := fun k => tv'.ownBlock = some k) hg2 (fun i h _ => h)) (fun i _ h => h)
  have k2 : Kp (Foot a g tv') wr (w2.setCell ⟨a, 2, none⟩ (.slice (some ⟨gg, 0, none⟩) (n + 1) cc)) := (k1.mono (fun i _ h => .inr (.inr h))).trans (Kp.setCell (S := fun k => k = a) _ _ _ rfl) (fun i _ h => .inl h)
  have ga : gg ≠ a := by
    rcases hgg with h | h
    · intro e; exact hR.na (e ▸ h)
    · omega
  have gG : gg ≠ g := by
    rcases hgg with h | h
    · intro e; exact hR.ng (e ▸ h)
    · omega
  have ho : w2.heap[a]? = wr.heap[a]? := k1.block a haw hR.na
  refine ⟨?_, hK.trans k2 ?_, ?_⟩
  · refine hR.of_obj (S := fun k => k = a ∨ tv'.ownBlock = some k) ((k1.mono (fun i _ h => .inr h)).trans (Kp.setCell (S := fun k => k = a) _ _ _ rfl) (fun i _ h => .inl h)) (fun h => h.elim (fun e => hR.ne e.symm) hR.ng) (set_ref2 (ho.trans hR.obj)) ?_ (by simp [Value.ownBlock, ga]) (by simp [Value.ownBlock, gG]) (by simp; omega)
    have := (Kp.setCell (S := fun k => k = a) w2 ⟨a, 2, none⟩ (.slice (some ⟨gg, 0, none⟩) (n + 1) cc) rfl).own own2 (fun k e => by simp only [Value.ownBlock, Option.some.injEq] at e; subst e; exact ga)
    rw [tvv_append, tvv_one, List.length_append, hl]
    exact this
  · intro i hi hF
    rcases hF with h | h | h
    · exact .inl h
    · exact .inr (.inl h)
    · rcases hT i h with h | h
      · exact .inr (.inr h)
      · omega
  · intro j hj
    simp only [Value.ownBlock, Option.some.injEq] at hj
    subst hj
    rcases hgg with h | h
    · exact hT gg h
    · exact .inr (Nat.le_trans hK.size h)
set_option maxHeartbeats 1000000 in
theorem note_ron (r g cap p : Nat) (wr : Bool) (bs : List Int) (to : Option Addr) (tc : Nat) (ts : List (Int × Bool)) (w : World) (h : RefS w r g cap bs true (.slice to ts.length tc) ts) (hp : p < 65536) (hl : ts.length < 65536) :
    Calls Tryd.prog 58 #[.pointer (some ⟨r, 0, none⟩), .int .i64 p, .bool wr] w fun e w' => e = .returned (.tuple #[]) ∧
      Hid (∃ tv', RefS w' r g cap bs true tv' (ts ++ [((p : Int), wr)]) ∧ Kp (Foot r g (.slice to ts.length tc)) w w' ∧ ∀ j, tv'.ownBlock = some j → (Value.slice to ts.length tc).ownBlock = some j ∨ w.heap.size ≤ j) := by
  obtain ⟨i0, hi, hz0, hz1, hz2⟩ := info_parts infoT
  have c1 : w.cell? ⟨r, 1, none⟩ = some (.bool true) := (obj_cell h.obj 1).trans rfl
  have c2 : w.cell? ⟨r, 2, none⟩ = some (.slice to ts.length tc) := (obj_cell h.obj 2).trans rfl
  have hlI : (ts.length : Int) < 65536 := by omega
  have hpw : (p : Int) % 4294967296 = p := by omega
  have hrw : r < w.heap.size := h.lt r (.inl rfl)
  have HH := hidS h
  have HP := hidS hp
  have HLL := hidS hl
  have HHI := hidS hi
  have HZ0 := hidS hz0
  have HZ1 := hidS hz1
  have HZ2 := hidS hz2
  have HB : Below w.heap.size w (w.alloc (.cells #[.int .u32 p, .bool wr] 56)) := (Below.refl _ _).alloc (Nat.le_refl _) _
  have HOW := hidS ((Kp.ofBelow (S := fun _ => False) HB).own h.log (fun _ _ h => h))
  clear h hp hl hi hz0 hz1 hz2
  go_enter Tryd.func58, Tryd.ntmps58
  go_wp2_with (at_builtin; refine wpList_append_lies _ rfl _ _ 40 rfl 0 56 i0 (.agg #[.int .u32 0, .bool false]) 2 8 Tryd.underlying40 HHI.out HZ0.out HZ1.out HZ2.out rfl (by decide) (.slice to ts.length tc) ts.length (tvv ts) rfl HOW.out ⟨_, 0, none⟩ 1 1 [.int .u32 p, .bool wr] rfl rfl (World.news_of_block (cs := #[.int .u32 p, .bool wr]) (heap_alloc_new _ _)) (tvv_one' [((p : Int), wr)]) (by decide) (by have := HLL.out; unfold maxLen; omega) (by have := HLL.out; omega) (Nat.zero_le _) _ rfl ?_; intro gg cc w2 own2 hg2 hgg hlt2; have HG2 := hidS hg2; have HGG := hidS hgg; have HO2 := hidS own2; obtain ⟨g2c, g2f⟩ : w2.cell? ⟨r, 2, none⟩ = some (.slice to ts.length tc) ∧ w2.frozen? ⟨r, 2, none⟩ = false := ⟨(hg2.cell_far ⟨r, 2, none⟩ (Nat.lt_of_lt_of_le hrw HB.size) (fun e => HH.out.na e.symm)).trans ((HB.cell (p := ⟨r, 2, none⟩) hrw).trans c2), (hg2.frozen_far ⟨r, 2, none⟩ (Nat.lt_of_lt_of_le hrw HB.size) (fun e => HH.out.na e.symm)).trans ((HB.frozen (p := ⟨r, 2, none⟩) hrw).trans (obj_frozen HH.out.obj 2))⟩; clear own2 hg2 hgg)
  go_end0
  obtain ⟨q1, q2, q3⟩ := rnote_step (p := ((p : Int), wr)) (n := ts.length) (Kp.refl (Foot r g (.slice to ts.length tc)) w) (fun j hj => .inl hj) HH.out HB HO2.out HG2.out (HGG.out.imp id (fun h => by have := HB.size; simp at h; omega)) rfl (by have := HLL.out; omega)
  exact ⟨rfl, _, q1, q2, q3⟩
/-- note, whatever the log is -/
theorem note_r (r g cap p : Nat) (wr on : Bool) (bs : List Int) (tv : Value) (ts : List (Int × Bool)) (w : World) (h : RefS w r g cap bs on tv ts) (hp : p < 65536) :
    Calls Tryd.prog 58 #[.pointer (some ⟨r, 0, none⟩), .int .i64 p, .bool wr] w fun e w' => e = .returned (.tuple #[]) ∧
      Hid (∃ tv', RefS w' r g cap bs on tv' (lgL on ts [((p : Int), wr)]) ∧ Kp (Foot r g tv) w w' ∧ ∀ j, tv'.ownBlock = some j → tv.ownBlock = some j ∨ w.heap.size ≤ j) := by
  cases on
  · exact (note_roff r _ _ w ((obj_cell h.obj 1).trans rfl)).mono fun e w' ⟨he, hw⟩ => ⟨he, tv, by rw [hw]; exact h, by rw [hw]; exact Kp.refl _ _, fun j hj => .inl hj⟩
  · obtain ⟨to, tc, rfl⟩ := own_slice h.log
    by_cases hl : ts.length < 65536
    · refine (note_ron r g cap p wr bs to tc ts w h hp hl).mono fun e w' ⟨he, hq⟩ => ⟨he, ?_⟩
      have e2 : lgL true ts [((p : Int), wr)] = ts ++ [((p : Int), wr)] := take_all _ _ (by simp; omega)
      rw [e2]; exact hq
    · have hf : ts.length = 65536 := by have := h.tl; omega
      refine (note_rfull r _ _ to ts.length tc w ((obj_cell h.obj 1).trans rfl) ((obj_cell h.obj 2).trans rfl) (by omega)).mono fun e w' ⟨he, hw⟩ => ⟨he, .slice to ts.length tc, ?_, by rw [hw]; exact Kp.refl _ _, fun j hj => .inl hj⟩
      have e2 : lgL true ts [((p : Int), wr)] = ts := by
        show (ts ++ [((p : Int), wr)]).take 65536 = ts
        rw [← hf, List.take_left]
      rw [e2, hw]; exact h
theorem lgL_snoc (on : Bool) (ts l : List (Int × Bool)) (e : Int × Bool) : lgL on (lgL on ts l) [e] = lgL on ts (l ++ [e]) := by
  cases on
  · rfl
  · show ((ts ++ l).take 65536 ++ [e]).take 65536 = (ts ++ (l ++ [e])).take 65536
    rw [← List.append_assoc, List.take_append, List.take_append (l₁ := ts ++ l), List.take_take, Nat.min_self, List.length_take]
    by_cases h : (ts ++ l).length ≤ 65536
    · rw [Nat.min_eq_right h]
    · rw [show 65536 - min 65536 (ts ++ l).length = 0 by omega, show 65536 - (ts ++ l).length = 0 by omega]
theorem lgL_nil (on : Bool) (ts : List (Int × Bool)) (h : ts.length ≤ 65536) : lgL on ts [] = ts := by
  cases on
  · rfl
  · show (ts ++ []).take 65536 = ts
    rw [List.append_nil, List.take_of_length_le h]
end Go.Proofs.YtnjglagfpghbjaaDoor
namespace Go.Proofs.YtnjglagfpghbjaaDoor
open Go.RowKit Go.WideShapes
set_option maxRecDepth 100000

set_option maxHeartbeats 1000000 in
theorem get_r (r g cap x n : Nat) (on : Bool) (bs : List Int) (tv : Value) (ts : List (Int × Bool)) (w : World) (h : RefS w r g cap bs on tv ts) (hx : x < 4294967296) (hn : n ≤ 4096) :
    Calls Tryd.prog 62 #[.pointer (some ⟨r, 0, none⟩), .int .u32 x, .int .i64 n] w fun e w' => ∃ v tv', e = .returned v ∧ w'.ownsRow w.heap.size 5 1 v n (bv (rdL bs x n)) ∧ RefS w' r g cap bs on tv' (lgL on ts (tcs x n bs.length false)) ∧ (∀ j, tv'.ownBlock = some j → tv.ownBlock = some j ∨ w.heap.size ≤ j) ∧ Kp (Foot r g tv) w w' ∧ (∀ j, v.ownBlock = some j → tv'.ownBlock ≠ some j) := by
  obtain ⟨i0, hi, hz0, hz1, hz2⟩ := info_parts Tryd.info5
  have HH := hidS h
  clear h
  go_enter Tryd.func62, Tryd.ntmps62
  go_wp2_with fail
  have hpw := HH.out.pw
  have hpb := hpw.bd
  have hrl := HH.out.lt r (.inl rfl)
  have hgl := HH.out.lt g (.inr (.inl rfl))
  have HPW := hidS hpw
  clear hpw
  go_loopw [7, 8] (fun v i wr => ∃ (k : Nat) (tv' : Value), k ≤ n ∧ i = .int .i64 k ∧ wr.ownsRow w.heap.size 5 1 v k (bv (rdL bs x k)) ∧ RefS wr r g cap bs on tv' (lgL on ts (tcs x k bs.length false)) ∧ (∀ j, tv'.ownBlock = some j → tv.ownBlock = some j ∨ w.heap.size ≤ j) ∧ Kp (Foot r g tv) w wr ∧ (∀ j, v.ownBlock = some j → tv'.ownBlock ≠ some j))
    (fun _ i _ => n - (intOf i).toNat)
  case atStart => exact ⟨0, tv, Nat.zero_le _, rfl, World.ownsRow_nil _ _ _ _, by rw [show tcs x 0 bs.length false = [] from rfl, lgL_nil _ _ HH.out.tl]; exact HH.out, fun j hj => .inl hj, Kp.refl _ _, fun j hj => by simp [Value.ownBlock] at hj⟩
  case round =>
    obtain ⟨k, tv', hk, rfl, hown, hR, hT, hK, hD⟩ := hrel
    by_cases hlt : k < n
    · have hltI : (k : Int) < (n : Int) := by omega
      have hks := hK.size
      have hpl : (x + k) % bs.length < bs.length := Nat.mod_lt _ (by omega)
      have c0 : wr.cell? ⟨r, 0, none⟩ = some (.slice (some ⟨g, 0, none⟩) bs.length cap) := (obj_cell hR.obj 0).trans rfl
      have cb := own_get hR.row hpl
      have hrd : rdL bs x (k + 1) = rdL bs x k ++ [bs.getD ((x + k) % bs.length) 0] := by rw [rdL_add]; rfl
      have htc : lgL on (lgL on ts (tcs x k bs.length false)) [((((x + k) % bs.length : Nat) : Int), false)] = lgL on ts (tcs x (k + 1) bs.length false) := by rw [lgL_snoc, tcs_succ]
      have HP := hidS (place_r r g cap bs.length x k wr hx (by omega) HPW.out c0)
      have HNt := hidS (fun W tvx tsx (h : RefS W r g cap bs on tvx tsx) => note_r r g cap ((x + k) % bs.length) false on bs tvx tsx W h (by omega))
      have hb2 : (((x + k) % bs.length : Nat) : Int) < (bs.length : Int) := by omega
      generalize bs.getD ((x + k) % bs.length) 0 = y at *
      generalize (x + k) % bs.length = q at *
      have HRD := hidS hrd
      have HTC := hidS htc
      have HR := hidS hR
      have HT := hidS hT
      have HK := hidS hK
      have HD := hidS hD
      have HOW := hidS hown
      have HBA : Hid (∀ o, Below wr.heap.size wr (wr.alloc o)) := fun o => (Below.refl _ _).alloc (Nat.le_refl _) _
      clear hrd htc hR hT hK hD hown
      go_wp2_with (first
        | (go_at_call 57; with_reducible refine HP.out.mono ?_; rintro e wq ⟨rfl, hq⟩; subst wq)
        | (go_at_call 58; with_reducible refine (HNt.out _ _ _ HR2.out).mono ?_; rintro e w3 ⟨rfl, HQ3⟩)
        | (at_builtin; refine wpList_append_lies _ rfl _ _ 32 rfl w.heap.size 5 i0 (.int .u8 0) 1 1 Tryd.underlying32 hi hz0 hz1 hz2 rfl (by decide) _ k (bv (rdL bs x k)) rfl ((Kp.ofBelow (S := fun _ => False) (HBA.out _)).own HOW.out (fun _ _ h => h)) ⟨_, 0, none⟩ 1 1 [.int .u8 y] rfl rfl (World.news_of_block (cs := #[.int .u8 y]) (heap_alloc_new _ _)) (by intro u hu; simp at hu; subst hu; rfl) (by decide) (by unfold maxLen; omega) (by omega) (by simp; omega) _ rfl ?_; intro gg cc w2 own2 hg2 hgg hlt2; have HO2 := hidS own2; have HG2 := hidS hg2; have HGG := hidS hgg; have HR2 : Hid (RefS w2 r g cap bs on tv' (lgL on ts (tcs x k bs.length false))) := HR.out.kept (S := fun j => u7.ownBlock = some j) ((Kp.ofBelow (HBA.out _)).trans (Kp.ofGrown (S := fun j => u7.ownBlock = some j) hg2 (fun i h _ => h)) (fun i _ h => h)) (fun j hj hs => by
              rcases hj with rfl | rfl | e
              · have := (HOW.out.lt _ hs).1; omega
              · have := (HOW.out.lt _ hs).1; omega
              · exact HD.out j hs e); clear own2 hg2 hgg)
        | fail)
      go_roundw
      case rel =>
        obtain ⟨tv3, p1, p2, p3⟩ := HQ3.out
        have hsz2 := HG2.out.size
        have hk2 : Kp (fun j => u7.ownBlock = some j) wr w2 := (Kp.ofBelow (HBA.out _)).trans (Kp.ofGrown (S := fun j => u7.ownBlock = some j) HG2.out (fun i h _ => h)) (fun i _ h => h)
        have hgg : u7.ownBlock = some gg ∨ wr.heap.size ≤ gg := HGG.out.imp id (fun h => by simp at h; omega)
        have hggl : gg < w2.heap.size := (HO2.out.lt gg rfl).2
        have hggb : w.heap.size ≤ gg := (HO2.out.lt gg rfl).1
        have hnt : tv'.ownBlock ≠ some gg := by
          rcases hgg with h | h
          · exact HD.out gg h
          · intro e; have := HR.out.lt gg (.inr (.inr e)); omega
        refine ⟨k + 1, tv3, by omega, by go_num, ?_, by rw [← HTC.out]; exact p1, fun j hj => ?_, ?_, fun j hj e => ?_⟩
        · rw [HRD.out, bv_append]
          refine p2.own HO2.out (fun j hj hF => ?_)
          simp only [Value.ownBlock, Option.some.injEq] at hj
          subst hj
          rcases hF with e | e | e
          · omega
          · omega
          · exact hnt e
        · rcases p3 j hj with e | e
          · exact HT.out j e
          · exact .inr (by have := hk2.size; omega)
        · refine (HK.out.trans (hk2.mono (S' := fun j => w.heap.size ≤ j) (fun j _ hj => (HOW.out.lt j hj).1)) (fun j hj h => by omega)).trans p2 (fun j hj hF => ?_)
          rcases hF with e | e | e
          · exact .inl e
          · exact .inr (.inl e)
          · rcases HT.out j e with e | e
            · exact .inr (.inr e)
            · omega
        · simp only [Value.ownBlock, Option.some.injEq] at hj
          subst hj
          rcases p3 _ e with e | e
          · exact hnt e
          · omega
      case measure => simp [intOf]; omega
    · obtain rfl : k = n := by omega
      have hltI : ¬ (k : Int) < (k : Int) := by omega
      have HR := hidS hR
      have HT := hidS hT
      have HK := hidS hK
      have HD := hidS hD
      have HOW := hidS hown
      clear hR hT hK hD hown
      go_wp2_with fail
      go_ret
      exact ⟨_, rfl, HOW.out, tv', HR.out, HT.out, HK.out, HD.out⟩
theorem wrL_step (bs zs : List Int) (x k : Nat) (h : k < zs.length) : wrL bs x (zs.take (k + 1)) = (wrL bs x (zs.take k)).set ((x + k) % bs.length) (zs.getD k 0) := by
  have e : zs.take (k + 1) = zs.take k ++ [zs.getD k 0] := by
    rw [List.take_add_one, List.getElem?_eq_getElem h]
    simp [List.getD, List.getElem?_eq_getElem h]
  rw [e, wrL_append, List.length_take, Nat.min_eq_left (by omega), wrL, wrL, wrL_len]
theorem bv_st (L : List Int) (p : Nat) (v : Int) : (bv L).set p (.int .u8 v) = bv (L.set p v) := by simp [bv, List.map_set]
set_option maxHeartbeats 2000000 in
theorem put_r (r g cap x n c sb so : Nat) (bo : Option Addr) (on : Bool) (bs zs : List Int) (tv : Value) (ts : List (Int × Bool)) (w : World) (h : RefS w r g cap bs on tv ts) (hx : x < 4294967296) (hl : zs.length = n) (hn : n ≤ 4096) (hwf : ∀ z ∈ zs, 0 ≤ z ∧ z ≤ 255) (hsrc : Src w bo sb so zs) (nd : ¬ Foot r g tv sb) :
    Calls Tryd.prog 26 #[.pointer (some ⟨r, 0, none⟩), .int .u32 x, .slice bo n c] w fun e w' => e = .returned (.tuple #[]) ∧
      ∃ tv', RefS w' r g cap (wrL bs x zs) on tv' (lgL on ts (tcs x n bs.length true)) ∧ (∀ j, tv'.ownBlock = some j → tv.ownBlock = some j ∨ w.heap.size ≤ j) ∧ Kp (Foot r g tv) w w' := by
  have HH := hidS h
  have hpw := h.pw
  have hpb := hpw.bd
  have hrl := h.lt r (.inl rfl)
  have hgl := h.lt g (.inr (.inl rfl))
  have HPW := hidS hpw
  have HSR := hidS hsrc
  have HND := hidS nd
  have HWF := hidS hwf
  have HLN := hidS hl
  clear h hpw hsrc nd hwf
  go_enter Tryd.func26, Tryd.ntmps26
  go_wp2_with fail
  go_loopw [6] (fun i wr => ∃ (k : Nat) (tv' : Value), k ≤ n ∧ i = .int .i64 k ∧ RefS wr r g cap (wrL bs x (zs.take k)) on tv' (lgL on ts (tcs x k bs.length true)) ∧ (∀ j, tv'.ownBlock = some j → tv.ownBlock = some j ∨ w.heap.size ≤ j) ∧ Kp (Foot r g tv) w wr)
    (fun i _ => n - (intOf i).toNat)
  case atStart => exact ⟨0, tv, Nat.zero_le _, rfl, by rw [show tcs x 0 bs.length true = [] from rfl, lgL_nil _ _ HH.out.tl]; simpa [wrL] using HH.out, fun j hj => .inl hj, Kp.refl _ _⟩
  case round =>
    obtain ⟨k, tv', hk, rfl, hR, hT, hK⟩ := hrel
    by_cases hlt : k < n
    · have hltI : (k : Int) < (n : Int) := by omega
      have hks := hK.size
      obtain ⟨rfl, hsl, hsc⟩ := HSR.out (by omega)
      have hL : (wrL bs x (zs.take k)).length = bs.length := wrL_len _ _ _
      have hpl : (x + k) % bs.length < bs.length := Nat.mod_lt _ (by omega)
      have c0 : wr.cell? ⟨r, 0, none⟩ = some (.slice (some ⟨g, 0, none⟩) bs.length cap) := by have := (obj_cell hR.obj 0).trans rfl; rw [hL] at this; exact this
      have cs : wr.cell? ⟨sb, so + k, none⟩ = some (.int .u8 (zs.getD k 0)) := (hK.cell (p := ⟨sb, so + k, none⟩) hsl HND.out).trans (hsc k (by omega))
      have hrow := hR.row
      rw [hL] at hrow
      have cb := own_get hrow (i := (x + k) % bs.length) (by omega)
      have cf := hrow.frozenAt ((x + k) % bs.length)
      have st := (hrow.stored ((x + k) % bs.length) (.int .u8 (zs.getD k 0))).1
      rw [bv_st, ← wrL_step bs zs x k (by omega)] at st
      have htc : lgL on (lgL on ts (tcs x k bs.length true)) [((((x + k) % bs.length : Nat) : Int), true)] = lgL on ts (tcs x (k + 1) bs.length true) := by rw [lgL_snoc, tcs_succ]
      have HP := hidS (place_r r g cap bs.length x k wr hx (by omega) HPW.out c0)
      have hzw : 0 ≤ zs.getD k 0 ∧ zs.getD k 0 ≤ 255 := HWF.out _ (getD_mem (by omega))
      have hL2 : (wrL bs x (zs.take (k + 1))).length = bs.length := wrL_len _ _ _
      have hW2 := wrL_wf (zs.take (k + 1)) bs x HH.out.wf (fun z hz => HWF.out z (List.mem_of_mem_take hz))
      have HNt : Hid (∀ W, Kp (fun _ => False) (wr.setCell ⟨g, (x + k) % bs.length, none⟩ (.int .u8 (zs.getD k 0))) W → Calls Tryd.prog 58 #[.pointer (some ⟨r, 0, none⟩), .int .i64 ((x + k) % bs.length : Nat), .bool true] W fun e w' => e = .returned (.tuple #[]) ∧ Hid (∃ tv3, RefS w' r g cap (wrL bs x (zs.take (k + 1))) on tv3 (lgL on ts (tcs x (k + 1) bs.length true)) ∧ (∀ j, tv3.ownBlock = some j → tv.ownBlock = some j ∨ w.heap.size ≤ j) ∧ Kp (Foot r g tv) w w')) := fun W hW => by
        have k1 : Kp (fun j => j = g) wr (wr.setCell ⟨g, (x + k) % bs.length, none⟩ (.int .u8 (zs.getD k 0))) := Kp.setCell (S := fun j => j = g) _ _ _ rfl
        have k2 : Kp (fun j => j = g) wr W := k1.trans hW (fun _ _ h => h.elim)
        have hr2 : RefS W r g cap (wrL bs x (zs.take (k + 1))) on tv' (lgL on ts (tcs x k bs.length true)) := by
          refine ⟨?_, ?_, k2.own hR.log (fun j e h => hR.ng (h ▸ e)), hR.ne, hR.na, hR.ng, by rw [hL2]; exact HPW.out, hW2, hR.tl⟩
          · rw [k2.block r (hR.lt r (.inl rfl)) hR.ne, hL2, ← hL]; exact hR.obj
          · rw [hL2]; exact hW.own st (fun _ _ h => h)
        have := note_r r g cap ((x + k) % bs.length) true on _ tv' _ W hr2 (by omega)
        rw [htc] at this
        refine this.mono fun e w' ⟨he, hq⟩ => ⟨he, ?_⟩
        obtain ⟨tv3, p1, p2, p3⟩ := hq.out
        refine ⟨tv3, p1, fun j hj => ?_, (hK.trans k2 (fun j _ e => .inr (.inl e))).trans p2 (fun j hj hF => ?_)⟩
        · rcases p3 j hj with e | e
          · exact hT j e
          · exact .inr (by have := k2.size; omega)
        · rcases hF with e | e | e
          · exact .inl e
          · exact .inr (.inl e)
          · rcases hT j e with e | e
            · exact .inr (.inr e)
            · omega
      have hb2 : (((x + k) % bs.length : Nat) : Int) < (bs.length : Int) := by omega
      generalize zs.getD k 0 = y at *
      generalize (wrL bs x (zs.take k)).getD ((x + k) % bs.length) 0 = y0 at cb
      generalize (x + k) % bs.length = q at *
      have HNd := hidS (HNt.out ((wr.setCell ⟨g, q, none⟩ (.int .u8 y)).drew) ⟨rfl, rfl, rfl, Nat.le_refl _, fun _ _ _ => rfl⟩)
      clear hR hT hK st htc hrow hL hL2 hW2 hsc HNt
      go_wp2_with (first
        | (go_at_call 57; with_reducible refine HP.out.mono ?_; rintro e wq ⟨rfl, hq⟩; subst wq)
        | fail)
      go_region
      all_goals
        go_wp2_with (first
          | (go_at_call 58; with_reducible refine HNd.out.mono ?_; rintro e w3 ⟨rfl, HQ3⟩)
          | fail)
        go_roundw
        case rel =>
          obtain ⟨tv3, p1, p2, p3⟩ := HQ3.out
          exact ⟨k + 1, tv3, by omega, by go_num, p1, p2, p3⟩
        case measure => simp [intOf]; omega
    · obtain rfl : k = n := by omega
      have hltI : ¬ (k : Int) < (k : Int) := by omega
      rw [List.take_of_length_le (by have := HLN.out; omega)] at hR
      have HR := hidS hR
      have HT := hidS hT
      have HK := hidS hK
      clear hR hT hK
      go_wp2_with fail
      go_end0
      exact ⟨rfl, tv', HR.out, HT.out, HK.out⟩
end Go.Proofs.YtnjglagfpghbjaaDoor
namespace Go.Proofs.YtnjglagfpghbjaaDoor
open Go.RowKit Go.WideShapes
set_option maxRecDepth 100000

theorem touched_r (r g cap : Nat) (bs : List Int) (on : Bool) (tv : Value) (ts : List (Int × Bool)) (w : World) (h : RefS w r g cap bs on tv ts) :
    Calls Tryd.prog 12 #[.pointer (some ⟨r, 0, none⟩)] w fun e w' => e = .returned tv ∧ RefS w' r g cap bs on (.slice none 0 0) [] ∧ w'.ownsRow 0 56 2 tv ts.length (tvv ts) ∧ Kp (fun k => k = r) w w' := by
  have c2 : w.cell? ⟨r, 2, none⟩ = some tv := (obj_cell h.obj 2).trans rfl
  have f2 : w.frozen? ⟨r, 2, none⟩ = false := obj_frozen h.obj 2
  have HH := hidS h
  clear h
  go_enter Tryd.func12, Tryd.ntmps12
  go_wp2
  go_ret
  have hk : Kp (fun k => k = r) w (w.setCell ⟨r, 2, none⟩ (.slice none 0 0)) := Kp.setCell (S := fun k => k = r) _ _ _ rfl
  exact ⟨rfl, HH.out.of_obj (ts' := []) hk (fun e => HH.out.ne e.symm) (set_ref2 HH.out.obj) (World.ownsRow_nil _ _ _ _) (by simp [Value.ownBlock]) (by simp [Value.ownBlock]) (by simp), hk.own HH.out.log (fun k e h => HH.out.na (h ▸ e)), hk⟩
theorem setlog_r (r g cap : Nat) (bs : List Int) (lg on : Bool) (tv : Value) (ts : List (Int × Bool)) (w : World) (h : RefS w r g cap bs lg tv ts) :
    Calls Tryd.prog 9 #[.pointer (some ⟨r, 0, none⟩), .bool on] w fun e w' => e = .returned (.tuple #[]) ∧ RefS w' r g cap bs on (.slice none 0 0) [] ∧ Kp (fun k => k = r) w w' := by
  have c1 : w.cell? ⟨r, 1, none⟩ = some (.bool lg) := (obj_cell h.obj 1).trans rfl
  have c2 : w.cell? ⟨r, 2, none⟩ = some tv := (obj_cell h.obj 2).trans rfl
  have f1 : w.frozen? ⟨r, 1, none⟩ = false := obj_frozen h.obj 1
  have f2 : w.frozen? ⟨r, 2, none⟩ = false := obj_frozen h.obj 2
  have HH := hidS h
  clear h
  go_enter Tryd.func9, Tryd.ntmps9
  go_wp2
  go_end0
  have hk : Kp (fun k => k = r) w ((w.setCell ⟨r, 1, none⟩ (.bool on)).setCell ⟨r, 2, none⟩ (.slice none 0 0)) := (Kp.setCell (S := fun k => k = r) _ _ _ rfl).trans (Kp.setCell (S := fun k => k = r) _ _ _ rfl) (fun _ _ h => h)
  exact ⟨rfl, HH.out.of_obj (ts' := []) hk (fun e => HH.out.ne e.symm) (set_ref2 (set_ref1 HH.out.obj)) (World.ownsRow_nil _ _ _ _) (by simp [Value.ownBlock]) (by simp [Value.ownBlock]) (by simp), hk⟩
theorem read_r (r g cap x n : Nat) (on : Bool) (bs : List Int) (tv : Value) (ts : List (Int × Bool)) (w : World) (h : RefS w r g cap bs on tv ts) (hx : x < 4294967296) (hn : n ≤ 4096) :
    Calls Tryd.prog 45 #[.pointer (some ⟨r, 0, none⟩), .int .u32 x, .int .i64 n] w fun e w' => ∃ v tv', e = .returned (.tuple #[v, .int .i64 0]) ∧ Hid (w'.ownsRow w.heap.size 5 1 v n (bv (rdL bs x n)) ∧ RefS w' r g cap bs on tv' (lgL on ts (tcs x n bs.length false)) ∧ (∀ j, tv'.ownBlock = some j → tv.ownBlock = some j ∨ w.heap.size ≤ j) ∧ Kp (Foot r g tv) w w' ∧ (∀ j, v.ownBlock = some j → tv'.ownBlock ≠ some j)) := by
  have HG : Hid (Calls Tryd.prog 62 #[.pointer (some ⟨r, 0, none⟩), .int .u32 x, .int .i64 n] w fun e w' => ∃ v tv', e = .returned v ∧ Hid (w'.ownsRow w.heap.size 5 1 v n (bv (rdL bs x n)) ∧ RefS w' r g cap bs on tv' (lgL on ts (tcs x n bs.length false)) ∧ (∀ j, tv'.ownBlock = some j → tv.ownBlock = some j ∨ w.heap.size ≤ j) ∧ Kp (Foot r g tv) w w' ∧ (∀ j, v.ownBlock = some j → tv'.ownBlock ≠ some j))) := (get_r r g cap x n on bs tv ts w h hx hn).mono fun e w' ⟨v, tv', he, hq⟩ => ⟨v, tv', he, hq⟩
  have hI0 : ¬ (n : Int) < 0 := by omega
  have hI : ¬ (4096 : Int) < (n : Int) := by omega
  clear h
  go_enter Tryd.func45, Tryd.ntmps45
  go_wp2_with (first
    | (go_at_call 62; with_reducible refine HG.out.mono ?_; rintro e w1 ⟨v, tv', rfl, HQ⟩)
    | fail)
  go_ret2
  exact ⟨_, tv', rfl, HQ⟩
theorem read_rbad (r : Nat) (x : Value) (n : Int) (w : World) (hn : n < 0 ∨ 4096 < n) :
    Calls Tryd.prog 45 #[.pointer (some ⟨r, 0, none⟩), x, .int .i64 n] w fun e w' => e = .returned (.tuple #[.slice none 0 0, .int .i64 92]) ∧ w' = w := by
  rcases hn with hn | hn
  · go_enter Tryd.func45, Tryd.ntmps45
    go_wp2
    go_ret2
    exact ⟨rfl, rfl⟩
  · have h0 : ¬ n < 0 := by omega
    go_enter Tryd.func45, Tryd.ntmps45
    go_wp2
    go_ret2
    exact ⟨rfl, rfl⟩
theorem write_r (r g cap x c sb so : Nat) (bo : Option Addr) (on : Bool) (bs zs : List Int) (tv : Value) (ts : List (Int × Bool)) (w : World) (h : RefS w r g cap bs on tv ts) (hx : x < 4294967296) (hn : zs.length ≤ 4096) (hwf : ∀ z ∈ zs, 0 ≤ z ∧ z ≤ 255) (hsrc : Src w bo sb so zs) (nd : ¬ Foot r g tv sb) :
    Calls Tryd.prog 48 #[.pointer (some ⟨r, 0, none⟩), .int .u32 x, .slice bo zs.length c] w fun e w' => e = .returned (.int .i64 0) ∧
      Hid (∃ tv', RefS w' r g cap (wrL bs x zs) on tv' (lgL on ts (tcs x zs.length bs.length true)) ∧ (∀ j, tv'.ownBlock = some j → tv.ownBlock = some j ∨ w.heap.size ≤ j) ∧ Kp (Foot r g tv) w w') := by
  have HG : Hid (Calls Tryd.prog 26 #[.pointer (some ⟨r, 0, none⟩), .int .u32 x, .slice bo zs.length c] w fun e w' => e = .returned (.tuple #[]) ∧ Hid (∃ tv', RefS w' r g cap (wrL bs x zs) on tv' (lgL on ts (tcs x zs.length bs.length true)) ∧ (∀ j, tv'.ownBlock = some j → tv.ownBlock = some j ∨ w.heap.size ≤ j) ∧ Kp (Foot r g tv) w w')) := (put_r r g cap x zs.length c sb so bo on bs zs tv ts w h hx rfl hn hwf hsrc nd).mono fun e w' hq => hq
  have hI : ¬ (4096 : Int) < (zs.length : Int) := by omega
  clear h hwf hsrc nd
  go_enter Tryd.func48, Tryd.ntmps48
  go_wp2_with (first
    | (go_at_call 26; with_reducible refine HG.out.mono ?_; rintro e w1 ⟨rfl, HQ⟩)
    | fail)
  go_ret
  exact ⟨rfl, HQ⟩
theorem write_rbad (r n c : Nat) (x : Value) (bo : Option Addr) (w : World) (hn : 4096 < n) :
    Calls Tryd.prog 48 #[.pointer (some ⟨r, 0, none⟩), x, .slice bo n c] w fun e w' => e = .returned (.int .i64 92) ∧ w' = w := by
  have hI : (4096 : Int) < (n : Int) := by omega
  go_enter Tryd.func48, Tryd.ntmps48
  go_wp2
  go_ret
  exact ⟨rfl, rfl⟩
theorem copy_rbad (r n : Nat) (to fr : Value) (w : World) (hn : 4096 < n) :
    Calls Tryd.prog 43 #[.pointer (some ⟨r, 0, none⟩), to, fr, .int .u32 n] w fun e w' => e = .returned (.int .i64 92) ∧ w' = w := by
  have hI : (4096 : Int) < (n : Int) := by omega
  go_enter Tryd.func43, Tryd.ntmps43
  go_wp2
  go_ret
  exact ⟨rfl, rfl⟩
set_option maxHeartbeats 1000000 in
theorem copy_r (r g cap to fr n : Nat) (on : Bool) (bs : List Int) (tv : Value) (ts : List (Int × Bool)) (w : World) (h : RefS w r g cap bs on tv ts) (ht : to < 4294967296) (hf : fr < 4294967296) (hn : n ≤ 4096) :
    Calls Tryd.prog 43 #[.pointer (some ⟨r, 0, none⟩), .int .u32 to, .int .u32 fr, .int .u32 n] w fun e w' => e = .returned (.int .i64 0) ∧
      Hid (∃ tv', RefS w' r g cap (wrL bs to (rdL bs fr n)) on tv' (lgL on (lgL on ts (tcs fr n bs.length false)) (tcs to n bs.length true)) ∧ (∀ j, tv'.ownBlock = some j → tv.ownBlock = some j ∨ w.heap.size ≤ j) ∧ Kp (Foot r g tv) w w') := by
  have HG : Hid (Calls Tryd.prog 62 #[.pointer (some ⟨r, 0, none⟩), .int .u32 fr, .int .i64 n] w fun e w1 => ∃ bo c, e = .returned (.slice bo n c) ∧ Hid (Calls Tryd.prog 26 #[.pointer (some ⟨r, 0, none⟩), .int .u32 to, .slice bo n c] w1 fun e w' => e = .returned (.tuple #[]) ∧ Hid (∃ tv', RefS w' r g cap (wrL bs to (rdL bs fr n)) on tv' (lgL on (lgL on ts (tcs fr n bs.length false)) (tcs to n bs.length true)) ∧ (∀ j, tv'.ownBlock = some j → tv.ownBlock = some j ∨ w.heap.size ≤ j) ∧ Kp (Foot r g tv) w w'))) :=
    (get_r r g cap fr n on bs tv ts w h hf hn).mono fun e w1 ⟨v, tv1, he, q1, q2, q3, q4, q5⟩ => by
      obtain ⟨bo, c, rfl⟩ := own_slice q1
      refine ⟨bo, c, he, ?_⟩
      have hlen : (rdL bs fr n).length = n := rdL_len _ _ _
      have fin : ∀ sb so, Src w1 bo sb so (rdL bs fr n) → ¬ Foot r g tv1 sb → Hid (Calls Tryd.prog 26 #[.pointer (some ⟨r, 0, none⟩), .int .u32 to, .slice bo n c] w1 fun e w' => e = .returned (.tuple #[]) ∧ Hid (∃ tv', RefS w' r g cap (wrL bs to (rdL bs fr n)) on tv' (lgL on (lgL on ts (tcs fr n bs.length false)) (tcs to n bs.length true)) ∧ (∀ j, tv'.ownBlock = some j → tv.ownBlock = some j ∨ w.heap.size ≤ j) ∧ Kp (Foot r g tv) w w')) := fun sb so hs hnf =>
        (put_r r g cap to n c sb so bo on bs (rdL bs fr n) tv1 _ w1 q2 ht hlen hn (rdL_wf _ _ _ h.wf (by have := h.pw.bd; omega)) hs hnf).mono fun e w' ⟨he, tv2, p1, p2, p3⟩ => ⟨he, tv2, p1, fun j hj => (p2 j hj).elim (q3 j) (fun h => .inr (by have := q4.size; omega)), q4.trans p3 (fun j hj hF => by
          rcases hF with e | e | e
          · exact .inl e
          · exact .inr (.inl e)
          · rcases q3 j e with e | e
            · exact .inr (.inr e)
            · omega)⟩
      by_cases h0 : 0 < n
      · obtain ⟨gb, cb, e2, _⟩ := own_form q1 h0
        simp only [Value.slice.injEq, true_and] at e2
        obtain ⟨rfl, rfl⟩ := e2
        refine fin gb 0 (fun _ => ⟨rfl, (q1.lt gb rfl).2, fun i hi => by rw [Nat.zero_add]; exact own_get q1 hi⟩) ?_
        have hb := (q1.lt gb rfl).1
        rintro (e | e | e)
        · have := h.lt r (.inl rfl); omega
        · have := h.lt g (.inr (.inl rfl)); omega
        · exact q5 gb rfl e
      · refine fin w1.heap.size 0 (fun hp => by omega) (fun hF => by have := q2.lt _ hF; omega)
  have hI : ¬ (4096 : Int) < (n : Int) := by omega
  clear h
  go_enter Tryd.func43, Tryd.ntmps43
  go_wp2_with (first
    | (go_at_call 62; with_reducible refine HG.out.mono ?_; rintro e w1 ⟨bo, c, rfl, HP⟩)
    | (go_at_call 26; with_reducible refine HP.out.mono ?_; rintro e w2 ⟨rfl, HQ⟩)
    | fail)
  go_ret
  exact ⟨rfl, HQ⟩
end Go.Proofs.YtnjglagfpghbjaaDoor
namespace Go.Proofs.YtnjglagfpghbjaaDoor
open Go.RowKit Go.WideShapes
set_option maxRecDepth 100000

theorem take_sn (zs : List Int) (k : Nat) (h : k < zs.length) : zs.take (k + 1) = zs.take k ++ [zs.getD k 0] := by
  rw [List.take_add_one, List.getElem?_eq_getElem h]
  simp [List.getD, List.getElem?_eq_getElem h]
set_option maxHeartbeats 1000000 in
theorem copied_r (ao : Option Addr) (cap : Nat) (zs : List Int) (w : World) (hn : zs.length ≤ 65536) (hr : Reads w ao zs w.heap.size) :
    Calls Tryd.prog 54 #[.slice ao zs.length cap] w fun e w' => ∃ v, e = .returned v ∧ w'.ownsRow w.heap.size 5 1 v zs.length (bv zs) ∧ Below w.heap.size w w' := by
  obtain ⟨i0, hi, hz0, hz1, hz2⟩ := info_parts Tryd.info5
  have HRD := hidS hr
  clear hr
  go_enter Tryd.func54, Tryd.ntmps54
  go_wp2_with fail
  go_loopw [3, 4] (fun v i wr => ∃ (k : Nat), k ≤ zs.length ∧ i = .int .i64 k ∧ wr.ownsRow w.heap.size 5 1 v k (bv (zs.take k)) ∧ Below w.heap.size w wr)
    (fun _ i _ => zs.length - (intOf i).toNat)
  case atStart => exact ⟨0, Nat.zero_le _, rfl, World.ownsRow_nil _ _ _ _, Below.refl _ _⟩
  case round =>
    obtain ⟨k, hk, rfl, hown, hbw⟩ := hrel
    by_cases hlt : k < zs.length
    · have hltI : (k : Int) < (zs.length : Int) := by omega
      have hB := hbw.size
      have HBW := hidS hbw
      obtain ⟨b, off, rfl, _, hc⟩ := (HRD.out.below hbw) (by omega)
      have hck := hc k hlt
      have hts := take_sn zs k hlt
      generalize zs.getD k 0 = y at *
      have HTS := hidS hts
      clear hc hts hbw
      go_wp2_with (at_builtin; refine wpList_append_own _ rfl _ _ 32 rfl w.heap.size 5 i0 (.int .u8 0) 1 1 Tryd.underlying32 hi hz0 hz1 hz2 rfl (by decide) _ _ _ rfl (hown.alloc _) ⟨wr.heap.size, 0, none⟩ 1 1 [.int .u8 y] rfl rfl ?d1 ?d2 ?d3 ?d4 ?d5 ?_)
      case d1 =>
        intro j u hj
        match j, hj with
        | 0, hj => simp at hj; subst hj; simp [Addr.add]
      case d2 => intro u hu; simp at hu; subst hu; rfl
      case d3 => first | (unfold maxLen; omega) | omega
      case d4 => omega
      case d5 => first | omega | (simp; omega)
      intro v' w1 hown' hgrow _
      have R1 := own_snoc (M := zs.take (k + 1)) HTS.out hown'
      have R2 := grown_below HBW.out hB hown hgrow
      clear hown' hgrow hown
      go_wp2
      go_roundw
      case rel => exact ⟨k + 1, by omega, by go_num, R1, R2⟩
      case measure => simp [intOf]; omega
    · obtain rfl : k = zs.length := by omega
      have hltI : ¬ (zs.length : Int) < (zs.length : Int) := by omega
      rw [List.take_length] at hown
      have HO := hidS hown
      have HB := hidS hbw
      clear hown hbw
      go_wp2_with fail
      go_ret
      exact ⟨_, rfl, HO.out, HB.out⟩
theorem copied_n (g cap : Nat) (bs : List Int) (w : World) (h : w.ownsRow 0 5 1 (.slice (some ⟨g, 0, none⟩) bs.length cap) bs.length (bv bs)) (hp : Pw bs.length) :
    Calls Tryd.prog 54 #[.slice (some ⟨g, 0, none⟩) bs.length cap] w fun e w' => ∃ g2 c2, e = .returned (.slice (some ⟨g2, 0, none⟩) bs.length c2) ∧ Hid (w'.ownsRow w.heap.size 5 1 (.slice (some ⟨g2, 0, none⟩) bs.length c2) bs.length (bv bs) ∧ Below w.heap.size w w') :=
  (copied_r (some ⟨g, 0, none⟩) cap bs w hp.bd.2 (reads_own h (by simp))).mono fun e w' ⟨v, he, ho, hb⟩ => by
    obtain ⟨g2, c2, rfl, _⟩ := own_form ho (by have := hp.bd; omega)
    exact ⟨g2, c2, he, ho, hb⟩
theorem all_r (r g cap : Nat) (bs : List Int) (on : Bool) (tv : Value) (ts : List (Int × Bool)) (w : World) (h : RefS w r g cap bs on tv ts) :
    Calls Tryd.prog 21 #[.pointer (some ⟨r, 0, none⟩)] w fun e w' => ∃ g2 c2, e = .returned (.slice (some ⟨g2, 0, none⟩) bs.length c2) ∧ Hid (w'.ownsRow w.heap.size 5 1 (.slice (some ⟨g2, 0, none⟩) bs.length c2) bs.length (bv bs) ∧ Below w.heap.size w w') := by
  have c0 : w.cell? ⟨r, 0, none⟩ = some (.slice (some ⟨g, 0, none⟩) bs.length cap) := (obj_cell h.obj 0).trans rfl
  have hC := copied_n g cap bs w h.row h.pw
  clear h
  go_enter Tryd.func21, Tryd.ntmps21
  go_wp2_with (first
    | (go_at_call 54; with_reducible refine hC.mono ?_; rintro e w1 ⟨g2, c2, rfl, HQ⟩)
    | fail)
  go_ret
  exact ⟨g2, c2, rfl, HQ⟩
theorem clone_r (r g cap : Nat) (bs : List Int) (on : Bool) (tv : Value) (ts : List (Int × Bool)) (w : World) (h : RefS w r g cap bs on tv ts) :
    Calls Tryd.prog 35 #[.pointer (some ⟨r, 0, none⟩)] w fun e w' => ∃ o g2 c2, e = .returned (.pointer (some ⟨o, 0, none⟩)) ∧ RefS w' o g2 c2 bs false (.slice none 0 0) [] ∧ w.heap.size ≤ o ∧ w.heap.size ≤ g2 ∧ Below w.heap.size w w' := by
  have c0 : w.cell? ⟨r, 0, none⟩ = some (.slice (some ⟨g, 0, none⟩) bs.length cap) := (obj_cell h.obj 0).trans rfl
  have hC := copied_n g cap bs w h.row h.pw
  have HPW := hidS h.pw
  have HWF := hidS h.wf
  clear h
  go_enter Tryd.func35, Tryd.ntmps35
  go_wp2_with (first
    | (go_at_call 54; with_reducible refine hC.mono ?_; rintro e w1 ⟨g2, c2, rfl, HQ⟩)
    | fail)
  go_ret
  obtain ⟨q1, q2⟩ := HQ.out
  have hg := q1.lt g2 rfl
  have hb : Below w1.heap.size w1 (w1.alloc (.cells #[.slice (some ⟨g2, 0, none⟩) bs.length c2, .bool false, .slice none 0 0] 54)) := (Below.refl _ _).alloc (Nat.le_refl _) _
  exact ⟨w1.heap.size, g2, c2, rfl, ⟨heap_alloc_new w1 _, (Kp.ofBelow (S := fun _ => False) hb).own (own_base q1 (Nat.zero_le _)) (fun _ _ h => h), World.ownsRow_nil _ _ _ _, by omega, by simp [Value.ownBlock], by simp [Value.ownBlock], HPW.out, HWF.out, by simp⟩, q2.size, hg.1, q2.trans (hb.mono q2.size)⟩
end Go.Proofs.YtnjglagfpghbjaaDoor
namespace Go.Proofs.YtnjglagfpghbjaaDoor
open Go.RowKit Go.WideShapes
set_option maxRecDepth 100000

/-- the number of bytes, the last one first -/
def hsum (L : List Int) : Int := L.foldr (fun z acc => acc * 256 + z) 0
theorem hsum_n4 (L : List Int) (h : L.length ≤ 4) : hsum L = n4 L := by
  match L, h with
  | [], _ => rfl
  | [a], _ => simp [hsum, n4]
  | [a, b], _ => simp [hsum, n4]; omega
  | [a, b, c], _ => simp [hsum, n4]; omega
  | [a, b, c, d], _ => simp [hsum, n4]; omega
theorem hsum_bd' (L : List Int) (hw : ∀ z ∈ L, 0 ≤ z ∧ z ≤ 255) : 0 ≤ hsum L ∧ hsum L < 256 ^ L.length := by
  induction L with
  | nil => simp [hsum]
  | cons a L ih =>
    obtain ⟨h1, h2⟩ := ih (fun z hz => hw z (by simp [hz]))
    have ha := hw a (by simp)
    have e : hsum (a :: L) = hsum L * 256 + a := rfl
    rw [e, List.length_cons, Int.pow_succ]
    omega
theorem hsum_drop (L : List Int) (k : Nat) (h : k < L.length) : hsum (L.drop k) = hsum (L.drop (k + 1)) * 256 + L.getD k 0 := by
  have e : L.drop k = L[k] :: L.drop (k + 1) := List.drop_eq_getElem_cons h
  rw [e]
  show hsum (L.drop (k + 1)) * 256 + L[k] = _
  simp [List.getD, List.getElem?_eq_getElem h]
theorem hsum_lt (L : List Int) (k : Nat) (hl : L.length ≤ 4) (hw : ∀ z ∈ L, 0 ≤ z ∧ z ≤ 255) : 0 ≤ hsum (L.drop k) ∧ hsum (L.drop k) < 4294967296 := by
  obtain ⟨h1, h2⟩ := hsum_bd' (L.drop k) (fun z hz => hw z (List.mem_of_mem_drop hz))
  refine ⟨h1, Int.lt_of_lt_of_le h2 ?_⟩
  have : (L.drop k).length ≤ 4 := by rw [List.length_drop]; omega
  match (L.drop k).length, this with
  | 0, _ => exact (by decide)
  | 1, _ => exact (by decide)
  | 2, _ => exact (by decide)
  | 3, _ => exact (by decide)
  | 4, _ => exact (by decide)
set_option maxHeartbeats 1000000 in
theorem load_r (r g cap x n : Nat) (on : Bool) (bs : List Int) (tv : Value) (ts : List (Int × Bool)) (w : World) (h : RefS w r g cap bs on tv ts) (hx : x < 4294967296) (hn : n ≤ 4) (hn0 : 0 < n) :
    Calls Tryd.prog 37 #[.pointer (some ⟨r, 0, none⟩), .int .u32 x, .int .i64 n] w fun e w' => e = .returned (.int .u32 (n4 (rdL bs x n))) ∧
      Hid (∃ tv', RefS w' r g cap bs on tv' (lgL on ts (tcs x n bs.length false)) ∧ (∀ j, tv'.ownBlock = some j → tv.ownBlock = some j ∨ w.heap.size ≤ j) ∧ Kp (Foot r g tv) w w') := by
  have HG : Hid (Calls Tryd.prog 62 #[.pointer (some ⟨r, 0, none⟩), .int .u32 x, .int .i64 n] w fun e w' => ∃ gb c, e = .returned (.slice (some ⟨gb, 0, none⟩) n c) ∧ Hid (∃ tv', w'.ownsRow w.heap.size 5 1 (.slice (some ⟨gb, 0, none⟩) n c) n (bv (rdL bs x n)) ∧ RefS w' r g cap bs on tv' (lgL on ts (tcs x n bs.length false)) ∧ (∀ j, tv'.ownBlock = some j → tv.ownBlock = some j ∨ w.heap.size ≤ j) ∧ Kp (Foot r g tv) w w')) := (get_r r g cap x n on bs tv ts w h hx (by omega)).mono fun e w' ⟨v, tv', he, q1, q2, q3, q4, _⟩ => by
    obtain ⟨gb, c, rfl, _⟩ := own_form q1 hn0
    exact ⟨gb, c, he, tv', q1, q2, q3, q4⟩
  have hwf := rdL_wf bs x n h.wf (by have := h.pw.bd; omega)
  have hlen := rdL_len bs x n
  have HE := hidS (hsum_n4 (rdL bs x n) (by omega))
  have HWF := hidS hwf
  have HLB := hidS (fun k => hsum_lt (rdL bs x n) k (by omega) HWF.out)
  have HDR := hidS (fun k h => hsum_drop (rdL bs x n) k h)
  rw [← HE.out]
  clear h hwf HE
  generalize rdL bs x n = M at *
  go_enter Tryd.func37, Tryd.ntmps37
  go_wp2_with (first
    | (go_at_call 62; with_reducible refine HG.out.mono ?_; rintro e w1 ⟨gb, c, rfl, HQ⟩)
    | fail)
  obtain ⟨tv1, q1, q2, q3, q4⟩ := HQ.out
  have HQ2 : Hid (∃ tv', RefS w1 r g cap bs on tv' (lgL on ts (tcs x n bs.length false)) ∧ (∀ j, tv'.ownBlock = some j → tv.ownBlock = some j ∨ w.heap.size ≤ j) ∧ Kp (Foot r g tv) w w1) := ⟨tv1, q2, q3, q4⟩
  have HOW := hidS q1
  clear q1 q2 q3 q4 HQ HG
  go_loopw [8, 9] (fun v i wr => ∃ (k : Nat), k ≤ n ∧ i = .int .i64 ((k : Int) - 1) ∧ v = .int .u32 (hsum (M.drop k)) ∧ wr = w1)
    (fun _ i _ => (intOf i + 1).toNat)
  case atStart => exact ⟨n, Nat.le_refl _, rfl, by rw [List.drop_of_length_le (by omega)]; rfl, rfl⟩
  case round =>
    obtain ⟨k, hk, rfl, rfl, rfl⟩ := hrel
    by_cases hk0 : k = 0
    · subst hk0
      have hI : ¬ (0 : Int) ≤ ((0 : Nat) : Int) - 1 := by decide
      rw [List.drop_zero]
      go_wp2_with fail
      go_ret
      exact ⟨rfl, HQ2⟩
    · obtain ⟨j, rfl⟩ : ∃ j, k = j + 1 := ⟨k - 1, by omega⟩
      have e1 : (((j + 1 : Nat) : Int)) - 1 = (j : Int) := by omega
      rw [e1]
      have hjn : j < n := by omega
      have hjI : (j : Int) < (n : Int) := by omega
      have hj0 : (0 : Int) ≤ (j : Int) := by omega
      have cb := own_get HOW.out (i := j) (by omega)
      have hd := HDR.out j (by omega)
      obtain ⟨b1, b2⟩ := HLB.out j
      obtain ⟨b3, b4⟩ := HLB.out (j + 1)
      have hy := HWF.out (M.getD j 0) (getD_mem (by omega))
      rw [hd] at b1 b2
      generalize hsum (M.drop (j + 1)) = X at *
      generalize M.getD j 0 = y at *
      have m1 : X * 256 % 4294967296 = X * 256 := by omega
      have m2 : (X * 256 + y) % 4294967296 = X * 256 + y := by omega
      go_wp2_with fail
      go_roundw
      case rel => refine ⟨j, by omega, ?_⟩; first | exact ⟨by go_num, by rw [hd], trivial⟩ | exact ⟨rfl, by rw [hd], trivial⟩ | (refine ⟨?_, ?_⟩ <;> simp [hd]) | (simp [hd])
      case measure => first | (simp [intOf]; done) | (simp [intOf]; omega)
end Go.Proofs.YtnjglagfpghbjaaDoor
namespace Go.Proofs.YtnjglagfpghbjaaDoor
open Go.RowKit Go.WideShapes
set_option maxRecDepth 100000

/-- a word without its lowest k bytes -/
def vd (V : Int) : Nat → Int
  | 0 => V
  | k + 1 => vd V k / 256
theorem vd_bd (V : Int) (h0 : 0 ≤ V) (h1 : V < 4294967296) : ∀ k, 0 ≤ vd V k ∧ vd V k < 4294967296
  | 0 => ⟨h0, h1⟩
  | k + 1 => by have := vd_bd V h0 h1 k; simp only [vd]; omega
theorem by4_take (V : Int) (h0 : 0 ≤ V) (h1 : V < 4294967296) (k : Nat) (h : k < 4) : (by4 V).take (k + 1) = (by4 V).take k ++ [vd V k % 256] := by
  match k, h with
  | 0, _ => rfl
  | 1, _ => rfl
  | 2, _ => show [_, _, _] = [_, _, _]; simp only [vd]; congr 3; omega
  | 3, _ => show [_, _, _, _] = [_, _, _, _]; simp only [vd]; congr 3 <;> (try congr 1) <;> omega
set_option maxHeartbeats 1000000 in
theorem store_r (r g cap x n : Nat) (V : Int) (on : Bool) (bs : List Int) (tv : Value) (ts : List (Int × Bool)) (w : World) (h : RefS w r g cap bs on tv ts) (hx : x < 4294967296) (hn : n ≤ 4) (h0 : 0 < n) (hV : 0 ≤ V ∧ V < 4294967296) :
    Calls Tryd.prog 14 #[.pointer (some ⟨r, 0, none⟩), .int .u32 x, .int .u32 V, .int .i64 n] w fun e w' => e = .returned (.tuple #[]) ∧
      Hid (∃ tv', RefS w' r g cap (wrL bs x ((by4 V).take n)) on tv' (lgL on ts (tcs x n bs.length true)) ∧ (∀ j, tv'.ownBlock = some j → tv.ownBlock = some j ∨ w.heap.size ≤ j) ∧ Kp (Foot r g tv) w w') := by
  obtain ⟨i0, hi, hz0, hz1, hz2⟩ := info_parts Tryd.info5
  have hl4 : ((by4 V).take n).length = n := by rw [List.length_take]; show min n 4 = n; omega
  have HPt : Hid (∀ gb c W, W.ownsRow w.heap.size 5 1 (.slice (some ⟨gb, 0, none⟩) n c) n (bv ((by4 V).take n)) → Below w.heap.size w W → Calls Tryd.prog 26 #[.pointer (some ⟨r, 0, none⟩), .int .u32 x, .slice (some ⟨gb, 0, none⟩) n c] W fun e w' => e = .returned (.tuple #[]) ∧ Hid (∃ tv', RefS w' r g cap (wrL bs x ((by4 V).take n)) on tv' (lgL on ts (tcs x n bs.length true)) ∧ (∀ j, tv'.ownBlock = some j → tv.ownBlock = some j ∨ w.heap.size ≤ j) ∧ Kp (Foot r g tv) w w')) := fun gb c W q1 q2 => by
    have hb := q1.lt gb rfl
    refine (put_r r g cap x n c gb 0 (some ⟨gb, 0, none⟩) on bs ((by4 V).take n) tv ts W (h.kept (S := fun _ => False) (Kp.ofBelow q2) (fun _ _ h => h)) hx hl4 (by omega) (fun z hz => by4_wf V hV.1 hV.2 z (List.mem_of_mem_take hz)) (fun _ => ⟨rfl, hb.2, fun i hi => by rw [Nat.zero_add]; exact own_get q1 hi⟩) (fun hF => by have := h.lt gb hF; omega)).mono fun e w' ⟨he, tv', p1, p2, p3⟩ => ⟨he, tv', p1, fun j hj => (p2 j hj).imp id (fun h => by have := q2.size; omega), (Kp.ofBelow q2).trans p3 (fun _ _ h => h)⟩
  have HBD := hidS (vd_bd V hV.1 hV.2)
  have HTK := hidS (by4_take V hV.1 hV.2)
  clear h hV
  go_enter Tryd.func14, Tryd.ntmps14
  go_wp2_with fail
  go_loopw [2, 8, 9] (fun vv v i wr => ∃ (k : Nat), k ≤ n ∧ i = .int .i64 k ∧ vv = .int .u32 (vd V k) ∧ wr.ownsRow w.heap.size 5 1 v k (bv ((by4 V).take k)) ∧ Below w.heap.size w wr)
    (fun _ _ i _ => n - (intOf i).toNat)
  case atStart => exact ⟨0, Nat.zero_le _, rfl, rfl, World.ownsRow_nil _ _ _ _, Below.refl _ _⟩
  case round =>
    obtain ⟨k, hk, rfl, rfl, hown, hbw⟩ := hrel
    by_cases hlt : k < n
    · have hltI : (k : Int) < (n : Int) := by omega
      have hB := hbw.size
      have HBW := hidS hbw
      have HTS := hidS (HTK.out k (by omega))
      obtain ⟨b1, b2⟩ := HBD.out k
      have hvs : vd V (k + 1) = vd V k / 256 := rfl
      have HVS := hidS hvs
      clear hbw hvs
      generalize vd V k = y at *
      have m1 : y % 256 % 256 = y % 256 := by omega
      obtain ⟨cc, hcc⟩ : ∃ cc : Int, y % 256 = cc := ⟨_, rfl⟩
      rw [hcc] at HTS
      have hc1 : 0 ≤ cc ∧ cc ≤ 255 := by omega
      go_wp2_with (at_builtin; refine wpList_append_own _ rfl _ _ 32 rfl w.heap.size 5 i0 (.int .u8 0) 1 1 Tryd.underlying32 hi hz0 hz1 hz2 rfl (by decide) _ _ _ rfl (hown.alloc _) ⟨wr.heap.size, 0, none⟩ 1 1 [.int .u8 cc] rfl rfl ?d1 ?d2 ?d3 ?d4 ?d5 ?_)
      case d1 =>
        intro j u hj
        match j, hj with
        | 0, hj => simp at hj; subst hj; simp [Addr.add]
      case d2 => intro u hu; simp at hu; subst hu; rfl
      case d3 => first | (unfold maxLen; omega) | omega
      case d4 => omega
      case d5 => first | omega | (simp; omega)
      intro v' w1 hown' hgrow _
      have R1 := own_snoc (M := (by4 V).take (k + 1)) HTS.out hown'
      have R2 := grown_below HBW.out hB hown hgrow
      clear hown' hgrow hown
      go_wp2
      go_roundw
      case rel => exact ⟨k + 1, by omega, by go_num, by rw [HVS.out], R1, R2⟩
      case measure => simp [intOf]; omega
    · obtain rfl : k = n := by omega
      have hltI : ¬ (k : Int) < (k : Int) := by omega
      obtain ⟨gb, c, rfl, _⟩ := own_form hown h0
      have HP := hidS (HPt.out gb c wr hown hbw)
      clear hown hbw
      go_wp2_with (first
        | (go_at_call 26; with_reducible refine HP.out.mono ?_; rintro e w2 ⟨rfl, HQ⟩)
        | fail)
      go_end0
      exact ⟨rfl, HQ⟩
end Go.Proofs.YtnjglagfpghbjaaDoor
namespace Go.Proofs.YtnjglagfpghbjaaDoor
open Go.RowKit Go.WideShapes
set_option maxRecDepth 100000

set_option maxHeartbeats 2000000 in
theorem same_r (r g cap o g' cap' : Nat) (bs cs : List Int) (on on' : Bool) (tv tv' : Value) (ts ts' : List (Int × Bool)) (w : World) (h : RefS w r g cap bs on tv ts) (h2 : RefS w o g' cap' cs on' tv' ts') :
    Calls Tryd.prog 50 #[.pointer (some ⟨r, 0, none⟩), .pointer (some ⟨o, 0, none⟩)] w fun e w' => e = .returned (.bool (decide (bs = cs))) ∧ ∃ n, w' = w.drewN n := by
  have c0 : w.cell? ⟨r, 0, none⟩ = some (.slice (some ⟨g, 0, none⟩) bs.length cap) := (obj_cell h.obj 0).trans rfl
  have d0 : w.cell? ⟨o, 0, none⟩ = some (.slice (some ⟨g', 0, none⟩) cs.length cap') := (obj_cell h2.obj 0).trans rfl
  have hb := h.pw.bd
  have HR := hidS h.row
  have HR2 := hidS h2.row
  clear h h2
  by_cases hl : bs.length = cs.length
  · have hlI : (bs.length : Int) = (cs.length : Int) := by omega
    have HC0 := hidS c0
    have HD0 := hidS d0
    go_enter Tryd.func50, Tryd.ntmps50
    go_wp2_with fail
    go_quiet (fail)
    go_wp2_with fail
    clear c0 d0
    go_loopw [5] (fun i wr => ∃ k m : Nat, k ≤ bs.length ∧ i = .int .i64 k ∧ wr = w.drewN m ∧ bs.take k = cs.take k)
      (fun i _ => bs.length - (intOf i).toNat)
    case atStart => exact ⟨0, _, Nat.zero_le _, rfl, rfl, rfl⟩
    case round =>
      obtain ⟨k, m, hk, rfl, hw2, hpre⟩ := hrel
      have HP : Hid (bs.take k = cs.take k) := hpre
      clear hpre
      have c0 : wr.cell? ⟨r, 0, none⟩ = some (.slice (some ⟨g, 0, none⟩) bs.length cap) := by rw [hw2]; exact HC0.out
      have d0 : wr.cell? ⟨o, 0, none⟩ = some (.slice (some ⟨g', 0, none⟩) cs.length cap') := by rw [hw2]; exact HD0.out
      by_cases hlt : k < bs.length
      · have hck : wr.cell? ⟨g', k, none⟩ = some (.int .u8 (cs.getD k 0)) := by rw [hw2]; exact own_get HR2.out (by omega)
        have hck2 : wr.cell? ⟨g, k, none⟩ = some (.int .u8 (bs.getD k 0)) := by rw [hw2]; exact own_get HR.out hlt
        have HW2 : Hid (wr = w.drewN m) := hw2
        clear hw2
        have hlt' : (k : Int) < (bs.length : Int) := by omega
        have hlt'' : (k : Int) < (cs.length : Int) := by omega
        have HT1 : Hid (bs.take (k + 1) = bs.take k ++ [bs.getD k 0]) := take_sn bs k hlt
        have HT2 : Hid (cs.take (k + 1) = cs.take k ++ [cs.getD k 0]) := take_sn cs k (by omega)
        by_cases hcc : bs.getD k 0 = cs.getD k 0
        · rw [hcc] at hck2 HT1
          generalize cs.getD k 0 = c at hck hck2 HT1 HT2
          clear hcc
          go_wp2_with fail
          go_quiet (fail)
          go_wp2_with fail
          go_roundw
          case rel => exact ⟨k + 1, _, by omega, by go_num, by rw [HW2.out, World.drewN_drewN], by rw [HT1.out, HT2.out, HP.out]⟩
          case measure => simp [intOf]; omega
        · have HN : Hid (decide (bs = cs) = false) := decide_eq_false (take_ne hcc)
          generalize cs.getD k 0 = c at hck hcc
          generalize bs.getD k 0 = c2 at hck2 hcc
          clear HT1 HT2 HP
          have hbe : (c2 != c) = true := by simpa using hcc
          go_wp2_with fail
          go_quiet (fail)
          go_wp2_with fail
          go_ret
          exact ⟨by rw [HN.out]; rfl, _, by rw [HW2.out, World.drewN_drewN]⟩
      · have HN : Hid (decide (bs = cs) = true) := by
          have e1 := HP.out
          rw [List.take_of_length_le (by omega), List.take_of_length_le (by omega)] at e1
          exact decide_eq_true e1
        have HW2 : Hid (wr = w.drewN m) := hw2
        clear hw2 HP
        have hlt' : ¬ (k : Int) < (bs.length : Int) := by omega
        go_wp2_with fail
        go_ret
        exact ⟨by rw [HN.out]; rfl, _, HW2.out⟩
  · have hlI : ¬ (bs.length : Int) = (cs.length : Int) := by omega
    have hne : ((bs.length : Int) != (cs.length : Int)) = true := by simpa using hlI
    have HN : Hid (decide (bs = cs) = false) := decide_eq_false (fun e => hl (by rw [e]))
    go_enter Tryd.func50, Tryd.ntmps50
    go_wp2_with fail
    go_quiet (fail)
    go_wp2_with fail
    go_ret
    exact ⟨by rw [HN.out]; rfl, _, rfl⟩
end Go.Proofs.YtnjglagfpghbjaaDoor
