import Derived.Test.YtnjglagfpghbjaaDoorCP1
import Derived.Deep.AppendLies
import Derived.Deep.RegionLaw
import Derived.Laws.OwnMore
namespace Go.Proofs.YtnjglagfpghbjaaDoor
open Go.RowKit Go.WideShapes
set_option maxRecDepth 100000

theorem note_off (a : Nat) (c : Int) (f : Value) (w : World) (hc : w.cell? ⟨a, 2, none⟩ = some (.bool false)) :
    Calls Tryd.prog 66 #[.pointer (some ⟨a, 0, none⟩), .int .i64 c, f] w fun e w' => e = .returned (.tuple #[]) ∧ w' = w := by
  go_enter Tryd.func66, Tryd.ntmps66
  go_wp2
  refine bodyPost_ret (results_none rfl _ _ _) rfl ?_
  exact ⟨rfl, rfl⟩
theorem own_slice {w : World} {B e sz n : Nat} {v : Value} {xs : List Value} (h : w.ownsRow B e sz v n xs) : ∃ ao c, v = .slice ao n c := by
  rcases h.2 with ⟨rfl, rfl⟩ | ⟨g, cap, cur, rfl, _⟩
  · exact ⟨_, _, rfl⟩
  · exact ⟨_, _, rfl⟩
/-- what the touched bytes of a call are in the log -/
def tcs (x n N : Nat) (wr : Bool) : List (Int × Bool) := (List.range n).map fun i => ((((x + i) % N : Nat) : Int), wr)
theorem tcs_len (x n N : Nat) (wr : Bool) : (tcs x n N wr).length = n := by simp [tcs]
theorem tcs_succ (x n N : Nat) (wr : Bool) : tcs x (n + 1) N wr = tcs x n N wr ++ [((((x + n) % N : Nat) : Int), wr)] := by simp [tcs, List.range_succ]
theorem belS {a w : World} {o : Obj} (h : Below a.heap.size a w) : Below a.heap.size a (w.alloc o) := h.alloc h.size o
theorem btS {w a b : World} (h1 : Below w.heap.size w a) (h2 : Below a.heap.size a b) : Below w.heap.size w b := h1.trans (h2.mono h1.size)
theorem infoT : (Tryd.prog.info? 56).map (fun i => (i.zero, i.size, i.bytes)) = some (some (.agg #[.int .u32 0, .bool false]), 2, 8) := by kernel_rfl
theorem tvv_one' (L : List (Int × Bool)) : ∀ u ∈ tvv L, u.oneCell' = true := by
  intro u hu
  obtain ⟨t, _, ht⟩ := List.mem_flatMap.1 hu
  simp only [List.mem_cons, List.not_mem_nil, or_false] at ht
  rcases ht with rfl | rfl <;> rfl
theorem MemS.of_obj {w : World} {a g cap : Nat} {bs : List Int} {lg : Bool} {tv : Value} {ts : List (Int × Bool)} (h : MemS w a g cap bs lg tv ts) {w' : World} {lg' : Bool} {tv' : Value} {ts' : List (Int × Bool)} {S : Nat → Prop} (hk : Kp S w w') (hs : ¬ S g)
    (ho : w'.heap[a]? = some (.cells #[.pointer (some ⟨a, 0, none⟩), .slice (some ⟨g, 0, none⟩) bs.length cap, .bool lg', tv'] 52 (0, 0))) (hl : w'.ownsRow 0 56 2 tv' ts'.length (tvv ts')) (na : tv'.ownBlock ≠ some a) (ng : tv'.ownBlock ≠ some g) (ht : ts'.length ≤ 65536) : MemS w' a g cap bs lg' tv' ts' :=
  ⟨ho, hk.own h.row (fun k e => by simp only [Value.ownBlock, Option.some.injEq] at e; subst e; exact hs), hl, h.ne, na, ng, h.pw, h.wf, ht⟩
theorem set_obj3 {w : World} {a : Nat} {c0 c1 c2 c3 v : Value} {t : TypeId} (h : w.heap[a]? = some (.cells #[c0, c1, c2, c3] t (0, 0))) : (w.setCell ⟨a, 3, none⟩ v).heap[a]? = some (.cells #[c0, c1, c2, v] t (0, 0)) := by
  rw [setCell_eq_setRow w a 3 _ t (0, 0) v h, setRow_heap w a _ _ t _ h]
  rfl
theorem set_obj2 {w : World} {a : Nat} {c0 c1 c2 c3 v : Value} {t : TypeId} (h : w.heap[a]? = some (.cells #[c0, c1, c2, c3] t (0, 0))) : (w.setCell ⟨a, 2, none⟩ v).heap[a]? = some (.cells #[c0, c1, v, c3] t (0, 0)) := by
  rw [setCell_eq_setRow w a 2 _ t (0, 0) v h, setRow_heap w a _ _ t _ h]
  rfl
theorem take_all (ts new : List (Int × Bool)) (h : ts.length + new.length ≤ 65536) : (ts ++ new).take 65536 = ts ++ new := List.take_of_length_le (by simp; omega)
theorem tcs_cut (ts : List (Int × Bool)) (x n N K : Nat) (wr : Bool) (h : K ≤ n) (hK : ts.length + K = 65536) : (ts ++ tcs x n N wr).take 65536 = ts ++ tcs x K N wr := by
  rw [List.take_append, List.take_of_length_le (by omega), ← hK, Nat.add_sub_cancel_left]
  congr 1
  simp [tcs, ← List.map_take, List.take_range, Nat.min_eq_left h]
theorem note_step {w wr W1 w2 : World} {a g cap gg cc n : Nat} {bs : List Int} {lg : Bool} {tv tv' : Value} {ts : List (Int × Bool)} {p : Int × Bool} (hK : Kp (Foot a g tv) w wr) (hT : ∀ j, tv'.ownBlock = some j → tv.ownBlock = some j ∨ w.heap.size ≤ j)
    (hR : MemS wr a g cap bs lg tv' ts) (hb : Below wr.heap.size wr W1) (own2 : w2.ownsRow 0 56 2 (.slice (some ⟨gg, 0, none⟩) (n + 1) cc) (n + 1) (tvv ts ++ [.int .u32 p.1, .bool p.2])) (hg2 : W1.grownBy w2 tv'.ownBlock) (hgg : tv'.ownBlock = some gg ∨ wr.heap.size ≤ gg) (hl : ts.length = n) (hm : n + 1 ≤ 65536) :
    MemS (w2.setCell ⟨a, 3, none⟩ (.slice (some ⟨gg, 0, none⟩) (n + 1) cc)) a g cap bs lg (.slice (some ⟨gg, 0, none⟩) (n + 1) cc) (ts ++ [p]) ∧ Kp (Foot a g tv) w (w2.setCell ⟨a, 3, none⟩ (.slice (some ⟨gg, 0, none⟩) (n + 1) cc)) ∧
      ∀ j, (Value.slice (some ⟨gg, 0, none⟩) (n + 1) cc).ownBlock = some j → tv.ownBlock = some j ∨ w.heap.size ≤ j := by
  have haw := hR.lt a (.inl rfl)
  have hgw := hR.lt g (.inr (.inl rfl))
  have k1 : Kp (fun k => tv'.ownBlock = some k) wr w2 := (Kp.ofBelow hb).trans (Kp.ofGrown (S := fun k => tv'.ownBlock = some k) hg2 (fun i h _ => h)) (fun i _ h => h)
  have k2 : Kp (Foot a g tv') wr (w2.setCell ⟨a, 3, none⟩ (.slice (some ⟨gg, 0, none⟩) (n + 1) cc)) := (k1.mono (fun i _ h => .inr (.inr h))).trans (Kp.setCell (S := fun k => k = a) _ _ _ rfl) (fun i _ h => .inl h)
  have ga : gg ≠ a := by
    rcases hgg with h | h
    · intro e; exact hR.na (e ▸ h)
    · omega
  have gG : gg ≠ g := by
    rcases hgg with h | h
    · intro e; exact hR.ng (e ▸ h)
    · omega
  have ho : w2.heap[a]? = wr.heap[a]? := k1.block a haw hR.na
  refine ⟨?_, hK.trans k2 ?_, ?_⟩
  · refine hR.of_obj (S := fun k => k = a ∨ tv'.ownBlock = some k) ((k1.mono (fun i _ h => .inr h)).trans (Kp.setCell (S := fun k => k = a) _ _ _ rfl) (fun i _ h => .inl h)) (fun h => h.elim (fun e => hR.ne e.symm) hR.ng) (set_obj3 (ho.trans hR.obj)) ?_ (by simp [Value.ownBlock, ga]) (by simp [Value.ownBlock, gG]) (by simp; omega)
    have := (Kp.setCell (S := fun k => k = a) w2 ⟨a, 3, none⟩ (.slice (some ⟨gg, 0, none⟩) (n + 1) cc) rfl).own own2 (fun k e => by simp only [Value.ownBlock, Option.some.injEq] at e; subst e; exact ga)
    rw [tvv_append, tvv_one, List.length_append, hl]
    exact this
  · intro i hi hF
    rcases hF with h | h | h
    · exact .inl h
    · exact .inr (.inl h)
    · rcases hT i h with h | h
      · exact .inr (.inr h)
      · omega
  · intro j hj
    simp only [Value.ownBlock, Option.some.injEq] at hj
    subst hj
    rcases hgg with h | h
    · exact hT gg h
    · exact .inr (Nat.le_trans hK.size h)
end Go.Proofs.YtnjglagfpghbjaaDoor
namespace Go.Proofs.YtnjglagfpghbjaaDoor
open Go.RowKit Go.WideShapes
set_option maxRecDepth 100000

def sliceLen : Value → Nat | .slice _ n _ => n | _ => 0
theorem bv_one' (L : List Int) : ∀ u ∈ bv L, u.oneCell' = true := by
  intro u hu; simp [bv] at hu; obtain ⟨z, _, rfl⟩ := hu; rfl
theorem info5s : (Tryd.prog.info? 5).map (·.size) = some 1 := by kernel_rfl
/-- the log behind a call that touches -/
def lgL (lg : Bool) (ts new : List (Int × Bool)) : List (Int × Bool) := if lg then (ts ++ new).take 65536 else ts
/-- what note does, with whatever it is handed -/
def NoteOk (F : Nat) (wr : Bool) (lg : Bool) : Prop := ∀ (a g cap bm ba x n : Nat) (bs : List Int) (tv : Value) (ts : List (Int × Bool)) (w : World), MemS w a g cap bs lg tv ts → x < 4294967296 → n ≤ 65536 →
    w.cell? ⟨bm, 0, none⟩ = some (.pointer (some ⟨a, 0, none⟩)) → w.cell? ⟨ba, 0, none⟩ = some (.int .u32 x) → ¬ Foot a g tv bm → ¬ Foot a g tv ba →
    Calls Tryd.prog 66 #[.pointer (some ⟨a, 0, none⟩), .int .i64 n, .func (.func F) #[] #[.pointer (some ⟨bm, 0, none⟩), .pointer (some ⟨ba, 0, none⟩)]] w fun e w' => e = .returned (.tuple #[]) ∧
      ∃ tv', MemS w' a g cap bs lg tv' (lgL lg ts (tcs x n bs.length wr)) ∧ Kp (Foot a g tv) w w' ∧ ∀ j, tv'.ownBlock = some j → tv.ownBlock = some j ∨ w.heap.size ≤ j
theorem note_ok_off (F : Nat) (wr : Bool) : NoteOk F wr false := fun a g cap bm ba x n bs tv ts w hS _ _ _ _ _ _ =>
  (note_off a n _ w ((obj_cell hS.obj 2).trans rfl)).mono fun e w' ⟨he, hw⟩ => ⟨he, tv, by rw [hw]; exact hS, by rw [hw]; exact Kp.refl _ _, fun j h => .inl h⟩
theorem rd_row (bs ds : List Int) (sp : List Value) (x j k pl n : Nat) (hl : ds.length = n) (hjk : j + k ≤ n) (hp : pl = (x + j) % bs.length) (hk : pl + k ≤ bs.length) :
    (((bv (rdL bs x j ++ ds.drop j) ++ sp).toArray.toList.take j ++ bv ((bs.drop pl).take k)) ++ (bv (rdL bs x j ++ ds.drop j) ++ sp).toArray.toList.drop (j + k)) = bv (rdL bs x (j + k) ++ ds.drop (j + k)) ++ sp := by
  have h1 : (bs.drop pl).take k = rdL bs (x + j) k := by
    rw [← rdL_chunk bs pl k hk]
    refine rdL_mod _ _ _ _ ?_
    rw [hp, Nat.mod_mod]
  have h2 : (bv (rdL bs x j ++ ds.drop j) ++ sp).take j = bv (rdL bs x j) := by
    rw [bv_append, List.append_assoc, List.take_append_of_le_length (by rw [bv_len, rdL_len]; exact Nat.le_refl _), List.take_of_length_le (by rw [bv_len, rdL_len]; exact Nat.le_refl _)]
  have h3 : (bv (rdL bs x j ++ ds.drop j) ++ sp).drop (j + k) = bv (ds.drop (j + k)) ++ sp := by
    rw [bv_append, List.append_assoc, List.drop_append, List.drop_eq_nil_of_le (by rw [bv_len, rdL_len]; omega), bv_len, rdL_len, List.nil_append, Nat.add_sub_cancel_left, List.drop_append_of_le_length (by rw [bv_len, List.length_drop]; omega)]
    simp [bv, ← List.map_drop]
  rw [List.toList_toArray, h2, h3, h1, rdL_add, bv_append, bv_append]
  simp
set_option maxHeartbeats 2000000 in
theorem read_any (lg : Bool) (hN : NoteOk 70 false lg) (a g cap d c x n : Nat) (bs ds : List Int) (sp : List Value) (t : TypeId) (tv : Value) (ts : List (Int × Bool)) (w : World) (hS : MemS w a g cap bs lg tv ts) (hx : x < 4294967296) (hn : n ≤ 65536)
    (hd : w.heap[d]? = some (.cells (bv ds ++ sp).toArray t (0, 0))) (hl : ds.length = n) (hc : n ≤ c) (_hc2 : c ≤ maxLen) (nd : ¬ Foot a g tv d) :
    Calls Tryd.prog 63 #[.pointer (some ⟨a, 0, none⟩), .int .u32 x, .slice (some ⟨d, 0, none⟩) n c] w fun e w' => e = .returned (.tuple #[]) ∧
      (∃ tv', MemS w' a g cap bs lg tv' (lgL lg ts (tcs x n bs.length false)) ∧ (∀ j, tv'.ownBlock = some j → tv.ownBlock = some j ∨ w.heap.size ≤ j)) ∧ Kp (fun k => Foot a g tv k ∨ k = d) w w' ∧ w'.heap[d]? = some (.cells (bv (rdL bs x n) ++ sp).toArray t (0, 0)) := by
  have haw := hS.lt a (.inl rfl)
  have hdw : d < w.heap.size := (Array.getElem?_eq_some_iff.1 hd).1
  have nF : ∀ k, w.heap.size ≤ k → ¬ Foot a g tv k := fun k hk hF => by have := hS.lt k hF; omega
  have hK0 : Kp (fun _ => False) w ((w.alloc (.cells #[.pointer (some ⟨a, 0, none⟩)] 23)).alloc (.cells #[.int .u32 x] 31)) := (Kp.alloc w _).trans (Kp.alloc _ _) (fun _ _ h => h)
  have hB0 : ((w.alloc (.cells #[.pointer (some ⟨a, 0, none⟩)] 23)).alloc (.cells #[.int .u32 x] 31)).heap[w.heap.size]? = some (.cells #[.pointer (some ⟨a, 0, none⟩)] 23) := by
    rw [Below.heap_alloc _ _ _ (by simp)]; exact heap_alloc_new w _
  have hB1 : ((w.alloc (.cells #[.pointer (some ⟨a, 0, none⟩)] 23)).alloc (.cells #[.int .u32 x] 31)).heap[w.heap.size + 1]? = some (.cells #[.int .u32 x] 31) := by
    have := heap_alloc_new (w.alloc (.cells #[.pointer (some ⟨a, 0, none⟩)] 23)) (.cells #[.int .u32 x] 31)
    simpa using this
  have hz0 : ((w.alloc (.cells #[.pointer (some ⟨a, 0, none⟩)] 23)).alloc (.cells #[.int .u32 x] 31)).heap.size = w.heap.size + 2 := by simp
  have hNo := hN a g cap w.heap.size (w.heap.size + 1) x n bs tv ts _ (hS.kept hK0 (fun _ _ h => h)) hx hn ((obj_cell hB0 0).trans rfl) ((obj_cell hB1 0).trans rfl) (nF _ (Nat.le_refl _)) (nF _ (Nat.le_succ _))
  have HN : Hid (Calls Tryd.prog 66 #[.pointer (some ⟨a, 0, none⟩), .int .i64 n, .func (.func 70) #[] #[.pointer (some ⟨w.heap.size, 0, none⟩), .pointer (some ⟨w.heap.size + 1, 0, none⟩)]] ((w.alloc (.cells #[.pointer (some ⟨a, 0, none⟩)] 23)).alloc (.cells #[.int .u32 x] 31)) fun e w1 => e = .returned (.tuple #[]) ∧
      w1.cell? ⟨w.heap.size, 0, none⟩ = some (.pointer (some ⟨a, 0, none⟩)) ∧ w1.cell? ⟨w.heap.size + 1, 0, none⟩ = some (.int .u32 x) ∧ w1.cell? ⟨a, 1, none⟩ = some (.slice (some ⟨g, 0, none⟩) bs.length cap) ∧
      Hid ((∃ tv', MemS w1 a g cap bs lg tv' (lgL lg ts (tcs x n bs.length false)) ∧ (∀ j, tv'.ownBlock = some j → tv.ownBlock = some j ∨ w.heap.size + 2 ≤ j)) ∧ Kp (Foot a g tv) w w1 ∧ w1.heap[d]? = some (.cells (bv ds ++ sp).toArray t (0, 0)) ∧ w.heap.size + 2 ≤ w1.heap.size)) := hNo.mono fun e w1 ⟨he, tv', hS1, hK1, hT1⟩ => by
    have e0 : w1.heap[w.heap.size]? = some (.cells #[.pointer (some ⟨a, 0, none⟩)] 23) := (hK1.block _ (by rw [hz0]; omega) (nF _ (Nat.le_refl _))).trans hB0
    have e1 : w1.heap[w.heap.size + 1]? = some (.cells #[.int .u32 x] 31) := (hK1.block _ (by rw [hz0]; omega) (nF _ (Nat.le_succ _))).trans hB1
    have hd1 : w1.heap[d]? = some (.cells (bv ds ++ sp).toArray t (0, 0)) := (hK1.block d (by rw [hz0]; omega) nd).trans ((hK0.block d hdw (fun h => h)).trans hd)
    rw [hz0] at hT1
    exact ⟨he, (obj_cell e0 0).trans rfl, (obj_cell e1 0).trans rfl, (obj_cell hS1.obj 1).trans rfl, ⟨tv', hS1, hT1⟩, (hK0.mono (S' := Foot a g tv) (fun _ _ h => h.elim)).trans hK1 (fun _ _ h => h), hd1, by have := hK1.size; rwa [hz0] at this⟩
  have hpw := hS.pw
  have hP := fun W h => place_any a g cap bs.length x W hx hpw h
  have hpb := hpw.bd
  clear hNo hK0 hB0 hB1 hz0 hS hd nF hN
  have HPW := hidS hpw
  have HND := hidS nd
  clear hpw nd
  go_enter Tryd.func63, Tryd.ntmps63
  go_wp2_with (first
    | (go_at_call 66; with_reducible refine HN.out.mono ?_; rintro e w1 ⟨rfl, c0, c1, ca, HQ⟩)
    | (go_at_call 68; with_reducible refine (hP _ ca).mono ?_; rintro e wq ⟨rfl, hq⟩; subst wq)
    | fail)
  obtain ⟨⟨tv', hS1, hT1⟩, hK1, hd1, hz1⟩ := HQ.out
  have hcN : bs.length ≤ cap := by
    rcases hS1.row.2 with ⟨e, _⟩ | ⟨g', cap', cur, e, _, _, hcc, _⟩
    · simp at e
    · simp only [Value.slice.injEq] at e
      rw [e.2.2]; exact hcc
  have HS1 := hidS hS1
  have HT1 := hidS hT1
  have HK1 := hidS hK1
  have HD1 := hidS hd1
  have HL := hidS hl
  clear hS1 hT1 hK1 hd1 HQ hP HN hl
  go_loopw [2, 6] (fun v p wr => ∃ (j m : Nat) (wo : Option Addr) (wc pl : Nat), j + m = n ∧ v = .slice wo m wc ∧ p = .int .u32 pl ∧ (0 < m → wo = some ⟨d, j, none⟩ ∧ wc = c - j ∧ pl = (x + j) % bs.length) ∧ Kp (fun k => k = d) w1 wr ∧ wr.heap[d]? = some (.cells (bv (rdL bs x j ++ ds.drop j) ++ sp).toArray t (0, 0)))
    (fun v _ _ => sliceLen v)
  case atStart => exact ⟨0, n, _, c, x % bs.length, Nat.zero_add _, rfl, by simp, fun _ => ⟨rfl, rfl, rfl⟩, Kp.refl _ _, by simpa [rdL] using HD1.out⟩
  case round =>
    obtain ⟨j, m, wo, wc, pl, hjm, rfl, rfl, hfs, hKr, hdr⟩ := hrel
    have HKr := hidS hKr
    have HDr := hidS hdr
    clear hKr hdr
    by_cases hm : 0 < m
    · obtain ⟨rfl, rfl, hpl⟩ := hfs hm
      have hplN : pl < bs.length := by rw [hpl]; exact Nat.mod_lt _ (by omega)
      have HPL := hidS hpl
      clear hpl hfs
      obtain ⟨k, hk⟩ : ∃ k, k = min m (bs.length - pl) := ⟨_, rfl⟩
      have hk0 : 0 < k := by omega
      have hkm : k ≤ m := by omega
      have hkN : pl + k ≤ bs.length := by omega
      have hkor : k = m ∨ pl + k = bs.length := by omega
      have HKM : Hid (k = Nat.min (bs.length - pl) m) := by
        show k = min (bs.length - pl) m
        omega
      have HOR := hidS hkor
      clear hk hkor
      have hdne : ∀ b, b ≠ d → b < w1.heap.size → wr.heap[b]? = w1.heap[b]? := fun b hb hl => HKr.out.block b hl hb
      have c0r : wr.cell? ⟨w.heap.size, 0, none⟩ = some (.pointer (some ⟨a, 0, none⟩)) := (World.cell?_of_block (hdne w.heap.size (by omega) (by omega))).trans c0
      have nda : a ≠ d := fun e => HND.out (.inl e.symm)
      have ndg : g ≠ d := fun e => HND.out (.inr (.inl e.symm))
      have car : wr.cell? ⟨a, 1, none⟩ = some (.slice (some ⟨g, 0, none⟩) bs.length cap) := (World.cell?_of_block (hdne a nda (by omega))).trans ca
      have hgr : ∀ i, i < bs.length → wr.cell? ⟨g, i, none⟩ = some (.int .u8 (bs.getD i 0)) := fun i hi => by
        have hgl := (HS1.out.row.lt g rfl).2
        rw [World.cell?_of_block (w := w1) (a := ⟨g, i, none⟩) (hdne g ndg hgl)]
        exact own_get HS1.out.row hi
      obtain ⟨cs, hcs⟩ : ∃ cs, cs = bv ((bs.drop pl).take k) := ⟨_, rfl⟩
      have hcl : cs.length = k := by rw [hcs, bv_len, List.length_take, List.length_drop]; omega
      have HCL : Hid (cs.length = Nat.min (bs.length - pl) m) := by show cs.length = _; rw [hcl]; exact HKM.out
      have HSRC : Hid (∀ i v, cs[i]? = some v → wr.cell? ((⟨g, pl, none⟩ : Addr).add i) = some v) := fun i v hv => by
        have hi : i < k := by rw [← hcl]; exact (List.getElem?_eq_some_iff.1 hv).1
        rw [add_plain, hgr (pl + i) (by omega)]
        rw [hcs] at hv
        have h2 : pl + i < bs.length := by omega
        simpa [bv, hi, h2] using hv
      have HONE : Hid (∀ v ∈ cs, v.oneCell' = true) := by rw [hcs]; exact bv_one' _
      have HFIT : Hid (j + cs.length ≤ (bv (rdL bs x j ++ ds.drop j) ++ sp).toArray.size) := by
        show j + cs.length ≤ _
        rw [hcl]
        have := HL.out
        simp [bv, rdL_len]; omega
      have HCS := hidS hcs
      have HCK := hidS hcl
      clear hcs hcl hgr hdne
      have i1 : (pl : Int) ≤ (bs.length : Int) := by omega
      have i2 : ¬ cap = pl := by omega
      have i3 : ¬ pl = cap := by omega
      have i4 : (k : Int) ≤ (m : Int) := by omega
      have hmI : (0 : Int) < (m : Int) := by omega
      have hkc : k ≤ c - j := by omega
      have hkcI : (k : Int) ≤ ((c - j : Nat) : Int) := by omega
      have hrun := run_copy_row (P := Tryd.prog) wr 32 32 3 5 d j m (c - j) ⟨g, pl, none⟩ (bs.length - pl) (cap - pl) (bv (rdL bs x j ++ ds.drop j) ++ sp).toArray t cs Tryd.underlying32 info5s HDr.out HCL.out HSRC.out HFIT.out HONE.out
      rw [HCK.out] at hrun
      generalize hW2 : wr.setRow d _ = W2 at hrun
      have HW2 := hidS hW2
      clear hW2
      go_wp2
      have hHd : W2.heap[d]? = some (.cells (bv (rdL bs x (j + k) ++ ds.drop (j + k)) ++ sp).toArray t (0, 0)) := by
        rw [← HW2.out, setRow_heap wr d _ _ t _ HDr.out, HCS.out, rd_row bs ds sp x j k pl n HL.out (by omega) HPL.out hkN]
      have hmod : 0 < m - k → 0 = (x + (j + k)) % bs.length := fun h => by
        have e : pl + k = bs.length := HOR.out.resolve_left (by omega)
        rw [← Nat.add_assoc, Nat.add_mod, ← HPL.out]
        by_cases hkN2 : k < bs.length
        · rw [Nat.mod_eq_of_lt hkN2, e, Nat.mod_self]
        · obtain rfl : pl = 0 := by omega
          rw [show k = bs.length by omega, Nat.mod_self]
          simp
      refine ⟨⟨j + k, m - k, _, c - j - k, 0, by omega, rfl, rfl, fun h => ⟨if_neg (by omega), by omega, hmod h⟩, HKr.out.trans (by rw [← HW2.out]; exact Kp.setRow (S := fun k => k = d) _ _ _ rfl) (fun _ _ h => h), hHd⟩, by simp [sliceLen]; omega⟩
    · obtain rfl : m = 0 := by omega
      obtain rfl : j = n := by omega
      have hltI : ¬ (0 : Int) < ((0 : Nat) : Int) := by decide
      go_wp2
      go_end0
      have hdr := HDr.out
      rw [List.drop_eq_nil_of_le (by rw [HL.out]; exact Nat.le_refl _), List.append_nil] at hdr
      refine ⟨rfl, ⟨tv', HS1.out.kept HKr.out ?_, fun i h => (HT1.out i h).imp id (fun h => by omega)⟩, (HK1.out.mono (fun _ _ h => .inl h)).trans HKr.out (fun _ _ h => .inr h), hdr⟩
      intro k hk e
      subst e
      rcases hk with h | h | h
      · exact HND.out (.inl h)
      · exact HND.out (.inr (.inl h))
      · rcases HT1.out k h with h | h
        · exact HND.out (.inr (.inr h))
        · omega
end Go.Proofs.YtnjglagfpghbjaaDoor
namespace Go.Proofs.YtnjglagfpghbjaaDoor
open Go.RowKit Go.WideShapes
set_option maxRecDepth 100000

theorem own_splice {w : World} {g N cap : Nat} {bs : List Int} (h : w.ownsRow 0 5 1 (.slice (some ⟨g, 0, none⟩) N cap) N (bv bs)) :
    ∃ cur, w.heap[g]? = some (.cells cur 5 (0, 0)) ∧ N ≤ cur.size ∧ ∀ (off : Nat) (cs : List Int), off + cs.length ≤ N → (w.setRow g (cur.toList.take off ++ bv cs ++ cur.toList.drop (off + cs.length)).toArray).ownsRow 0 5 1 (.slice (some ⟨g, 0, none⟩) N cap) N (bv (splice bs off cs)) := by
  have hlen := h.1
  rw [bv_len] at hlen
  rcases h.2 with ⟨e, _⟩ | ⟨g', cap', cur, e, hb, hg, hn, hm, hs, ht⟩
  · simp at e
  · simp only [Value.slice.injEq, Option.some.injEq, Addr.mk.injEq, true_and, and_true] at e
    obtain ⟨rfl, rfl⟩ := e
    refine ⟨cur, hg, by omega, fun off cs hoc => ⟨by rw [bv_len, length_splice _ _ _ (by omega)]; exact hlen, .inr ⟨g, cap, _, rfl, hb, setRow_heap w g cur _ 5 _ hg, hn, hm, ?_, ?_⟩⟩⟩
    · have : cur.toList.length = cap := by simpa using hs
      simp [bv]; omega
    · rw [Nat.mul_one] at ht
      rw [Nat.mul_one, ← splice_map, ← ht, List.toList_toArray]
      unfold splice
      have hcl : cur.toList.length = cap := by simpa using hs
      rw [bv_len, List.append_assoc, List.take_append, List.take_append, List.take_take, List.length_take, bv_len]
      rw [List.take_of_length_le (l := bv cs) (by rw [bv_len]; omega), List.drop_take, List.take_take, Nat.min_comm N off]
      congr 3
      omega
/-- where bytes that are handed in are read -/
def Src (w : World) (bo : Option Addr) (sb so : Nat) (zs : List Int) : Prop := 0 < zs.length → bo = some ⟨sb, so, none⟩ ∧ sb < w.heap.size ∧ ∀ i, i < zs.length → w.cell? ⟨sb, so + i, none⟩ = some (.int .u8 (zs.getD i 0))
set_option maxHeartbeats 2000000 in
theorem write_any (lg : Bool) (hN : NoteOk 67 true lg) (a g cap c x n sb so : Nat) (bo : Option Addr) (bs zs : List Int) (tv : Value) (ts : List (Int × Bool)) (w : World) (hS : MemS w a g cap bs lg tv ts) (hx : x < 4294967296) (hn : n ≤ 65536)
    (hl : zs.length = n) (hc : n ≤ c) (hwf : ∀ z ∈ zs, 0 ≤ z ∧ z ≤ 255) (hsrc : Src w bo sb so zs) (nd : ¬ Foot a g tv sb) :
    Calls Tryd.prog 56 #[.pointer (some ⟨a, 0, none⟩), .int .u32 x, .slice bo n c] w fun e w' => e = .returned (.tuple #[]) ∧
      (∃ tv', MemS w' a g cap (wrL bs x zs) lg tv' (lgL lg ts (tcs x n bs.length true)) ∧ (∀ j, tv'.ownBlock = some j → tv.ownBlock = some j ∨ w.heap.size ≤ j)) ∧ Kp (Foot a g tv) w w' := by
  have haw := hS.lt a (.inl rfl)
  have nF : ∀ k, w.heap.size ≤ k → ¬ Foot a g tv k := fun k hk hF => by have := hS.lt k hF; omega
  have hK0 : Kp (fun _ => False) w ((w.alloc (.cells #[.pointer (some ⟨a, 0, none⟩)] 23)).alloc (.cells #[.int .u32 x] 31)) := (Kp.alloc w _).trans (Kp.alloc _ _) (fun _ _ h => h)
  have hB0 : ((w.alloc (.cells #[.pointer (some ⟨a, 0, none⟩)] 23)).alloc (.cells #[.int .u32 x] 31)).heap[w.heap.size]? = some (.cells #[.pointer (some ⟨a, 0, none⟩)] 23) := by
    rw [Below.heap_alloc _ _ _ (by simp)]; exact heap_alloc_new w _
  have hB1 : ((w.alloc (.cells #[.pointer (some ⟨a, 0, none⟩)] 23)).alloc (.cells #[.int .u32 x] 31)).heap[w.heap.size + 1]? = some (.cells #[.int .u32 x] 31) := by
    have := heap_alloc_new (w.alloc (.cells #[.pointer (some ⟨a, 0, none⟩)] 23)) (.cells #[.int .u32 x] 31)
    simpa using this
  have hz0 : ((w.alloc (.cells #[.pointer (some ⟨a, 0, none⟩)] 23)).alloc (.cells #[.int .u32 x] 31)).heap.size = w.heap.size + 2 := by simp
  have hNo := hN a g cap w.heap.size (w.heap.size + 1) x n bs tv ts _ (hS.kept hK0 (fun _ _ h => h)) hx hn ((obj_cell hB0 0).trans rfl) ((obj_cell hB1 0).trans rfl) (nF _ (Nat.le_refl _)) (nF _ (Nat.le_succ _))
  have HN : Hid (Calls Tryd.prog 66 #[.pointer (some ⟨a, 0, none⟩), .int .i64 n, .func (.func 67) #[] #[.pointer (some ⟨w.heap.size, 0, none⟩), .pointer (some ⟨w.heap.size + 1, 0, none⟩)]] ((w.alloc (.cells #[.pointer (some ⟨a, 0, none⟩)] 23)).alloc (.cells #[.int .u32 x] 31)) fun e w1 => e = .returned (.tuple #[]) ∧
      w1.cell? ⟨w.heap.size, 0, none⟩ = some (.pointer (some ⟨a, 0, none⟩)) ∧ w1.cell? ⟨w.heap.size + 1, 0, none⟩ = some (.int .u32 x) ∧ w1.cell? ⟨a, 1, none⟩ = some (.slice (some ⟨g, 0, none⟩) bs.length cap) ∧
      Hid ((∃ tv', MemS w1 a g cap bs lg tv' (lgL lg ts (tcs x n bs.length true)) ∧ (∀ j, tv'.ownBlock = some j → tv.ownBlock = some j ∨ w.heap.size + 2 ≤ j)) ∧ Kp (Foot a g tv) w w1 ∧ w.heap.size + 2 ≤ w1.heap.size)) := hNo.mono fun e w1 ⟨he, tv', hS1, hK1, hT1⟩ => by
    have e0 : w1.heap[w.heap.size]? = some (.cells #[.pointer (some ⟨a, 0, none⟩)] 23) := (hK1.block _ (by rw [hz0]; omega) (nF _ (Nat.le_refl _))).trans hB0
    have e1 : w1.heap[w.heap.size + 1]? = some (.cells #[.int .u32 x] 31) := (hK1.block _ (by rw [hz0]; omega) (nF _ (Nat.le_succ _))).trans hB1
    rw [hz0] at hT1
    exact ⟨he, (obj_cell e0 0).trans rfl, (obj_cell e1 0).trans rfl, (obj_cell hS1.obj 1).trans rfl, ⟨tv', hS1, hT1⟩, (hK0.mono (S' := Foot a g tv) (fun _ _ h => h.elim)).trans hK1 (fun _ _ h => h), by have := hK1.size; rwa [hz0] at this⟩
  have hpw := hS.pw
  have hP := fun W h => place_any a g cap bs.length x W hx hpw h
  have hpb := hpw.bd
  have HS := hidS hS
  clear hNo hK0 hB0 hB1 hz0 hS nF hN
  have HPW := hidS hpw
  clear hpw
  go_enter Tryd.func56, Tryd.ntmps56
  go_wp2_with (first
    | (go_at_call 66; with_reducible refine HN.out.mono ?_; rintro e w1 ⟨rfl, c0, c1, ca, HQ⟩)
    | (go_at_call 68; with_reducible refine (hP _ ca).mono ?_; rintro e wq ⟨rfl, hq⟩; subst wq)
    | fail)
  obtain ⟨⟨tv', hS1, hT1⟩, hK1, hz1⟩ := HQ.out
  have hcN : bs.length ≤ cap := by
    rcases hS1.row.2 with ⟨e, _⟩ | ⟨g', cap', cur, e, _, _, hcc, _⟩
    · simp at e
    · simp only [Value.slice.injEq] at e
      rw [e.2.2]; exact hcc
  have hsr1 : 0 < zs.length → bo = some ⟨sb, so, none⟩ ∧ sb < w1.heap.size ∧ ∀ i, i < zs.length → w1.cell? ⟨sb, so + i, none⟩ = some (.int .u8 (zs.getD i 0)) := fun h0 => by
    obtain ⟨h1, h2, h3⟩ := hsrc h0
    exact ⟨h1, by omega, fun i hi => (hK1.cell (p := ⟨sb, so + i, none⟩) h2 nd).trans (h3 i hi)⟩
  have HS1 := hidS hS1
  have HT1 := hidS hT1
  have HK1 := hidS hK1
  have HL := hidS hl
  have HSR := hidS hsr1
  have HWF := hidS hwf
  have HND := hidS nd
  have hne := hS1.ne
  clear hS1 hT1 hK1 HQ hP HN hl hsr1 hsrc hwf nd
  go_loopw [2, 6] (fun v p wr => ∃ (j m : Nat) (wo : Option Addr) (wc pl : Nat), j + m = n ∧ v = .slice wo m wc ∧ p = .int .u32 pl ∧ (0 < m → wo = some ⟨sb, so + j, none⟩ ∧ wc = c - j ∧ pl = (x + j) % bs.length) ∧ Kp (fun k => k = g) w1 wr ∧ MemS wr a g cap (wrL bs x (zs.take j)) lg tv' (lgL lg ts (tcs x n bs.length true)))
    (fun v _ _ => sliceLen v)
  case atStart => exact ⟨0, n, _, c, x % bs.length, Nat.zero_add _, rfl, by simp, fun h => ⟨(HSR.out (by rw [HL.out]; exact h)).1, rfl, rfl⟩, Kp.refl _ _, by simpa [wrL] using HS1.out⟩
  case round =>
    obtain ⟨j, m, wo, wc, pl, hjm, rfl, rfl, hfs, hKr, hSr⟩ := hrel
    have HKr := hidS hKr
    have HSr := hidS hSr
    clear hKr hSr
    by_cases hm : 0 < m
    · obtain ⟨rfl, rfl, hpl⟩ := hfs hm
      have hplN : pl < bs.length := by rw [hpl]; exact Nat.mod_lt _ (by omega)
      have HPL := hidS hpl
      clear hpl hfs
      obtain ⟨k, hk⟩ : ∃ k, k = min m (bs.length - pl) := ⟨_, rfl⟩
      have hk0 : 0 < k := by omega
      have hkm : k ≤ m := by omega
      have hkN : pl + k ≤ bs.length := by omega
      have hkor : k = m ∨ pl + k = bs.length := by omega
      have HKM : Hid (k = Nat.min m (bs.length - pl)) := by
        show k = min m (bs.length - pl)
        omega
      have HOR := hidS hkor
      clear hk hkor
      have hdne : ∀ b, b ≠ g → b < w1.heap.size → wr.heap[b]? = w1.heap[b]? := fun b hb hl => HKr.out.block b hl hb
      have hgl := (HS1.out.row.lt g rfl).2
      have hal := HS1.out.lt a (.inl rfl)
      have hgw : g < w.heap.size := HS.out.lt g (.inr (.inl rfl))
      have c0r : wr.cell? ⟨w.heap.size, 0, none⟩ = some (.pointer (some ⟨a, 0, none⟩)) := (World.cell?_of_block (hdne w.heap.size (by omega) (by omega))).trans c0
      have car : wr.cell? ⟨a, 1, none⟩ = some (.slice (some ⟨g, 0, none⟩) bs.length cap) := (World.cell?_of_block (hdne a hne hal)).trans ca
      obtain ⟨hsb0, hsb1, hsb2⟩ := HSR.out (by rw [HL.out]; omega)
      have hsg : sb ≠ g := fun e => HND.out (.inr (.inl e))
      obtain ⟨cs, hcs⟩ : ∃ cs, cs = (zs.drop j).take k := ⟨_, rfl⟩
      have hcl : cs.length = k := by rw [hcs, List.length_take, List.length_drop, HL.out]; omega
      have HCL : Hid ((bv cs).length = Nat.min m (bs.length - pl)) := by show (bv cs).length = _; rw [bv_len, hcl]; exact HKM.out
      have HSRC : Hid (∀ i v, (bv cs)[i]? = some v → wr.cell? ((⟨sb, so + j, none⟩ : Addr).add i) = some v) := fun i v hv => by
        have hi : i < k := by rw [← hcl, ← bv_len]; exact (List.getElem?_eq_some_iff.1 hv).1
        have hzl := HL.out
        rw [add_plain, World.cell?_of_block (w := w1) (a := ⟨sb, so + j + i, none⟩) (hdne sb hsg hsb1), Nat.add_assoc, hsb2 (j + i) (by omega)]
        rw [hcs] at hv
        have h2 : j + i < zs.length := by omega
        simpa [bv, hi, h2] using hv
      have hlenW : (wrL bs x (zs.take j)).length = bs.length := wrL_len _ _ _
      have hrow := HSr.out.row
      rw [hlenW] at hrow
      obtain ⟨cur, hcur, hcsz, hown⟩ := own_splice hrow
      have HOW := hidS (hown pl cs (by omega))
      have HFIT : Hid (pl + (bv cs).length ≤ cur.size) := by
        show pl + (bv cs).length ≤ _
        rw [bv_len, hcl]; omega
      have hrun := run_copy_row (P := Tryd.prog) wr 32 32 3 5 g pl (bs.length - pl) (cap - pl) ⟨sb, so + j, none⟩ m (c - j) cur 5 (bv cs) Tryd.underlying32 info5s hcur HCL.out HSRC.out HFIT.out (bv_one' _)
      rw [bv_len, hcl] at hrun
      rw [hcl] at HOW
      generalize hW2 : wr.setRow g _ = W2 at hrun HOW
      have hspl : wrL bs x (zs.take (j + k)) = splice (wrL bs x (zs.take j)) pl cs := by
        have hzl := HL.out
        rw [List.take_add, ← hcs, wrL_append, List.length_take, Nat.min_eq_left (by omega), ← wrL_chunk _ _ _ (by rw [hlenW]; omega)]
        refine wrL_mod _ _ _ _ ?_
        rw [hlenW, HPL.out, Nat.mod_mod]
      have HSP := hidS hspl
      have HW2 := hidS hW2
      have HCU := hidS hcur
      have hmr : cs.length = k := hcl
      have HCK := hidS hmr
      have HHC := hidS hcs
      clear hcs hcl hdne hspl hW2 hown hcur hrow hlenW hcsz hmr hsb0 hsb2
      have i1 : (pl : Int) ≤ (bs.length : Int) := by omega
      have i2 : ¬ cap = pl := by omega
      have i3 : ¬ pl = cap := by omega
      have i4 : (k : Int) ≤ (m : Int) := by omega
      have hmI : (0 : Int) < (m : Int) := by omega
      have hkc : k ≤ c - j := by omega
      have hkcI : (k : Int) ≤ ((c - j : Nat) : Int) := by omega
      go_wp2
      have hmod : 0 < m - k → 0 = (x + (j + k)) % bs.length := fun h => by
        have e : pl + k = bs.length := HOR.out.resolve_left (by omega)
        rw [← Nat.add_assoc, Nat.add_mod, ← HPL.out]
        by_cases hkN2 : k < bs.length
        · rw [Nat.mod_eq_of_lt hkN2, e, Nat.mod_self]
        · obtain rfl : pl = 0 := by omega
          rw [show k = bs.length by omega, Nat.mod_self]
          simp
      have hk2 : Kp (fun k => k = g) wr W2 := by rw [← HW2.out]; exact Kp.setRow (S := fun k => k = g) _ _ _ rfl
      have hlw : (wrL bs x (zs.take (j + k))).length = bs.length := wrL_len _ _ _
      have hlw2 : (wrL bs x (zs.take j)).length = bs.length := wrL_len _ _ _
      have hS2 : MemS W2 a g cap (wrL bs x (zs.take (j + k))) lg tv' (lgL lg ts (tcs x n bs.length true)) := by
        have o := HSr.out
        refine ⟨?_, ?_, hk2.own o.log (fun i e h => o.ng (h ▸ e)), o.ne, o.na, o.ng, by rw [hlw, ← hlw2]; exact o.pw, wrL_wf _ _ _ HS.out.wf (fun z hz => HWF.out z (List.mem_of_mem_take hz)), o.tl⟩
        · rw [hk2.block a (o.lt a (.inl rfl)) o.ne, hlw, ← hlw2]; exact o.obj
        · rw [hlw, HSP.out]; exact HOW.out
      refine ⟨⟨j + k, m - k, _, c - j - k, 0, by omega, rfl, rfl, fun h => ⟨(if_neg (by omega)).trans (by rw [Nat.add_assoc]), by omega, hmod h⟩, HKr.out.trans hk2 (fun _ _ h => h), hS2⟩, by simp [sliceLen]; omega⟩
    · obtain rfl : m = 0 := by omega
      obtain rfl : j = n := by omega
      have hltI : ¬ (0 : Int) < ((0 : Nat) : Int) := by decide
      go_wp2
      go_end0
      have hsr := HSr.out
      rw [List.take_of_length_le (by rw [HL.out]; exact Nat.le_refl _)] at hsr
      exact ⟨rfl, ⟨tv', hsr, fun i h => (HT1.out i h).imp id (fun h => by omega)⟩, HK1.out.trans HKr.out (fun _ _ h => .inr (.inl h))⟩
end Go.Proofs.YtnjglagfpghbjaaDoor
namespace Go.Proofs.YtnjglagfpghbjaaDoor
open Go.RowKit Go.WideShapes
set_option maxRecDepth 100000

/-- the number that four bytes are -/
def n4 (L : List Int) : Int := L.getD 0 0 + 256 * L.getD 1 0 + 65536 * L.getD 2 0 + 16777216 * L.getD 3 0
theorem alen4 : Tryd.prog.arrayLen 80 = 4 := by kernel_rfl
theorem aund4 : Tryd.prog.underlying 80 = some (.array (Tryd.prog.arrayLen 80) (Tryd.prog.elem 80)) := by kernel_rfl
theorem size5 (W : World) : (sizeOf 5).run Tryd.prog W = .ok 1 W := by
  have h := info5s
  cases hi : Tryd.prog.info? 5 with
  | none => rw [hi] at h; cases h
  | some i =>
    rw [hi] at h
    simp only [Option.map_some, Option.some.injEq] at h
    simp [sizeOf, typeInfo, hi, h]
theorem slice4 (W : World) (b n : Nat) (hn : n ≤ 4) : (Instr.sliceAt 80 (.pointer (some ⟨b, 0, none⟩)) none (some (.int .i64 n)) none).run Tryd.prog W = .ok (.slice (some ⟨b, 0, none⟩) n 4) W := by
  rw [run_sliceAt_array_h W 80 ⟨b, 0, none⟩ aund4 .i64 n (by omega) (by rw [alen4]; omega), alen4, show Tryd.prog.elem 80 = 5 by kernel_rfl, size5]
  simp [slicedAt, Result.andThen, Addr.add]
theorem or_u32 (a b : Nat) (ha : a < 4294967296) (hb : b < 4294967296) : bits .or .u32 (a : Int) (b : Int) = ((a ||| b : Nat) : Int) := by
  have hx : a ||| b < 2 ^ 32 := Nat.or_lt_two_pow (by omega) (by omega)
  have h1 : (BitVec.ofInt 32 (a : Int)).toNat = a := by
    rw [BitVec.ofInt_natCast, BitVec.toNat_ofNat]; exact Nat.mod_eq_of_lt (by omega)
  have h2 : (BitVec.ofInt 32 (b : Int)).toNat = b := by
    rw [BitVec.ofInt_natCast, BitVec.toNat_ofNat]; exact Nat.mod_eq_of_lt (by omega)
  show IntKind.u32.wrap ((BitVec.ofInt 32 (a : Int) ||| BitVec.ofInt 32 (b : Int)).toNat : Int) = _
  rw [BitVec.toNat_or, h1, h2, IntKind.wrap_u32]
  omega
theorem or_nat (a b i : Nat) (h : a < 2 ^ i) : a ||| b * 2 ^ i = a + b * 2 ^ i := by
  have := Nat.shiftLeft_add_eq_or_of_lt h b
  rw [Nat.shiftLeft_eq] at this
  rw [Nat.or_comm, ← this, Nat.add_comm]
theorem or4 (v0 v1 v2 v3 : Int) (p0 : 0 ≤ v0) (q0 : v0 ≤ 255) (p1 : 0 ≤ v1) (q1 : v1 ≤ 255) (p2 : 0 ≤ v2) (q2 : v2 ≤ 255) (p3 : 0 ≤ v3) (q3 : v3 ≤ 255) :
    bits .or .u32 (bits .or .u32 (bits .or .u32 v0 (v1 * 256)) (v2 * 65536)) (v3 * 16777216) = v0 + 256 * v1 + 65536 * v2 + 16777216 * v3 := by
  obtain ⟨a, rfl⟩ := Int.eq_ofNat_of_zero_le p0
  obtain ⟨b, rfl⟩ := Int.eq_ofNat_of_zero_le p1
  obtain ⟨c, rfl⟩ := Int.eq_ofNat_of_zero_le p2
  obtain ⟨d, rfl⟩ := Int.eq_ofNat_of_zero_le p3
  have e1 : bits .or .u32 (a : Int) ((b : Int) * 256) = ((a + b * 256 : Nat) : Int) := by
    have := or_u32 a (b * 256) (by omega) (by omega)
    rw [or_nat a b 8 (by omega)] at this
    exact this
  have e2 : bits .or .u32 ((a + b * 256 : Nat) : Int) ((c : Int) * 65536) = ((a + b * 256 + c * 65536 : Nat) : Int) := by
    have := or_u32 (a + b * 256) (c * 65536) (by omega) (by omega)
    rw [or_nat (a + b * 256) c 16 (by omega)] at this
    exact this
  have e3 : bits .or .u32 ((a + b * 256 + c * 65536 : Nat) : Int) ((d : Int) * 16777216) = ((a + b * 256 + c * 65536 + d * 16777216 : Nat) : Int) := by
    have := or_u32 (a + b * 256 + c * 65536) (d * 16777216) (by omega) (by omega)
    rw [or_nat (a + b * 256 + c * 65536) d 24 (by omega)] at this
    exact this
  rw [e1, e2, e3]
  omega
set_option maxHeartbeats 2000000 in
theorem load_any (lg : Bool) (hN : NoteOk 70 false lg) (a g cap x n : Nat) (bs : List Int) (tv : Value) (ts : List (Int × Bool)) (w : World) (hS : MemS w a g cap bs lg tv ts) (hx : x < 4294967296) (hn : n ≤ 4) :
    Calls Tryd.prog 61 #[.pointer (some ⟨a, 0, none⟩), .int .u32 x, .int .i64 n] w fun e w' => e = .returned (.int .u32 (n4 (rdL bs x n))) ∧
      (∃ tv', MemS w' a g cap bs lg tv' (lgL lg ts (tcs x n bs.length false)) ∧ (∀ j, tv'.ownBlock = some j → tv.ownBlock = some j ∨ w.heap.size ≤ j)) ∧ Kp (Foot a g tv) w w' := by
  have hM := made_yes a w ((obj_cell hS.obj 0).trans rfl)
  have hwf := hS.wf
  have hpb := hS.pw.bd
  have hA0 := hS.kept (Kp.alloc (S := fun _ => False) w (.cells #[.int .u8 0, .int .u8 0, .int .u8 0, .int .u8 0] 80)) (fun _ _ h => h)
  have hsz : (w.alloc (.cells #[.int .u8 0, .int .u8 0, .int .u8 0, .int .u8 0] 80)).heap.size = w.heap.size + 1 := by simp
  have hR := read_any lg hN a g cap w.heap.size 4 x n bs (List.replicate n 0) (bv (List.replicate (4 - n) 0)) 80 tv ts _ hA0 hx (by omega)
    (by rw [heap_alloc_new, ← bv_append, List.replicate_append_replicate, show n + (4 - n) = 4 by omega]; rfl) (by simp) (by omega) (by decide) (fun h => by have := hS.lt _ h; omega)
  have hR2 : Calls Tryd.prog 63 #[.pointer (some ⟨a, 0, none⟩), .int .u32 x, .slice (some ⟨w.heap.size, 0, none⟩) n 4] (w.alloc (.cells #[.int .u8 0, .int .u8 0, .int .u8 0, .int .u8 0] 80)) fun e w1 => e = .returned (.tuple #[]) ∧
      w1.cell? ⟨w.heap.size, 0, none⟩ = some (.int .u8 ((rdL bs x n).getD 0 0)) ∧ w1.cell? ⟨w.heap.size, 1, none⟩ = some (.int .u8 ((rdL bs x n).getD 1 0)) ∧ w1.cell? ⟨w.heap.size, 2, none⟩ = some (.int .u8 ((rdL bs x n).getD 2 0)) ∧ w1.cell? ⟨w.heap.size, 3, none⟩ = some (.int .u8 ((rdL bs x n).getD 3 0)) ∧
      Hid ((∃ tv', MemS w1 a g cap bs lg tv' (lgL lg ts (tcs x n bs.length false)) ∧ (∀ j, tv'.ownBlock = some j → tv.ownBlock = some j ∨ w.heap.size ≤ j)) ∧ Kp (Foot a g tv) w w1) := hR.mono fun e w1 ⟨he, ⟨tv', h1, h2⟩, h3, h4⟩ => by
    have hc : ∀ i, i < 4 → w1.cell? ⟨w.heap.size, i, none⟩ = some (.int .u8 ((rdL bs x n).getD i 0)) := fun i hi => by
      rw [obj_cell h4 i, ← bv_append]
      by_cases hin : i < n
      · simp [bv, List.getElem?_append, rdL_len, hin]
      · have e1 : i - n < 4 - n := by omega
        simp [bv, List.getElem?_append, rdL_len, hin, e1]
    refine ⟨he, hc 0 (by decide), hc 1 (by decide), hc 2 (by decide), hc 3 (by decide), ⟨tv', h1, fun j hj => (h2 j hj).imp id (fun h => by omega)⟩, (Kp.alloc w _).trans h3 ?_⟩
    intro i hi h
    rcases h with h | h
    · exact h
    · omega
  have hb : ∀ i, 0 ≤ (rdL bs x n).getD i 0 ∧ (rdL bs x n).getD i 0 ≤ 255 := fun i => by
    by_cases hi : i < n
    · rw [rdL_get _ _ _ _ hi]
      exact hwf _ (getD_mem (Nat.mod_lt _ (by omega)))
    · rw [List.getD_eq_getElem?_getD, List.getElem?_eq_none (by rw [rdL_len]; omega)]; exact ⟨by decide, by decide⟩
  have hsl := fun W b => slice4 W b n hn
  obtain ⟨p0, q0⟩ := hb 0
  obtain ⟨p1, q1⟩ := hb 1
  obtain ⟨p2, q2⟩ := hb 2
  obtain ⟨p3, q3⟩ := hb 3
  have HR := hidS hR2
  unfold n4
  generalize (rdL bs x n).getD 0 0 = v0 at *
  generalize (rdL bs x n).getD 1 0 = v1 at *
  generalize (rdL bs x n).getD 2 0 = v2 at *
  generalize (rdL bs x n).getD 3 0 = v3 at *
  clear hR hR2 hA0 hS hN hwf hsz hb
  go_enter Tryd.func61, Tryd.ntmps61
  go_wp2_with (first
    | (go_at_call 24; with_reducible refine hM.mono ?_; rintro e wq ⟨rfl, hq⟩; subst wq)
    | (go_at_call 63; with_reducible refine HR.out.mono ?_; rintro e w1 ⟨rfl, c0, c1, c2, c3, HQ⟩)
    | fail)
  go_ret
  exact ⟨ret_int (or4 v0 v1 v2 v3 p0 q0 p1 q1 p2 q2 p3 q3), HQ.out.1, HQ.out.2⟩
/-- the lowest bytes of a word -/
def by4 (v : Int) : List Int := [v % 256, v / 256 % 256, v / 65536 % 256, v / 16777216]
theorem by4_wf (v : Int) (h0 : 0 ≤ v) (h1 : v < 4294967296) : ∀ z ∈ by4 v, 0 ≤ z ∧ z ≤ 255 := by
  intro z hz
  simp only [by4, List.mem_cons, List.not_mem_nil, or_false] at hz
  rcases hz with rfl | rfl | rfl | rfl <;> omega
set_option maxHeartbeats 2000000 in
theorem store_any (lg : Bool) (hN : NoteOk 67 true lg) (a g cap x n : Nat) (v : Int) (bs : List Int) (tv : Value) (ts : List (Int × Bool)) (w : World) (hS : MemS w a g cap bs lg tv ts) (hx : x < 4294967296) (hn : n ≤ 4) (hv : 0 ≤ v ∧ v < 4294967296) :
    Calls Tryd.prog 25 #[.pointer (some ⟨a, 0, none⟩), .int .u32 x, .int .u32 v, .int .i64 n] w fun e w' => e = .returned (.tuple #[]) ∧
      (∃ tv', MemS w' a g cap (wrL bs x ((by4 v).take n)) lg tv' (lgL lg ts (tcs x n bs.length true)) ∧ (∀ j, tv'.ownBlock = some j → tv.ownBlock = some j ∨ w.heap.size ≤ j)) ∧ Kp (Foot a g tv) w w' := by
  obtain ⟨v0, v1⟩ := hv
  have hM := made_yes a w ((obj_cell hS.obj 0).trans rfl)
  have hsl := fun W b => slice4 W b n hn
  have hW : ∀ W, W.heap.size = w.heap.size + 1 → Kp (fun _ => False) w W → W.heap[w.heap.size]? = some (.cells (bv (by4 v)).toArray 80 (0, 0)) → Calls Tryd.prog 56 #[.pointer (some ⟨a, 0, none⟩), .int .u32 x, .slice (some ⟨w.heap.size, 0, none⟩) n 4] W fun e w1 => e = .returned (.tuple #[]) ∧
      Hid ((∃ tv', MemS w1 a g cap (wrL bs x ((by4 v).take n)) lg tv' (lgL lg ts (tcs x n bs.length true)) ∧ (∀ j, tv'.ownBlock = some j → tv.ownBlock = some j ∨ w.heap.size ≤ j)) ∧ Kp (Foot a g tv) w w1) := fun W hz hK hB => by
    have hl4 : ((by4 v).take n).length = n := by simp [by4]; omega
    have := write_any lg hN a g cap 4 x n w.heap.size 0 (some ⟨w.heap.size, 0, none⟩) bs ((by4 v).take n) tv ts W (hS.kept hK (fun _ _ h => h)) hx (by omega) hl4 (by omega) (fun z hz => by4_wf v v0 v1 z (List.mem_of_mem_take hz))
      (fun _ => ⟨rfl, by omega, fun i hi => by
        rw [hl4] at hi
        have h4 : i < 4 := by omega
        rw [obj_cell hB (0 + i), Nat.zero_add]
        have hb4 : i < (by4 v).length := by simp [by4]; omega
        simp [bv, hb4, hi]⟩) (fun h => by have := hS.lt _ h; omega)
    exact this.mono fun e w1 ⟨he, ⟨tv', h1, h2⟩, h3⟩ => ⟨he, ⟨tv', h1, fun j hj => (h2 j hj).imp id (fun h => by omega)⟩, (hK.mono (S' := Foot a g tv) (fun _ _ h => h.elim)).trans h3 (fun _ _ h => h)⟩
  have hW1 := hW (w.alloc (.cells #[.int .u8 (v % 256), .int .u8 (v / 256 % 256), .int .u8 (v / 65536 % 256), .int .u8 (v / 16777216)] 80)) (by simp) (Kp.alloc w _) (heap_alloc_new w _)
  have HW := hidS hW1
  clear hW hW1 hN hS
  go_enter Tryd.func25, Tryd.ntmps25
  go_wp2_with (first
    | (go_at_call 24; with_reducible refine hM.mono ?_; rintro e wq ⟨rfl, hq⟩; subst wq)
    | (go_at_call 56; with_reducible refine HW.out.mono ?_; rintro e w1 ⟨rfl, HQ⟩)
    | fail)
  go_end0
  exact ⟨rfl, HQ.out.1, HQ.out.2⟩
end Go.Proofs.YtnjglagfpghbjaaDoor
namespace Go.Proofs.YtnjglagfpghbjaaDoor
open Go.RowKit Go.WideShapes
set_option maxRecDepth 100000

theorem own_base {w : World} {B B' e sz n : Nat} {v : Value} {xs : List Value} (h : w.ownsRow B e sz v n xs) (hb : B' ≤ B) : w.ownsRow B' e sz v n xs := by
  refine ⟨h.1, ?_⟩
  rcases h.2 with h2 | ⟨g, cap, cur, e1, e2, e3⟩
  · exact .inl h2
  · exact .inr ⟨g, cap, cur, e1, Nat.le_trans hb e2, e3⟩
set_option maxHeartbeats 1000000 in
theorem hold_any (g cap : Nat) (bs : List Int) (w : World) (hrow : w.ownsRow 0 5 1 (.slice (some ⟨g, 0, none⟩) bs.length cap) bs.length (bv bs)) (hp : Pw bs.length) (hwf : ∀ z ∈ bs, 0 ≤ z ∧ z ≤ 255) :
    Calls Tryd.prog 59 #[.slice (some ⟨g, 0, none⟩) bs.length cap] w fun e w' => e = .returned (.pointer (some ⟨w.heap.size, 0, none⟩)) ∧ MemS w' w.heap.size g cap bs false (.slice none 0 0) [] ∧ Below w.heap.size w w' := by
  go_enter Tryd.func59, Tryd.ntmps59
  go_wp2
  go_ret
  have hgl := (hrow.lt g rfl).2
  have hb : Below w.heap.size w (w.alloc (.cells #[.pointer (some ⟨w.heap.size, 0, none⟩), .slice (some ⟨g, 0, none⟩) bs.length cap, .bool false, .slice none 0 0] 52)) := (Below.refl _ _).alloc (Nat.le_refl _) _
  exact ⟨rfl, ⟨heap_alloc_new w _, (Kp.ofBelow (S := fun _ => False) hb).own hrow (fun _ _ h => h), World.ownsRow_nil _ _ _ _, by omega, by simp [Value.ownBlock], by simp [Value.ownBlock], hp, hwf, by simp⟩, hb⟩
theorem make_any (kl : IntKind) (n : Nat) (hn : n ≤ 70000) (w : World) : ∃ w', (Instr.makeSlice 32 (.int kl (n : Int)) (.int kl (n : Int))).run Tryd.prog w = .ok (.slice (some ⟨w.heap.size, 0, none⟩) n n) w' ∧
    w'.ownsRow w.heap.size 5 1 (.slice (some ⟨w.heap.size, 0, none⟩) n n) n (bv (List.replicate n 0)) ∧ Below w.heap.size w w' := by
  obtain ⟨i0, hi, hz0, hz1, hz2⟩ := info_parts Tryd.info5
  obtain ⟨w', h1, h2, h3⟩ := run_make_full (P := Tryd.prog) w w.heap.size 32 5 i0 (.int .u8 0) 1 Tryd.underlying32 hi hz0 hz1 kl kl n (by rw [hz2]; omega) (by unfold maxLen; omega) (Nat.le_refl _)
  refine ⟨w', h1, ?_, ⟨h3.os, h3.tape, h3.output, h3.size, fun k hk => h3.block k hk (by simp)⟩⟩
  rw [Nat.mul_one, show (Value.int IntKind.u8 0).cells = #[.int .u8 0] from rfl, toList_madeCells_one] at h2
  rw [show bv (List.replicate n 0) = List.replicate n (Value.int .u8 0) by simp [bv]]
  exact h2
set_option maxHeartbeats 1000000 in
theorem new8_any (w : World) :
    Calls Tryd.prog 27 #[.int .i64 8] w fun e w' => ∃ a g cap, e = .returned (.tuple #[.pointer (some ⟨a, 0, none⟩), .int .i64 0]) ∧ MemS w' a g cap (List.replicate 256 0) false (.slice none 0 0) [] ∧ Below w.heap.size w w' ∧ w.heap.size ≤ a ∧ w.heap.size ≤ g := by
  obtain ⟨w1, hm, hrow, hb⟩ := make_any .i64 256 (by decide) w
  have hz : (((256 : Nat)) : Int) = 256 := rfl
  rw [hz] at hm
  have hH := hold_any w.heap.size 256 (List.replicate 256 0) w1 (by rw [List.length_replicate]; exact own_base hrow (Nat.zero_le _)) (by rw [List.length_replicate]; exact .inl rfl) (by intro z hz; rw [List.eq_of_mem_replicate hz]; decide)
  rw [List.length_replicate] at hH
  have HH := hidS hH
  have HB := hidS hb
  clear hH hrow hb hz
  go_enter Tryd.func27, Tryd.ntmps27
  go_wp2_with (first
    | (go_at_call 59; with_reducible refine HH.out.mono ?_; rintro e w2 ⟨rfl, hq1, hq2⟩; have HQ1 := hidS hq1; have HQ2 := hidS hq2; clear hq1 hq2)
    | fail)
  go_ret2
  exact ⟨_, _, _, rfl, HQ1.out, HB.out.trans (HQ2.out.mono HB.out.size), HB.out.size, Nat.le_refl _⟩
set_option maxHeartbeats 1000000 in
theorem ones_any (n : Nat) (w : World) (h : Pw n) : Calls Tryd.prog 74 #[.int .u64 n] w fun e w' => e = .returned (.int .i64 1) ∧ w' = w := by
  rcases h with rfl | rfl | rfl | rfl | rfl | rfl | rfl | rfl | rfl
  all_goals
    go_enter Tryd.func74, Tryd.ntmps74
    go_wp2
    go_ret
    exact ⟨ret_int (by kernel_rfl), rfl⟩
end Go.Proofs.YtnjglagfpghbjaaDoor
namespace Go.Proofs.YtnjglagfpghbjaaDoor
open Go.RowKit Go.WideShapes
set_option maxRecDepth 100000

theorem onesc_any (n : Nat) (w : World) (h : Pw n) : Calls Tryd.prog 69 #[.int .u64 n] w fun e w' => e = .returned (.int .i64 1) ∧ w' = w := by
  have hO := ones_any n w h
  go_enter Tryd.func69, Tryd.ntmps69
  go_wp2_with (first
    | (go_at_call 74; with_reducible refine hO.mono ?_; rintro e wq ⟨rfl, hq⟩; subst wq)
    | fail)
  go_ret
  exact ⟨rfl, rfl⟩
theorem size_any (n : Nat) (w : World) (h : Pw n) : Calls Tryd.prog 60 #[.int .i64 n] w fun e w' => e = .returned (.bool true) ∧ w' = w := by
  have hO := onesc_any n w h
  have hb := h.bd
  have b1 : (256 : Int) ≤ (n : Int) := by omega
  have b2 : (n : Int) ≤ 65536 := by omega
  clear h
  go_enter Tryd.func60, Tryd.ntmps60
  go_wp2_with (first
    | (go_at_call 69; with_reducible refine hO.mono ?_; rintro e wq ⟨rfl, hq⟩; subst wq)
    | fail)
  go_ret
  exact ⟨rfl, rfl⟩
/-- a segment whose log is off, all of whose blocks lie from B on -/
def Seg (B : Nat) (w : World) (a : Nat) (bs : List Int) : Prop := ∃ g cap tv ts, MemS w a g cap bs false tv ts ∧ B ≤ a ∧ B ≤ g ∧ ∀ k, tv.ownBlock = some k → B ≤ k
set_option maxHeartbeats 1000000 in
theorem from_any (ao : Option Addr) (cap : Nat) (zs : List Int) (w : World) (hp : Pw zs.length) (hwf : ∀ z ∈ zs, 0 ≤ z ∧ z ≤ 255) (hr : Reads w ao zs w.heap.size) :
    Calls Tryd.prog 30 #[.slice ao zs.length cap] w fun e w' => ∃ a, e = .returned (.tuple #[.pointer (some ⟨a, 0, none⟩), .int .i64 0]) ∧ Seg w.heap.size w' a zs ∧ Below w.heap.size w w' := by
  have hb := hp.bd
  have hZ := size_any zs.length w hp
  have hC := clone_any ao cap zs w (by omega) (fun e => by obtain ⟨_, _, e2, _⟩ := hr (by omega); rw [e] at e2; cases e2) hr
  have hC2 : Calls Tryd.prog 53 #[.slice ao zs.length cap] w fun e w1 => ∃ g c, e = .returned (.slice (some ⟨g, 0, none⟩) zs.length c) ∧ Hid (w1.ownsRow w.heap.size 5 1 (.slice (some ⟨g, 0, none⟩) zs.length c) zs.length (bv zs) ∧ Below w.heap.size w w1) := hC.mono fun e w1 ⟨v, he, ho, hb⟩ => by
    obtain ⟨g, c, rfl, _⟩ := own_form ho (by omega)
    exact ⟨g, c, he, ho, hb⟩
  have hH := fun g c W ho => hold_any g c zs W ho hp hwf
  have HC := hidS hC2
  have HH := hidS hH
  clear hC hC2 hH hr hwf hp
  go_enter Tryd.func30, Tryd.ntmps30
  go_wp2_with (first
    | (go_at_call 60; with_reducible refine hZ.mono ?_; rintro e wq ⟨rfl, hq⟩; subst wq)
    | (go_at_call 53; with_reducible refine HC.out.mono ?_; rintro e w1 ⟨g, c, rfl, HQ⟩)
    | (go_at_call 59; with_reducible refine (HH.out _ _ _ (own_base HQ.out.1 (Nat.zero_le _))).mono ?_; rintro e w2 ⟨rfl, hq1, hq2⟩; have HQ1 := hidS hq1; have HQ2 := hidS hq2; clear hq1 hq2)
    | fail)
  go_ret2
  have hgB := (HQ.out.1.lt g rfl).1
  exact ⟨_, rfl, ⟨g, c, _, _, HQ1.out, HQ.out.2.size, hgB, fun k h => by simp [Value.ownBlock] at h⟩, HQ.out.2.trans (HQ2.out.mono HQ.out.2.size)⟩
theorem new8s_any (w : World) : Calls Tryd.prog 27 #[.int .i64 8] w fun e w' => ∃ a, e = .returned (.tuple #[.pointer (some ⟨a, 0, none⟩), .int .i64 0]) ∧ Seg w.heap.size w' a (List.replicate 256 0) ∧ Below w.heap.size w w' :=
  (new8_any w).mono fun e w' ⟨a, g, cap, he, hS, hB, ha, hg⟩ => ⟨a, he, ⟨g, cap, _, _, hS, ha, hg, fun k h => by simp [Value.ownBlock] at h⟩, hB⟩
theorem Seg.len {B : Nat} {w : World} {a : Nat} {bs : List Int} (h : Seg B w a bs) : Pw bs.length := by
  obtain ⟨_, _, _, _, h, _⟩ := h; exact h.pw
theorem Seg.wf {B : Nat} {w : World} {a : Nat} {bs : List Int} (h : Seg B w a bs) : ∀ z ∈ bs, 0 ≤ z ∧ z ≤ 255 := by
  obtain ⟨_, _, _, _, h, _⟩ := h; exact h.wf
theorem Seg.after {B : Nat} {w w' : World} {a g cap : Nat} {bs bs' : List Int} {tv : Value} {ts : List (Int × Bool)} (_h : MemS w a g cap bs false tv ts) (ha : B ≤ a) (hg : B ≤ g) (ht : ∀ k, tv.ownBlock = some k → B ≤ k) (hB : B ≤ w.heap.size)
    (h2 : ∃ tv', MemS w' a g cap bs' false tv' ts ∧ (∀ j, tv'.ownBlock = some j → tv.ownBlock = some j ∨ w.heap.size ≤ j)) (hk : Kp (Foot a g tv) w w') : Seg B w' a bs' ∧ Below B w w' := by
  obtain ⟨tv', h3, h4⟩ := h2
  refine ⟨⟨g, cap, tv', ts, h3, ha, hg, fun k hk => (h4 k hk).elim (ht k) (fun h => by omega)⟩, hk.below hB ?_⟩
  rintro i (h | h | h)
  · omega
  · omega
  · exact ht i h
theorem load1_any (B a x : Nat) (bs : List Int) (w : World) (hS : Seg B w a bs) (hB : B ≤ w.heap.size) (hx : x < 4294967296) :
    Calls Tryd.prog 36 #[.pointer (some ⟨a, 0, none⟩), .int .u32 x] w fun e w' => e = .returned (.int .u32 (n4 (rdL bs x 1))) ∧ Seg B w' a bs ∧ Below B w w' := by
  obtain ⟨g, cap, tv, ts, h, ha, hg, ht⟩ := hS
  have hL : Calls Tryd.prog 61 #[.pointer (some ⟨a, 0, none⟩), .int .u32 x, .int .i64 1] w fun e w' => e = .returned (.int .u32 (n4 (rdL bs x 1))) ∧ Seg B w' a bs ∧ Below B w w' :=
    (load_any false (note_ok_off _ _) a g cap x 1 bs tv ts w h hx (by decide)).mono fun e w' ⟨he, h1, h2⟩ => ⟨he, Seg.after h ha hg ht hB h1 h2⟩
  clear h
  go_enter Tryd.func36, Tryd.ntmps36
  go_wp2_with (first
    | (go_at_call 61; with_reducible refine hL.mono ?_; rintro e w1 ⟨rfl, hq1, hq2⟩)
    | fail)
  go_ret
  exact ⟨rfl, hq1, hq2⟩
theorem store1_any (B a x : Nat) (v : Int) (bs : List Int) (w : World) (hS : Seg B w a bs) (hB : B ≤ w.heap.size) (hx : x < 4294967296) (hv : 0 ≤ v ∧ v < 4294967296) :
    Calls Tryd.prog 13 #[.pointer (some ⟨a, 0, none⟩), .int .u32 x, .int .u32 v] w fun e w' => e = .returned (.tuple #[]) ∧ Seg B w' a (wrL bs x ((by4 v).take 1)) ∧ Below B w w' := by
  obtain ⟨g, cap, tv, ts, h, ha, hg, ht⟩ := hS
  have hL : Calls Tryd.prog 25 #[.pointer (some ⟨a, 0, none⟩), .int .u32 x, .int .u32 v, .int .i64 1] w fun e w' => e = .returned (.tuple #[]) ∧ Hid (Seg B w' a (wrL bs x ((by4 v).take 1)) ∧ Below B w w') :=
    (store_any false (note_ok_off _ _) a g cap x 1 v bs tv ts w h hx (by decide) hv).mono fun e w' ⟨he, h1, h2⟩ => ⟨he, Seg.after h ha hg ht hB h1 h2⟩
  clear h hv
  go_enter Tryd.func13, Tryd.ntmps13
  go_wp2_with (first
    | (go_at_call 25; with_reducible refine hL.mono ?_; rintro e w1 ⟨rfl, HQ⟩)
    | fail)
  go_end0
  exact ⟨rfl, HQ.out.1, HQ.out.2⟩
theorem load2_any (B a x : Nat) (bs : List Int) (w : World) (hS : Seg B w a bs) (hB : B ≤ w.heap.size) (hx : x < 4294967296) :
    Calls Tryd.prog 38 #[.pointer (some ⟨a, 0, none⟩), .int .u32 x] w fun e w' => e = .returned (.int .u32 (n4 (rdL bs x 2))) ∧ Seg B w' a bs ∧ Below B w w' := by
  obtain ⟨g, cap, tv, ts, h, ha, hg, ht⟩ := hS
  have hL : Calls Tryd.prog 61 #[.pointer (some ⟨a, 0, none⟩), .int .u32 x, .int .i64 2] w fun e w' => e = .returned (.int .u32 (n4 (rdL bs x 2))) ∧ Seg B w' a bs ∧ Below B w w' :=
    (load_any false (note_ok_off _ _) a g cap x 2 bs tv ts w h hx (by decide)).mono fun e w' ⟨he, h1, h2⟩ => ⟨he, Seg.after h ha hg ht hB h1 h2⟩
  clear h
  go_enter Tryd.func38, Tryd.ntmps38
  go_wp2_with (first
    | (go_at_call 61; with_reducible refine hL.mono ?_; rintro e w1 ⟨rfl, hq1, hq2⟩)
    | fail)
  go_ret
  exact ⟨rfl, hq1, hq2⟩
theorem store2_any (B a x : Nat) (v : Int) (bs : List Int) (w : World) (hS : Seg B w a bs) (hB : B ≤ w.heap.size) (hx : x < 4294967296) (hv : 0 ≤ v ∧ v < 4294967296) :
    Calls Tryd.prog 40 #[.pointer (some ⟨a, 0, none⟩), .int .u32 x, .int .u32 v] w fun e w' => e = .returned (.tuple #[]) ∧ Seg B w' a (wrL bs x ((by4 v).take 2)) ∧ Below B w w' := by
  obtain ⟨g, cap, tv, ts, h, ha, hg, ht⟩ := hS
  have hL : Calls Tryd.prog 25 #[.pointer (some ⟨a, 0, none⟩), .int .u32 x, .int .u32 v, .int .i64 2] w fun e w' => e = .returned (.tuple #[]) ∧ Hid (Seg B w' a (wrL bs x ((by4 v).take 2)) ∧ Below B w w') :=
    (store_any false (note_ok_off _ _) a g cap x 2 v bs tv ts w h hx (by decide) hv).mono fun e w' ⟨he, h1, h2⟩ => ⟨he, Seg.after h ha hg ht hB h1 h2⟩
  clear h hv
  go_enter Tryd.func40, Tryd.ntmps40
  go_wp2_with (first
    | (go_at_call 25; with_reducible refine hL.mono ?_; rintro e w1 ⟨rfl, HQ⟩)
    | fail)
  go_end0
  exact ⟨rfl, HQ.out.1, HQ.out.2⟩
theorem load4_any (B a x : Nat) (bs : List Int) (w : World) (hS : Seg B w a bs) (hB : B ≤ w.heap.size) (hx : x < 4294967296) :
    Calls Tryd.prog 39 #[.pointer (some ⟨a, 0, none⟩), .int .u32 x] w fun e w' => e = .returned (.int .u32 (n4 (rdL bs x 4))) ∧ Seg B w' a bs ∧ Below B w w' := by
  obtain ⟨g, cap, tv, ts, h, ha, hg, ht⟩ := hS
  have hL : Calls Tryd.prog 61 #[.pointer (some ⟨a, 0, none⟩), .int .u32 x, .int .i64 4] w fun e w' => e = .returned (.int .u32 (n4 (rdL bs x 4))) ∧ Seg B w' a bs ∧ Below B w w' :=
    (load_any false (note_ok_off _ _) a g cap x 4 bs tv ts w h hx (by decide)).mono fun e w' ⟨he, h1, h2⟩ => ⟨he, Seg.after h ha hg ht hB h1 h2⟩
  clear h
  go_enter Tryd.func39, Tryd.ntmps39
  go_wp2_with (first
    | (go_at_call 61; with_reducible refine hL.mono ?_; rintro e w1 ⟨rfl, hq1, hq2⟩)
    | fail)
  go_ret
  exact ⟨rfl, hq1, hq2⟩
theorem store4_any (B a x : Nat) (v : Int) (bs : List Int) (w : World) (hS : Seg B w a bs) (hB : B ≤ w.heap.size) (hx : x < 4294967296) (hv : 0 ≤ v ∧ v < 4294967296) :
    Calls Tryd.prog 41 #[.pointer (some ⟨a, 0, none⟩), .int .u32 x, .int .u32 v] w fun e w' => e = .returned (.tuple #[]) ∧ Seg B w' a (wrL bs x ((by4 v).take 4)) ∧ Below B w w' := by
  obtain ⟨g, cap, tv, ts, h, ha, hg, ht⟩ := hS
  have hL : Calls Tryd.prog 25 #[.pointer (some ⟨a, 0, none⟩), .int .u32 x, .int .u32 v, .int .i64 4] w fun e w' => e = .returned (.tuple #[]) ∧ Hid (Seg B w' a (wrL bs x ((by4 v).take 4)) ∧ Below B w w') :=
    (store_any false (note_ok_off _ _) a g cap x 4 v bs tv ts w h hx (by decide) hv).mono fun e w' ⟨he, h1, h2⟩ => ⟨he, Seg.after h ha hg ht hB h1 h2⟩
  clear h hv
  go_enter Tryd.func41, Tryd.ntmps41
  go_wp2_with (first
    | (go_at_call 25; with_reducible refine hL.mono ?_; rintro e w1 ⟨rfl, HQ⟩)
    | fail)
  go_end0
  exact ⟨rfl, HQ.out.1, HQ.out.2⟩
end Go.Proofs.YtnjglagfpghbjaaDoor
