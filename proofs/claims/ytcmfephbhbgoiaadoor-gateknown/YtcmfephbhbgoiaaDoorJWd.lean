import Derived.Test.YtcmfephbhbgoiaaDoorELm
import Derived.Test.YtcmfephbhbgoiaaDoorJAp
import Derived.Test.YtcmfephbhbgoiaaDoorJGl
namespace Go.Proofs.YtcmfephbhbgoiaaDoor
open Go.RowKit Go.WideShapes
set_option maxRecDepth 100000
theorem Tryd.infoD : (Tryd.prog.info? 23).map (fun i => (i.zero, i.size, i.bytes)) = some (some (.int .u32 0), 1, 4) := by kernel_rfl
/-- words as values -/
def wv (L : List Int) : List Value := L.map (Value.int .u32)
theorem wv_set (L : List Int) (k : Nat) (z : Int) : (wv L).set k (.int .u32 z) = wv (L.set k z) := by simp [wv, List.map_set]
theorem wv_len (L : List Int) : (wv L).length = L.length := by simp [wv]
theorem makew_any (n : Nat) (hn : n ≤ 64) (w : World) : ∃ w', (Instr.makeSlice 24 (.int .i64 (n : Int)) (.int .i64 (n : Int))).run Tryd.prog w = .ok (.slice (some ⟨w.heap.size, 0, none⟩) n n) w' ∧
    w'.ownsRow w.heap.size 23 1 (.slice (some ⟨w.heap.size, 0, none⟩) n n) n (wv (List.replicate n 0)) ∧ Below w.heap.size w w' := by
  obtain ⟨i0, hi, hz0, hz1, hz2⟩ := info_parts Tryd.infoD
  obtain ⟨w', h1, h2, h3⟩ := run_make_full (P := Tryd.prog) w w.heap.size 24 23 i0 (.int .u32 0) 1 Tryd.underlying24 hi hz0 hz1 .i64 .i64 n (by rw [hz2]; omega) (by unfold maxLen; omega) (Nat.le_refl _)
  refine ⟨w', h1, ?_, ⟨h3.os, h3.tape, h3.output, h3.size, fun k hk => h3.block k hk (by simp)⟩⟩
  rw [Nat.mul_one, show (Value.int IntKind.u32 0).cells = #[.int .u32 0] from rfl, toList_madeCells_one] at h2
  rw [show wv (List.replicate n 0) = List.replicate n (Value.int .u32 0) by simp [wv]]
  exact h2
/-- the words of a call -/
def wdL (bs : List Int) (x n : Nat) : List Int := (List.range n).map fun i => n4 (rdL bs ((x + 4 * i) % 4294967296) 4)
def wdK (bs : List Int) (x n k : Nat) : List Int := (wdL bs x n).take k ++ List.replicate (n - k) 0
theorem wdL_len (bs : List Int) (x n : Nat) : (wdL bs x n).length = n := by simp [wdL]
theorem wdK_len {bs : List Int} {x n k : Nat} (h : k ≤ n) : (wdK bs x n k).length = n := by simp [wdK, wdL_len]; omega
theorem wdK_set {bs : List Int} {x n k : Nat} (h : k < n) : (wdK bs x n k).set k (n4 (rdL bs ((x + 4 * k) % 4294967296) 4)) = wdK bs x n (k + 1) := by
  have e : List.replicate (n - k) (0 : Int) = 0 :: List.replicate (n - (k + 1)) 0 := by
    rw [show n - k = (n - (k + 1)) + 1 by omega, List.replicate_succ]
  have hl : k < (wdL bs x n).length := by rw [wdL_len]; exact h
  unfold wdK
  rw [e, List.set_append_right _ _ (by simp [wdL_len]; omega), List.length_take, wdL_len, Nat.min_eq_left (by omega), Nat.sub_self, List.set_cons_zero, List.take_succ_eq_append_getElem hl, List.append_assoc]
  simp [wdL]
theorem wdK_zero (bs : List Int) (x n : Nat) : wdK bs x n 0 = List.replicate n 0 := by simp [wdK]
theorem wdK_all (bs : List Int) (x n : Nat) : wdK bs x n n = wdL bs x n := by
  simp only [wdK, Nat.sub_self, List.replicate_zero, List.append_nil]
  exact List.take_of_length_le (by rw [wdL_len]; exact Nat.le_refl _)
/-- what loads leave of a segment -/
def LdS (w : World) (a g cap : Nat) (bs : List Int) (tv : Value) (ts : List (Int × Bool)) (wr : World) : Prop :=
  ∃ tv', MemS wr a g cap bs false tv' ts ∧ (∀ j, tv'.ownBlock = some j → tv.ownBlock = some j ∨ w.heap.size < j) ∧ Kp (Foot a g tv) w wr
theorem row_facts {w : World} {B g n c k : Nat} {L : List Int} (h : w.ownsRow B 23 1 (.slice (some ⟨g, 0, none⟩) n c) n (wv L)) (hl : L.length = n) (hk : k < n) : (∃ u, w.cell? ⟨g, k, none⟩ = some u) ∧ w.frozen? ⟨g, k, none⟩ = false := by
  refine ⟨?_, h.frozenAt k⟩
  rw [h.cellAt k (by omega)]
  exact ⟨_, List.getElem?_eq_getElem (by rw [wv_len, hl]; exact hk)⟩
theorem kp_own {S : Nat → Prop} {w w' : World} (h : Kp S w w') {B e sz n g l c : Nat} {xs : List Value} (ho : w.ownsRow B e sz (.slice (some ⟨g, 0, none⟩) l c) n xs) (hs : ¬ S g) : w'.ownsRow B e sz (.slice (some ⟨g, 0, none⟩) l c) n xs :=
  h.own ho (fun k e => by cases e; exact hs)
set_option maxHeartbeats 4000000 in
theorem loaded_any (a g cap x n : Nat) (bs : List Int) (tv : Value) (ts : List (Int × Bool)) (w : World) (h : MemS w a g cap bs false tv ts) (hn : n ≤ 15) :
    Calls Tryd.prog 26 #[.func (.func 20) #[.pointer (some ⟨a, 0, none⟩)] #[], .int .u32 x, .int .i64 n] w fun e w' => e = .returned (.slice (some ⟨w.heap.size, 0, none⟩) n n) ∧ LdS w a g cap bs tv ts w' ∧ w'.ownsRow w.heap.size 23 1 (.slice (some ⟨w.heap.size, 0, none⟩) n n) n (wv (wdL bs x n)) := by
  obtain ⟨w0, hmk, hrow, hb0⟩ := makew_any n (by omega) w
  rw [← wdK_zero bs x n] at hrow
  have hg0 : w.heap.size < w0.heap.size := (hrow.lt _ rfl).2
  have hst : LdS w a g cap bs tv ts w0 := ⟨tv, h.kept (S := fun _ => False) (Kp.ofBelow hb0) (fun _ _ h => h), fun j e => .inl e, Kp.ofBelow hb0⟩
  have hlt := h.lt
  go_enter Tryd.func26, Tryd.ntmps26
  go_wp2
  clear hmk
  go_loopw [13] (fun i wr => ∃ k : Nat, i = .int .i64 k ∧ k ≤ n ∧ LdS w a g cap bs tv ts wr ∧ w.heap.size < wr.heap.size ∧ wr.ownsRow w.heap.size 23 1 (.slice (some ⟨w.heap.size, 0, none⟩) n n) n (wv (wdK bs x n k))) (fun i _ => n - (intOf i).toNat)
  case atStart => exact ⟨0, rfl, Nat.zero_le _, hst, hg0, hrow⟩
  case round =>
    obtain ⟨k, rfl, hk, hL, hsz, hown⟩ := hrel
    clear hst hrow hb0 hg0
    by_cases hkn : k < n
    · have hd : decide ((k : Int) < n) = true := by simp; omega
      obtain ⟨tv', hM, ho, hkp⟩ := hL
      have hxx : ((x : Int) + 4 * (k : Int)) % 4294967296 = ((x + 4 * k) % 4294967296 : Nat) := by omega
      have hLd := load4_m false (note_ok_off _ _) a g cap ((x + 4 * k) % 4294967296) bs tv' ts wr hM (by omega)
      have HS := fjhid (wdK_set (bs := bs) (x := x) hkn)
      generalize (x + 4 * k) % 4294967296 = y at *
      have hnf : ¬ Foot a g tv' w.heap.size := by
        rintro (h1 | h1 | h1)
        · have := hlt a (.inl rfl); omega
        · have := hlt g (.inr (.inl rfl)); omega
        · rcases ho _ h1 with e | e
          · have := hlt _ (.inr (.inr e)); omega
          · omega
      have hWl : (wdK bs x n k).length = n := wdK_len hk
      go_wp2_with (go_at_call 20; with_reducible refine hLd.mono ?_; rintro e w2 ⟨rfl, hq1, hq2⟩; have how2 := kp_own hq2 hown hnf; obtain ⟨⟨u, hu⟩, hfz⟩ := row_facts how2 hWl hkn; have HQ1 := fjhid hq1; clear hq1)
      obtain ⟨hst2, hgr2⟩ := how2.stored k (.int .u32 (n4 (rdL bs y 4)))
      rw [wv_set, HS.out] at hst2
      obtain ⟨tv2, hM2, ho2⟩ := HQ1.out
      have hs2 := hq2.size
      have hkS : Kp (fun j => j = w.heap.size) w2 (w2.setCell ⟨w.heap.size, k, none⟩ (.int .u32 (n4 (rdL bs y 4)))) := Kp.setCell _ _ _ rfl
      have hft : ∀ i, i < w.heap.size → Foot a g tv' i → Foot a g tv i := by
        rintro i hi (h | h | h)
        · exact .inl h
        · exact .inr (.inl h)
        · rcases ho i h with e | e
          · exact .inr (.inr e)
          · omega
      go_roundw
      case rel =>
        refine ⟨k + 1, by go_num, hkn, ⟨tv2, hM2.kept hkS ?_, ?_, ?_⟩, by simp [World.setCell]; omega, hst2⟩
        · rintro i (h | h | h) e
          · have := hlt a (.inl rfl); omega
          · have := hlt g (.inr (.inl rfl)); omega
          · rcases ho2 i h with e2 | e2
            · exact hnf (.inr (.inr (by rw [e2, e])))
            · omega
        · intro j e
          rcases ho2 j e with e2 | e2
          · exact ho j e2
          · right; omega
        · exact (hkp.trans hq2 hft).trans hkS (fun i hi e => by omega)
      case measure => simp [intOf]; omega
    · have hd : decide ((k : Int) < n) = false := by simp; omega
      have hkk : k = n := by omega
      subst hkk
      rw [wdK_all] at hown
      go_wp2
      go_ret
      exact ⟨rfl, hL, hown⟩
set_option maxHeartbeats 1000000 in
theorem words_any (gg : Nat) (f : Int → Option Int) (a g cap sp k n : Nat) (bs : List Int) (tv : Value) (ts : List (Int × Bool)) (w : World) (hG : GtS w gg f) (h : MemS w a g cap bs false tv ts) (hl : bs.length = 256) (hT : Tab w) (hk : k < 4294967296) (hf : f k = some (n : Int)) (hn : n ≤ 15) :
    Calls Tryd.prog 9 #[.pointer (some ⟨gg, 0, none⟩), .pointer (some ⟨a, 0, none⟩), .int .u32 sp, .int .u32 k] w fun e w' => e = .returned (.tuple #[.slice (some ⟨w.heap.size, 0, none⟩) n n, .bool true]) ∧ LdS w a g cap bs tv ts w' ∧ w'.ownsRow w.heap.size 23 1 (.slice (some ⟨w.heap.size, 0, none⟩) n n) n (wv (wdL bs ((sp + 4) % 4294967296) n)) := by
  have hM := granted_any gg f k w hG hk
  rw [hf] at hM
  simp only [Option.getD_some, Option.isSome_some] at hM
  have hB := ismem_any a g cap bs false tv ts w h hl hT
  have hL := loaded_any a g cap ((sp + 4) % 4294967296) n bs tv ts w h hn
  have hx : ((sp : Int) + 4) % 4294967296 = ((sp + 4) % 4294967296 : Nat) := by omega
  have HL := fjhid hL
  clear hL
  generalize (sp + 4) % 4294967296 = x at *
  go_enter Tryd.func9, Tryd.ntmps9
  go_wp2_with (first
    | (go_at_call 8; with_reducible refine hM.mono ?_; rintro e wq ⟨rfl, hq⟩; subst wq)
    | (go_at_call 25; with_reducible refine hB.mono ?_; rintro e wq ⟨rfl, hq⟩; subst wq)
    | (go_at_call 26; with_reducible refine HL.out.mono ?_; rintro e w2 ⟨rfl, hq1, hq2⟩))
  go_ret2
  exact ⟨rfl, hq1, hq2⟩
/-- a gate and a segment share no block -/
theorem GtS.kp {w w' : World} {gg a g cap : Nat} {f : Int → Option Int} {bs : List Int} {lg : Bool} {ts : List (Int × Bool)} (h : GtS w gg f) (hM : MemS w a g cap bs lg (.slice none 0 0) ts) (hk : Kp (Foot a g (.slice none 0 0)) w w') : GtS w' gg f := by
  obtain ⟨b, h1, h2, h3, h4, h5⟩ := h
  have hs := hk.size
  have hlen := hM.pw.bd
  have hfoot : ∀ k, Foot a g (.slice none 0 0) k → k = a ∨ k = g := by
    rintro k (e | e | e)
    · exact .inl e
    · exact .inr e
    · simp [Value.ownBlock] at e
  have hg1 : w.cell? ⟨g, 1, none⟩ = (bv bs)[1]? := hM.row.cellAt 1 (by omega)
  have hg2 : (bv bs)[1]? = some (.int .u8 (bs.getD 1 0)) := by
    have hl : 1 < bs.length := by omega
    simp [bv, List.getElem?_eq_getElem hl, List.getD]
  have n1 : ¬ Foot a g (.slice none 0 0) gg := fun e => by
    rcases hfoot _ e with rfl | rfl
    · have := (obj_cell hM.obj 1).symm.trans h4
      simp at this
    · rw [hg1, hg2] at h4
      cases h4
  have hgc : ∃ cs t fr, w.heap[g]? = some (.cells cs t fr) := by
    rcases hM.row.2 with ⟨e, _⟩ | ⟨g', cap', cur, e, _, hh, _⟩
    · cases e
    · cases e
      exact ⟨_, _, _, hh⟩
  have n2 : ¬ Foot a g (.slice none 0 0) b := fun e => by
    obtain ⟨D, ⟨es, clock, hb, _⟩, _⟩ := h5
    rcases hfoot _ e with rfl | rfl
    · rw [hM.obj] at hb; cases hb
    · obtain ⟨cs, t, fr, hh⟩ := hgc
      rw [hh] at hb; cases hb
  exact ⟨b, by omega, by omega, (hk.cell (p := ⟨gg, 0, none⟩) h1 n1).trans h3, (hk.cell (p := ⟨gg, 1, none⟩) h1 n1).trans h4, h5.block (hk.block b h2 n2)⟩
end Go.Proofs.YtcmfephbhbgoiaaDoor
