import Derived.Test.YtcmfephbhbgoiaaDoorENof
namespace Go.Proofs.YtcmfephbhbgoiaaDoor
open Go.RowKit Go.WideShapes
set_option maxRecDepth 100000

def sliceLen : Value → Nat | .slice _ n _ => n | _ => 0
theorem bv_one' (L : List Int) : ∀ u ∈ bv L, u.oneCell' = true := by
  intro u hu; simp [bv] at hu; obtain ⟨z, _, rfl⟩ := hu; rfl
theorem info5s : (Tryd.prog.info? 5).map (·.size) = some 1 := by kernel_rfl
/-- the log behind a call that touches -/
def lgL (lg : Bool) (ts new : List (Int × Bool)) : List (Int × Bool) := if lg then (ts ++ new).take 65536 else ts
/-- what note does, with whatever it is handed -/
def NoteOk (F : Nat) (wr : Bool) (lg : Bool) : Prop := ∀ (a g cap bm ba x n : Nat) (bs : List Int) (tv : Value) (ts : List (Int × Bool)) (w : World), MemS w a g cap bs lg tv ts → x < 4294967296 → n ≤ 65536 →
    w.cell? ⟨bm, 0, none⟩ = some (.pointer (some ⟨a, 0, none⟩)) → w.cell? ⟨ba, 0, none⟩ = some (.int .u32 x) → ¬ Foot a g tv bm → ¬ Foot a g tv ba →
    Calls Tryd.prog 59 #[.pointer (some ⟨a, 0, none⟩), .int .i64 n, .func (.func F) #[] #[.pointer (some ⟨bm, 0, none⟩), .pointer (some ⟨ba, 0, none⟩)]] w fun e w' => e = .returned (.tuple #[]) ∧
      ∃ tv', MemS w' a g cap bs lg tv' (lgL lg ts (tcs x n bs.length wr)) ∧ Kp (Foot a g tv) w w' ∧ ∀ j, tv'.ownBlock = some j → tv.ownBlock = some j ∨ w.heap.size ≤ j
theorem note_ok_off (F : Nat) (wr : Bool) : NoteOk F wr false := fun a g cap bm ba x n bs tv ts w hS _ _ _ _ _ _ =>
  (note_off a n _ w ((obj_cell hS.obj 2).trans rfl)).mono fun e w' ⟨he, hw⟩ => ⟨he, tv, by rw [hw]; exact hS, by rw [hw]; exact Kp.refl _ _, fun j h => .inl h⟩
theorem rd_row (bs ds : List Int) (sp : List Value) (x j k pl n : Nat) (hl : ds.length = n) (hjk : j + k ≤ n) (hp : pl = (x + j) % bs.length) (hk : pl + k ≤ bs.length) :
    (((bv (rdL bs x j ++ ds.drop j) ++ sp).toArray.toList.take j ++ bv ((bs.drop pl).take k)) ++ (bv (rdL bs x j ++ ds.drop j) ++ sp).toArray.toList.drop (j + k)) = bv (rdL bs x (j + k) ++ ds.drop (j + k)) ++ sp := by
  have h1 : (bs.drop pl).take k = rdL bs (x + j) k := by
    rw [← rdL_chunk bs pl k hk]
    refine rdL_mod _ _ _ _ ?_
    rw [hp, Nat.mod_mod]
  have h2 : (bv (rdL bs x j ++ ds.drop j) ++ sp).take j = bv (rdL bs x j) := by
    rw [bv_append, List.append_assoc, List.take_append_of_le_length (by rw [bv_len, rdL_len]; exact Nat.le_refl _), List.take_of_length_le (by rw [bv_len, rdL_len]; exact Nat.le_refl _)]
  have h3 : (bv (rdL bs x j ++ ds.drop j) ++ sp).drop (j + k) = bv (ds.drop (j + k)) ++ sp := by
    rw [bv_append, List.append_assoc, List.drop_append, List.drop_eq_nil_of_le (by rw [bv_len, rdL_len]; omega), bv_len, rdL_len, List.nil_append, Nat.add_sub_cancel_left, List.drop_append_of_le_length (by rw [bv_len, List.length_drop]; omega)]
    simp [bv, ← List.map_drop]
  rw [List.toList_toArray, h2, h3, h1, rdL_add, bv_append, bv_append]
  simp
set_option maxHeartbeats 2000000 in
theorem read_any (lg : Bool) (hN : NoteOk 64 false lg) (a g cap d c x n : Nat) (bs ds : List Int) (sp : List Value) (t : TypeId) (tv : Value) (ts : List (Int × Bool)) (w : World) (hS : MemS w a g cap bs lg tv ts) (hx : x < 4294967296) (hn : n ≤ 65536)
    (hd : w.heap[d]? = some (.cells (bv ds ++ sp).toArray t (0, 0))) (hl : ds.length = n) (hc : n ≤ c) (_hc2 : c ≤ maxLen) (nd : ¬ Foot a g tv d) :
    Calls Tryd.prog 47 #[.pointer (some ⟨a, 0, none⟩), .int .u32 x, .slice (some ⟨d, 0, none⟩) n c] w fun e w' => e = .returned (.tuple #[]) ∧
      (∃ tv', MemS w' a g cap bs lg tv' (lgL lg ts (tcs x n bs.length false)) ∧ (∀ j, tv'.ownBlock = some j → tv.ownBlock = some j ∨ w.heap.size ≤ j)) ∧ Kp (fun k => Foot a g tv k ∨ k = d) w w' ∧ w'.heap[d]? = some (.cells (bv (rdL bs x n) ++ sp).toArray t (0, 0)) := by
  have haw := hS.lt a (.inl rfl)
  have hdw : d < w.heap.size := (Array.getElem?_eq_some_iff.1 hd).1
  have nF : ∀ k, w.heap.size ≤ k → ¬ Foot a g tv k := fun k hk hF => by have := hS.lt k hF; omega
  have hK0 : Kp (fun _ => False) w ((w.alloc (.cells #[.pointer (some ⟨a, 0, none⟩)] 32)).alloc (.cells #[.int .u32 x] 23)) := (Kp.alloc w _).trans (Kp.alloc _ _) (fun _ _ h => h)
  have hB0 : ((w.alloc (.cells #[.pointer (some ⟨a, 0, none⟩)] 32)).alloc (.cells #[.int .u32 x] 23)).heap[w.heap.size]? = some (.cells #[.pointer (some ⟨a, 0, none⟩)] 32) := by
    rw [Below.heap_alloc _ _ _ (by simp)]; exact heap_alloc_new w _
  have hB1 : ((w.alloc (.cells #[.pointer (some ⟨a, 0, none⟩)] 32)).alloc (.cells #[.int .u32 x] 23)).heap[w.heap.size + 1]? = some (.cells #[.int .u32 x] 23) := by
    have := heap_alloc_new (w.alloc (.cells #[.pointer (some ⟨a, 0, none⟩)] 32)) (.cells #[.int .u32 x] 23)
    simpa using this
  have hz0 : ((w.alloc (.cells #[.pointer (some ⟨a, 0, none⟩)] 32)).alloc (.cells #[.int .u32 x] 23)).heap.size = w.heap.size + 2 := by simp
  have hNo := hN a g cap w.heap.size (w.heap.size + 1) x n bs tv ts _ (hS.kept hK0 (fun _ _ h => h)) hx hn ((obj_cell hB0 0).trans rfl) ((obj_cell hB1 0).trans rfl) (nF _ (Nat.le_refl _)) (nF _ (Nat.le_succ _))
  have HN : Hid (Calls Tryd.prog 59 #[.pointer (some ⟨a, 0, none⟩), .int .i64 n, .func (.func 64) #[] #[.pointer (some ⟨w.heap.size, 0, none⟩), .pointer (some ⟨w.heap.size + 1, 0, none⟩)]] ((w.alloc (.cells #[.pointer (some ⟨a, 0, none⟩)] 32)).alloc (.cells #[.int .u32 x] 23)) fun e w1 => e = .returned (.tuple #[]) ∧
      w1.cell? ⟨w.heap.size, 0, none⟩ = some (.pointer (some ⟨a, 0, none⟩)) ∧ w1.cell? ⟨w.heap.size + 1, 0, none⟩ = some (.int .u32 x) ∧ w1.cell? ⟨a, 1, none⟩ = some (.slice (some ⟨g, 0, none⟩) bs.length cap) ∧
      Hid ((∃ tv', MemS w1 a g cap bs lg tv' (lgL lg ts (tcs x n bs.length false)) ∧ (∀ j, tv'.ownBlock = some j → tv.ownBlock = some j ∨ w.heap.size + 2 ≤ j)) ∧ Kp (Foot a g tv) w w1 ∧ w1.heap[d]? = some (.cells (bv ds ++ sp).toArray t (0, 0)) ∧ w.heap.size + 2 ≤ w1.heap.size)) := hNo.mono fun e w1 ⟨he, tv', hS1, hK1, hT1⟩ => by
    have e0 : w1.heap[w.heap.size]? = some (.cells #[.pointer (some ⟨a, 0, none⟩)] 32) := (hK1.block _ (by rw [hz0]; omega) (nF _ (Nat.le_refl _))).trans hB0
    have e1 : w1.heap[w.heap.size + 1]? = some (.cells #[.int .u32 x] 23) := (hK1.block _ (by rw [hz0]; omega) (nF _ (Nat.le_succ _))).trans hB1
    have hd1 : w1.heap[d]? = some (.cells (bv ds ++ sp).toArray t (0, 0)) := (hK1.block d (by rw [hz0]; omega) nd).trans ((hK0.block d hdw (fun h => h)).trans hd)
    rw [hz0] at hT1
    exact ⟨he, (obj_cell e0 0).trans rfl, (obj_cell e1 0).trans rfl, (obj_cell hS1.obj 1).trans rfl, ⟨tv', hS1, hT1⟩, (hK0.mono (S' := Foot a g tv) (fun _ _ h => h.elim)).trans hK1 (fun _ _ h => h), hd1, by have := hK1.size; rwa [hz0] at this⟩
  have hpw := hS.pw
  have hP := fun W h => place_any a g cap bs.length x W hx hpw h
  have hpb := hpw.bd
  clear hNo hK0 hB0 hB1 hz0 hS hd nF hN
  have HPW := hidS hpw
  have HND := hidS nd
  clear hpw nd
  go_enter Tryd.func47, Tryd.ntmps47
  go_wp2_with (first
    | (go_at_call 59; with_reducible refine HN.out.mono ?_; rintro e w1 ⟨rfl, c0, c1, ca, HQ⟩)
    | (go_at_call 61; with_reducible refine (hP _ ca).mono ?_; rintro e wq ⟨rfl, hq⟩; subst wq)
    | fail)
  obtain ⟨⟨tv', hS1, hT1⟩, hK1, hd1, hz1⟩ := HQ.out
  have hcN : bs.length ≤ cap := by
    rcases hS1.row.2 with ⟨e, _⟩ | ⟨g', cap', cur, e, _, _, hcc, _⟩
    · simp at e
    · simp only [Value.slice.injEq] at e
      rw [e.2.2]; exact hcc
  have HS1 := hidS hS1
  have HT1 := hidS hT1
  have HK1 := hidS hK1
  have HD1 := hidS hd1
  have HL := hidS hl
  clear hS1 hT1 hK1 hd1 HQ hP HN hl
  go_loopw [2, 6] (fun v p wr => ∃ (j m : Nat) (wo : Option Addr) (wc pl : Nat), j + m = n ∧ v = .slice wo m wc ∧ p = .int .u32 pl ∧ (0 < m → wo = some ⟨d, j, none⟩ ∧ wc = c - j ∧ pl = (x + j) % bs.length) ∧ Kp (fun k => k = d) w1 wr ∧ wr.heap[d]? = some (.cells (bv (rdL bs x j ++ ds.drop j) ++ sp).toArray t (0, 0)))
    (fun v _ _ => sliceLen v)
  case atStart => exact ⟨0, n, _, c, x % bs.length, Nat.zero_add _, rfl, by simp, fun _ => ⟨rfl, rfl, rfl⟩, Kp.refl _ _, by simpa [rdL] using HD1.out⟩
  case round =>
    obtain ⟨j, m, wo, wc, pl, hjm, rfl, rfl, hfs, hKr, hdr⟩ := hrel
    have HKr := hidS hKr
    have HDr := hidS hdr
    clear hKr hdr
    by_cases hm : 0 < m
    · obtain ⟨rfl, rfl, hpl⟩ := hfs hm
      have hplN : pl < bs.length := by rw [hpl]; exact Nat.mod_lt _ (by omega)
      have HPL := hidS hpl
      clear hpl hfs
      obtain ⟨k, hk⟩ : ∃ k, k = min m (bs.length - pl) := ⟨_, rfl⟩
      have hk0 : 0 < k := by omega
      have hkm : k ≤ m := by omega
      have hkN : pl + k ≤ bs.length := by omega
      have hkor : k = m ∨ pl + k = bs.length := by omega
      have HKM : Hid (k = Nat.min (bs.length - pl) m) := by
        show k = min (bs.length - pl) m
        omega
      have HOR := hidS hkor
      clear hk hkor
      have hdne : ∀ b, b ≠ d → b < w1.heap.size → wr.heap[b]? = w1.heap[b]? := fun b hb hl => HKr.out.block b hl hb
      have c0r : wr.cell? ⟨w.heap.size, 0, none⟩ = some (.pointer (some ⟨a, 0, none⟩)) := (World.cell?_of_block (hdne w.heap.size (by omega) (by omega))).trans c0
      have nda : a ≠ d := fun e => HND.out (.inl e.symm)
      have ndg : g ≠ d := fun e => HND.out (.inr (.inl e.symm))
      have car : wr.cell? ⟨a, 1, none⟩ = some (.slice (some ⟨g, 0, none⟩) bs.length cap) := (World.cell?_of_block (hdne a nda (by omega))).trans ca
      have hgr : ∀ i, i < bs.length → wr.cell? ⟨g, i, none⟩ = some (.int .u8 (bs.getD i 0)) := fun i hi => by
        have hgl := (HS1.out.row.lt g rfl).2
        rw [World.cell?_of_block (w := w1) (a := ⟨g, i, none⟩) (hdne g ndg hgl)]
        exact own_get HS1.out.row hi
      obtain ⟨cs, hcs⟩ : ∃ cs, cs = bv ((bs.drop pl).take k) := ⟨_, rfl⟩
      have hcl : cs.length = k := by rw [hcs, bv_len, List.length_take, List.length_drop]; omega
      have HCL : Hid (cs.length = Nat.min (bs.length - pl) m) := by show cs.length = _; rw [hcl]; exact HKM.out
      have HSRC : Hid (∀ i v, cs[i]? = some v → wr.cell? ((⟨g, pl, none⟩ : Addr).add i) = some v) := fun i v hv => by
        have hi : i < k := by rw [← hcl]; exact (List.getElem?_eq_some_iff.1 hv).1
        rw [add_plain, hgr (pl + i) (by omega)]
        rw [hcs] at hv
        have h2 : pl + i < bs.length := by omega
        simpa [bv, hi, h2] using hv
      have HONE : Hid (∀ v ∈ cs, v.oneCell' = true) := by rw [hcs]; exact bv_one' _
      have HFIT : Hid (j + cs.length ≤ (bv (rdL bs x j ++ ds.drop j) ++ sp).toArray.size) := by
        show j + cs.length ≤ _
        rw [hcl]
        have := HL.out
        simp [bv, rdL_len]; omega
      have HCS := hidS hcs
      have HCK := hidS hcl
      clear hcs hcl hgr hdne
      have i1 : (pl : Int) ≤ (bs.length : Int) := by omega
      have i2 : ¬ cap = pl := by omega
      have i3 : ¬ pl = cap := by omega
      have i4 : (k : Int) ≤ (m : Int) := by omega
      have hmI : (0 : Int) < (m : Int) := by omega
      have hkc : k ≤ c - j := by omega
      have hkcI : (k : Int) ≤ ((c - j : Nat) : Int) := by omega
      have hrun := run_copy_row (P := Tryd.prog) wr 33 33 3 5 d j m (c - j) ⟨g, pl, none⟩ (bs.length - pl) (cap - pl) (bv (rdL bs x j ++ ds.drop j) ++ sp).toArray t cs Tryd.underlying33 info5s HDr.out HCL.out HSRC.out HFIT.out HONE.out
      rw [HCK.out] at hrun
      generalize hW2 : wr.setRow d _ = W2 at hrun
      have HW2 := hidS hW2
      clear hW2
      go_wp2
      have hHd : W2.heap[d]? = some (.cells (bv (rdL bs x (j + k) ++ ds.drop (j + k)) ++ sp).toArray t (0, 0)) := by
        rw [← HW2.out, setRow_heap wr d _ _ t _ HDr.out, HCS.out, rd_row bs ds sp x j k pl n HL.out (by omega) HPL.out hkN]
      have hmod : 0 < m - k → 0 = (x + (j + k)) % bs.length := fun h => by
        have e : pl + k = bs.length := HOR.out.resolve_left (by omega)
        rw [← Nat.add_assoc, Nat.add_mod, ← HPL.out]
        by_cases hkN2 : k < bs.length
        · rw [Nat.mod_eq_of_lt hkN2, e, Nat.mod_self]
        · obtain rfl : pl = 0 := by omega
          rw [show k = bs.length by omega, Nat.mod_self]
          simp
      refine ⟨⟨j + k, m - k, _, c - j - k, 0, by omega, rfl, rfl, fun h => ⟨if_neg (by omega), by omega, hmod h⟩, HKr.out.trans (by rw [← HW2.out]; exact Kp.setRow (S := fun k => k = d) _ _ _ rfl) (fun _ _ h => h), hHd⟩, by simp [sliceLen]; omega⟩
    · obtain rfl : m = 0 := by omega
      obtain rfl : j = n := by omega
      have hltI : ¬ (0 : Int) < ((0 : Nat) : Int) := by decide
      go_wp2
      go_end0
      have hdr := HDr.out
      rw [List.drop_eq_nil_of_le (by rw [HL.out]; exact Nat.le_refl _), List.append_nil] at hdr
      refine ⟨rfl, ⟨tv', HS1.out.kept HKr.out ?_, fun i h => (HT1.out i h).imp id (fun h => by omega)⟩, (HK1.out.mono (fun _ _ h => .inl h)).trans HKr.out (fun _ _ h => .inr h), hdr⟩
      intro k hk e
      subst e
      rcases hk with h | h | h
      · exact HND.out (.inl h)
      · exact HND.out (.inr (.inl h))
      · rcases HT1.out k h with h | h
        · exact HND.out (.inr (.inr h))
        · omega
end Go.Proofs.YtcmfephbhbgoiaaDoor
