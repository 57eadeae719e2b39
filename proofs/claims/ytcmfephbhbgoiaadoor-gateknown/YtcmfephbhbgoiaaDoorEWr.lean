import Derived.Test.YtcmfephbhbgoiaaDoorERd
namespace Go.Proofs.YtcmfephbhbgoiaaDoor
open Go.RowKit Go.WideShapes
set_option maxRecDepth 100000

theorem own_splice {w : World} {g N cap : Nat} {bs : List Int} (h : w.ownsRow 0 5 1 (.slice (some ⟨g, 0, none⟩) N cap) N (bv bs)) :
    ∃ cur, w.heap[g]? = some (.cells cur 5 (0, 0)) ∧ N ≤ cur.size ∧ ∀ (off : Nat) (cs : List Int), off + cs.length ≤ N → (w.setRow g (cur.toList.take off ++ bv cs ++ cur.toList.drop (off + cs.length)).toArray).ownsRow 0 5 1 (.slice (some ⟨g, 0, none⟩) N cap) N (bv (splice bs off cs)) := by
  have hlen := h.1
  rw [bv_len] at hlen
  rcases h.2 with ⟨e, _⟩ | ⟨g', cap', cur, e, hb, hg, hn, hm, hs, ht⟩
  · simp at e
  · simp only [Value.slice.injEq, Option.some.injEq, Addr.mk.injEq, true_and, and_true] at e
    obtain ⟨rfl, rfl⟩ := e
    refine ⟨cur, hg, by omega, fun off cs hoc => ⟨by rw [bv_len, length_splice _ _ _ (by omega)]; exact hlen, .inr ⟨g, cap, _, rfl, hb, setRow_heap w g cur _ 5 _ hg, hn, hm, ?_, ?_⟩⟩⟩
    · have : cur.toList.length = cap := by simpa using hs
      simp [bv]; omega
    · rw [Nat.mul_one] at ht
      rw [Nat.mul_one, ← splice_map, ← ht, List.toList_toArray]
      unfold splice
      have hcl : cur.toList.length = cap := by simpa using hs
      rw [bv_len, List.append_assoc, List.take_append, List.take_append, List.take_take, List.length_take, bv_len]
      rw [List.take_of_length_le (l := bv cs) (by rw [bv_len]; omega), List.drop_take, List.take_take, Nat.min_comm N off]
      congr 3
      omega
/-- where bytes that are handed in are read -/
def Src (w : World) (bo : Option Addr) (sb so : Nat) (zs : List Int) : Prop := 0 < zs.length → bo = some ⟨sb, so, none⟩ ∧ sb < w.heap.size ∧ ∀ i, i < zs.length → w.cell? ⟨sb, so + i, none⟩ = some (.int .u8 (zs.getD i 0))
set_option maxHeartbeats 2000000 in
theorem write_any (lg : Bool) (hN : NoteOk 60 true lg) (a g cap c x n sb so : Nat) (bo : Option Addr) (bs zs : List Int) (tv : Value) (ts : List (Int × Bool)) (w : World) (hS : MemS w a g cap bs lg tv ts) (hx : x < 4294967296) (hn : n ≤ 65536)
    (hl : zs.length = n) (hc : n ≤ c) (hwf : ∀ z ∈ zs, 0 ≤ z ∧ z ≤ 255) (hsrc : Src w bo sb so zs) (nd : ¬ Foot a g tv sb) :
    Calls Tryd.prog 45 #[.pointer (some ⟨a, 0, none⟩), .int .u32 x, .slice bo n c] w fun e w' => e = .returned (.tuple #[]) ∧
      (∃ tv', MemS w' a g cap (wrL bs x zs) lg tv' (lgL lg ts (tcs x n bs.length true)) ∧ (∀ j, tv'.ownBlock = some j → tv.ownBlock = some j ∨ w.heap.size ≤ j)) ∧ Kp (Foot a g tv) w w' := by
  have haw := hS.lt a (.inl rfl)
  have nF : ∀ k, w.heap.size ≤ k → ¬ Foot a g tv k := fun k hk hF => by have := hS.lt k hF; omega
  have hK0 : Kp (fun _ => False) w ((w.alloc (.cells #[.pointer (some ⟨a, 0, none⟩)] 32)).alloc (.cells #[.int .u32 x] 23)) := (Kp.alloc w _).trans (Kp.alloc _ _) (fun _ _ h => h)
  have hB0 : ((w.alloc (.cells #[.pointer (some ⟨a, 0, none⟩)] 32)).alloc (.cells #[.int .u32 x] 23)).heap[w.heap.size]? = some (.cells #[.pointer (some ⟨a, 0, none⟩)] 32) := by
    rw [Below.heap_alloc _ _ _ (by simp)]; exact heap_alloc_new w _
  have hB1 : ((w.alloc (.cells #[.pointer (some ⟨a, 0, none⟩)] 32)).alloc (.cells #[.int .u32 x] 23)).heap[w.heap.size + 1]? = some (.cells #[.int .u32 x] 23) := by
    have := heap_alloc_new (w.alloc (.cells #[.pointer (some ⟨a, 0, none⟩)] 32)) (.cells #[.int .u32 x] 23)
    simpa using this
  have hz0 : ((w.alloc (.cells #[.pointer (some ⟨a, 0, none⟩)] 32)).alloc (.cells #[.int .u32 x] 23)).heap.size = w.heap.size + 2 := by simp
  have hNo := hN a g cap w.heap.size (w.heap.size + 1) x n bs tv ts _ (hS.kept hK0 (fun _ _ h => h)) hx hn ((obj_cell hB0 0).trans rfl) ((obj_cell hB1 0).trans rfl) (nF _ (Nat.le_refl _)) (nF _ (Nat.le_succ _))
  have HN : Hid (Calls Tryd.prog 59 #[.pointer (some ⟨a, 0, none⟩), .int .i64 n, .func (.func 60) #[] #[.pointer (some ⟨w.heap.size, 0, none⟩), .pointer (some ⟨w.heap.size + 1, 0, none⟩)]] ((w.alloc (.cells #[.pointer (some ⟨a, 0, none⟩)] 32)).alloc (.cells #[.int .u32 x] 23)) fun e w1 => e = .returned (.tuple #[]) ∧
      w1.cell? ⟨w.heap.size, 0, none⟩ = some (.pointer (some ⟨a, 0, none⟩)) ∧ w1.cell? ⟨w.heap.size + 1, 0, none⟩ = some (.int .u32 x) ∧ w1.cell? ⟨a, 1, none⟩ = some (.slice (some ⟨g, 0, none⟩) bs.length cap) ∧
      Hid ((∃ tv', MemS w1 a g cap bs lg tv' (lgL lg ts (tcs x n bs.length true)) ∧ (∀ j, tv'.ownBlock = some j → tv.ownBlock = some j ∨ w.heap.size + 2 ≤ j)) ∧ Kp (Foot a g tv) w w1 ∧ w.heap.size + 2 ≤ w1.heap.size)) := hNo.mono fun e w1 ⟨he, tv', hS1, hK1, hT1⟩ => by
    have e0 : w1.heap[w.heap.size]? = some (.cells #[.pointer (some ⟨a, 0, none⟩)] 32) := (hK1.block _ (by rw [hz0]; omega) (nF _ (Nat.le_refl _))).trans hB0
    have e1 : w1.heap[w.heap.size + 1]? = some (.cells #[.int .u32 x] 23) := (hK1.block _ (by rw [hz0]; omega) (nF _ (Nat.le_succ _))).trans hB1
    rw [hz0] at hT1
    exact ⟨he, (obj_cell e0 0).trans rfl, (obj_cell e1 0).trans rfl, (obj_cell hS1.obj 1).trans rfl, ⟨tv', hS1, hT1⟩, (hK0.mono (S' := Foot a g tv) (fun _ _ h => h.elim)).trans hK1 (fun _ _ h => h), by have := hK1.size; rwa [hz0] at this⟩
  have hpw := hS.pw
  have hP := fun W h => place_any a g cap bs.length x W hx hpw h
  have hpb := hpw.bd
  have HS := hidS hS
  clear hNo hK0 hB0 hB1 hz0 hS nF hN
  have HPW := hidS hpw
  clear hpw
  go_enter Tryd.func45, Tryd.ntmps45
  go_wp2_with (first
    | (go_at_call 59; with_reducible refine HN.out.mono ?_; rintro e w1 ⟨rfl, c0, c1, ca, HQ⟩)
    | (go_at_call 61; with_reducible refine (hP _ ca).mono ?_; rintro e wq ⟨rfl, hq⟩; subst wq)
    | fail)
  obtain ⟨⟨tv', hS1, hT1⟩, hK1, hz1⟩ := HQ.out
  have hcN : bs.length ≤ cap := by
    rcases hS1.row.2 with ⟨e, _⟩ | ⟨g', cap', cur, e, _, _, hcc, _⟩
    · simp at e
    · simp only [Value.slice.injEq] at e
      rw [e.2.2]; exact hcc
  have hsr1 : 0 < zs.length → bo = some ⟨sb, so, none⟩ ∧ sb < w1.heap.size ∧ ∀ i, i < zs.length → w1.cell? ⟨sb, so + i, none⟩ = some (.int .u8 (zs.getD i 0)) := fun h0 => by
    obtain ⟨h1, h2, h3⟩ := hsrc h0
    exact ⟨h1, by omega, fun i hi => (hK1.cell (p := ⟨sb, so + i, none⟩) h2 nd).trans (h3 i hi)⟩
  have HS1 := hidS hS1
  have HT1 := hidS hT1
  have HK1 := hidS hK1
  have HL := hidS hl
  have HSR := hidS hsr1
  have HWF := hidS hwf
  have HND := hidS nd
  have hne := hS1.ne
  clear hS1 hT1 hK1 HQ hP HN hl hsr1 hsrc hwf nd
  go_loopw [2, 6] (fun v p wr => ∃ (j m : Nat) (wo : Option Addr) (wc pl : Nat), j + m = n ∧ v = .slice wo m wc ∧ p = .int .u32 pl ∧ (0 < m → wo = some ⟨sb, so + j, none⟩ ∧ wc = c - j ∧ pl = (x + j) % bs.length) ∧ Kp (fun k => k = g) w1 wr ∧ MemS wr a g cap (wrL bs x (zs.take j)) lg tv' (lgL lg ts (tcs x n bs.length true)))
    (fun v _ _ => sliceLen v)
  case atStart => exact ⟨0, n, _, c, x % bs.length, Nat.zero_add _, rfl, by simp, fun h => ⟨(HSR.out (by rw [HL.out]; exact h)).1, rfl, rfl⟩, Kp.refl _ _, by simpa [wrL] using HS1.out⟩
  case round =>
    obtain ⟨j, m, wo, wc, pl, hjm, rfl, rfl, hfs, hKr, hSr⟩ := hrel
    have HKr := hidS hKr
    have HSr := hidS hSr
    clear hKr hSr
    by_cases hm : 0 < m
    · obtain ⟨rfl, rfl, hpl⟩ := hfs hm
      have hplN : pl < bs.length := by rw [hpl]; exact Nat.mod_lt _ (by omega)
      have HPL := hidS hpl
      clear hpl hfs
      obtain ⟨k, hk⟩ : ∃ k, k = min m (bs.length - pl) := ⟨_, rfl⟩
      have hk0 : 0 < k := by omega
      have hkm : k ≤ m := by omega
      have hkN : pl + k ≤ bs.length := by omega
      have hkor : k = m ∨ pl + k = bs.length := by omega
      have HKM : Hid (k = Nat.min m (bs.length - pl)) := by
        show k = min m (bs.length - pl)
        omega
      have HOR := hidS hkor
      clear hk hkor
      have hdne : ∀ b, b ≠ g → b < w1.heap.size → wr.heap[b]? = w1.heap[b]? := fun b hb hl => HKr.out.block b hl hb
      have hgl := (HS1.out.row.lt g rfl).2
      have hal := HS1.out.lt a (.inl rfl)
      have hgw : g < w.heap.size := HS.out.lt g (.inr (.inl rfl))
      have c0r : wr.cell? ⟨w.heap.size, 0, none⟩ = some (.pointer (some ⟨a, 0, none⟩)) := (World.cell?_of_block (hdne w.heap.size (by omega) (by omega))).trans c0
      have car : wr.cell? ⟨a, 1, none⟩ = some (.slice (some ⟨g, 0, none⟩) bs.length cap) := (World.cell?_of_block (hdne a hne hal)).trans ca
      obtain ⟨hsb0, hsb1, hsb2⟩ := HSR.out (by rw [HL.out]; omega)
      have hsg : sb ≠ g := fun e => HND.out (.inr (.inl e))
      obtain ⟨cs, hcs⟩ : ∃ cs, cs = (zs.drop j).take k := ⟨_, rfl⟩
      have hcl : cs.length = k := by rw [hcs, List.length_take, List.length_drop, HL.out]; omega
      have HCL : Hid ((bv cs).length = Nat.min m (bs.length - pl)) := by show (bv cs).length = _; rw [bv_len, hcl]; exact HKM.out
      have HSRC : Hid (∀ i v, (bv cs)[i]? = some v → wr.cell? ((⟨sb, so + j, none⟩ : Addr).add i) = some v) := fun i v hv => by
        have hi : i < k := by rw [← hcl, ← bv_len]; exact (List.getElem?_eq_some_iff.1 hv).1
        have hzl := HL.out
        rw [add_plain, World.cell?_of_block (w := w1) (a := ⟨sb, so + j + i, none⟩) (hdne sb hsg hsb1), Nat.add_assoc, hsb2 (j + i) (by omega)]
        rw [hcs] at hv
        have h2 : j + i < zs.length := by omega
        simpa [bv, hi, h2] using hv
      have hlenW : (wrL bs x (zs.take j)).length = bs.length := wrL_len _ _ _
      have hrow := HSr.out.row
      rw [hlenW] at hrow
      obtain ⟨cur, hcur, hcsz, hown⟩ := own_splice hrow
      have HOW := hidS (hown pl cs (by omega))
      have HFIT : Hid (pl + (bv cs).length ≤ cur.size) := by
        show pl + (bv cs).length ≤ _
        rw [bv_len, hcl]; omega
      have hrun := run_copy_row (P := Tryd.prog) wr 33 33 3 5 g pl (bs.length - pl) (cap - pl) ⟨sb, so + j, none⟩ m (c - j) cur 5 (bv cs) Tryd.underlying33 info5s hcur HCL.out HSRC.out HFIT.out (bv_one' _)
      rw [bv_len, hcl] at hrun
      rw [hcl] at HOW
      generalize hW2 : wr.setRow g _ = W2 at hrun HOW
      have hspl : wrL bs x (zs.take (j + k)) = splice (wrL bs x (zs.take j)) pl cs := by
        have hzl := HL.out
        rw [List.take_add, ← hcs, wrL_append, List.length_take, Nat.min_eq_left (by omega), ← wrL_chunk _ _ _ (by rw [hlenW]; omega)]
        refine wrL_mod _ _ _ _ ?_
        rw [hlenW, HPL.out, Nat.mod_mod]
      have HSP := hidS hspl
      have HW2 := hidS hW2
      have HCU := hidS hcur
      have hmr : cs.length = k := hcl
      have HCK := hidS hmr
      have HHC := hidS hcs
      clear hcs hcl hdne hspl hW2 hown hcur hrow hlenW hcsz hmr hsb0 hsb2
      have i1 : (pl : Int) ≤ (bs.length : Int) := by omega
      have i2 : ¬ cap = pl := by omega
      have i3 : ¬ pl = cap := by omega
      have i4 : (k : Int) ≤ (m : Int) := by omega
      have hmI : (0 : Int) < (m : Int) := by omega
      have hkc : k ≤ c - j := by omega
      have hkcI : (k : Int) ≤ ((c - j : Nat) : Int) := by omega
      go_wp2
      have hmod : 0 < m - k → 0 = (x + (j + k)) % bs.length := fun h => by
        have e : pl + k = bs.length := HOR.out.resolve_left (by omega)
        rw [← Nat.add_assoc, Nat.add_mod, ← HPL.out]
        by_cases hkN2 : k < bs.length
        · rw [Nat.mod_eq_of_lt hkN2, e, Nat.mod_self]
        · obtain rfl : pl = 0 := by omega
          rw [show k = bs.length by omega, Nat.mod_self]
          simp
      have hk2 : Kp (fun k => k = g) wr W2 := by rw [← HW2.out]; exact Kp.setRow (S := fun k => k = g) _ _ _ rfl
      have hlw : (wrL bs x (zs.take (j + k))).length = bs.length := wrL_len _ _ _
      have hlw2 : (wrL bs x (zs.take j)).length = bs.length := wrL_len _ _ _
      have hS2 : MemS W2 a g cap (wrL bs x (zs.take (j + k))) lg tv' (lgL lg ts (tcs x n bs.length true)) := by
        have o := HSr.out
        refine ⟨?_, ?_, hk2.own o.log (fun i e h => o.ng (h ▸ e)), o.ne, o.na, o.ng, by rw [hlw, ← hlw2]; exact o.pw, wrL_wf _ _ _ HS.out.wf (fun z hz => HWF.out z (List.mem_of_mem_take hz)), o.tl⟩
        · rw [hk2.block a (o.lt a (.inl rfl)) o.ne, hlw, ← hlw2]; exact o.obj
        · rw [hlw, HSP.out]; exact HOW.out
      refine ⟨⟨j + k, m - k, _, c - j - k, 0, by omega, rfl, rfl, fun h => ⟨(if_neg (by omega)).trans (by rw [Nat.add_assoc]), by omega, hmod h⟩, HKr.out.trans hk2 (fun _ _ h => h), hS2⟩, by simp [sliceLen]; omega⟩
    · obtain rfl : m = 0 := by omega
      obtain rfl : j = n := by omega
      have hltI : ¬ (0 : Int) < ((0 : Nat) : Int) := by decide
      go_wp2
      go_end0
      have hsr := HSr.out
      rw [List.take_of_length_le (by rw [HL.out]; exact Nat.le_refl _)] at hsr
      exact ⟨rfl, ⟨tv', hsr, fun i h => (HT1.out i h).imp id (fun h => by omega)⟩, HK1.out.trans HKr.out (fun _ _ h => .inr (.inl h))⟩
end Go.Proofs.YtcmfephbhbgoiaaDoor
