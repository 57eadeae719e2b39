import Derived.Test.YtnplimdcfbgpeaaDoorCOSg
import Derived.Test.YtnplimdcfbgpeaaDoorCONr
import Derived.Lib.BufferWrite
import Derived.Test.YtnplimdcfbgpeaaDoorCIFit
import Derived.Test.YtnplimdcfbgpeaaDoorCIOb
import Derived.Deep.RegionHeld3
namespace Go.Proofs.YtnplimdcfbgpeaaDoor
open Go.RowKit Go.WideShapes Go.Sort Go.Lib
set_option maxRecDepth 100000

/-- all blocks but one are as they were -/
structure Kg (g : Nat) (w w' : World) : Prop where
  size : w.heap.size ≤ w'.heap.size
  block : ∀ k, k < w.heap.size → k ≠ g → w'.heap[k]? = w.heap[k]?
theorem Kg.refl (g : Nat) (w : World) : Kg g w w := ⟨Nat.le_refl _, fun _ _ _ => rfl⟩
theorem Kg.ofBelow {g : Nat} {w w' : World} (h : Below w.heap.size w w') : Kg g w w' := ⟨h.size, fun k hk _ => h.block k hk⟩
theorem Kg.trans {g : Nat} {a b c : World} (h : Kg g a b) (h2 : Kg g b c) : Kg g a c := ⟨Nat.le_trans h.size h2.size, fun k hk hn => (h2.block k (Nat.lt_of_lt_of_le hk h.size) hn).trans (h.block k hk hn)⟩
/-- where another block than g is changed, one that is newer -/
theorem Kg.later {g g' : Nat} {a b c : World} (h : Kg g a b) (h2 : Kg g' b c) (hg : g' = g ∨ a.heap.size ≤ g') : Kg g a c := ⟨Nat.le_trans h.size h2.size, fun k hk hn => (h2.block k (Nat.lt_of_lt_of_le hk h.size) (by omega)).trans (h.block k hk hn)⟩
theorem Kg.setRow (g : Nat) (w : World) (cs : Array Value) : Kg g w (w.setRow g cs) := by
  refine ⟨?_, fun k _ hn => ?_⟩
  · show w.heap.size ≤ (w.heap.modify g _).size
    rw [Array.size_modify]; exact Nat.le_refl _
  · show (w.heap.modify g _)[k]? = _
    rw [Array.getElem?_modify, if_neg (fun h => hn h.symm)]
theorem Kg.own {g : Nat} {w w' : World} (h : Kg g w w') {B e sz n : Nat} {v : Value} {xs : List Value} (ho : w.ownsRow B e sz v n xs) (hs : v.ownBlock ≠ some g) : w'.ownsRow B e sz v n xs := by
  refine ⟨ho.1, ?_⟩
  rcases ho.2 with hn | ⟨k, cap, cur, rfl, hb, hgg, rest⟩
  · exact .inl hn
  · refine .inr ⟨k, cap, cur, rfl, hb, ?_, rest⟩
    rw [h.block k (Array.getElem?_eq_some_iff.1 hgg).1 (fun e => hs (by rw [← e]; rfl))]; exact hgg
theorem Kg.cell {g : Nat} {w w' : World} (h : Kg g w w') {p : Addr} (hl : p.block < w.heap.size) (hs : p.block ≠ g) : w'.cell? p = w.cell? p := World.cell?_of_block (w := w) (h.block p.block hl hs)
theorem Kg.reads {g : Nat} {w w' : World} (h : Kg g w w') {ao : Option Addr} {zs : List Int} {B : Nat} (hr : Reads w ao zs B) (hB : B ≤ w.heap.size) (hs : B ≤ g) : Reads w' ao zs B := by
  intro hl
  obtain ⟨b, off, e, hlt, hc⟩ := hr hl
  exact ⟨b, off, e, hlt, fun j hj => (h.cell (p := ⟨b, off + j, none⟩) (Nat.lt_of_lt_of_le hlt hB) (by show b ≠ g; omega)).trans (hc j hj)⟩
theorem step_copy_set {P : Program} {ops : Array Oper} {o : Oper} {a : Act} {w : World} {K : Act → World → Prop} {Q : Exit → Act → World → Prop} {E : Prop} (hgd : o.guard = none) (d s : Operand) (dT sT : TypeId)
    (ho : o.op = .call { callee := .builtin .copy, args := #[d, s], argTypes := #[dT, sT] }) (elem : TypeId) (hu : P.underlying dT = some (.slice elem)) (hsz : (P.info? elem).map (·.size) = some 1)
    (dp ad : Addr) (dLen dCap sLen sCap : Nat) (hd : a.eval d = .slice (some dp) dLen dCap) (hs : a.eval s = .slice (some ad) sLen sCap)
    (g off : Nat) (hdp : dp = ⟨g, off, none⟩) (cur : List Value) (t : TypeId) (hg : w.heap[g]? = some (.cells cur.toArray t (0, 0))) (cs : List Value) (hn : cs.length = Nat.min sLen dLen)
    (hsrc : ∀ j v, cs[j]? = some v → w.cell? (ad.add j) = some v)
    (hfit : off + cs.length ≤ cur.length) (h1 : ∀ v ∈ cs, v.oneCell' = true)
    (h : ∀ w', Hid (w' = w.setRow g (splice cur off cs).toArray) → K (a.put o.dst (goInt cs.length)) w') :
    if Region.wanted o (yielded ops a.tmps) = true then Oper.wp P o a w K Q else E := by
  have hw : Region.wanted o (yielded ops a.tmps) = true := by simp [Region.wanted, hgd]
  rw [if_pos hw]
  subst hdp
  have hrun := run_copy_row (P := P) w dT sT o.type elem g off dLen dCap ad sLen sCap cur.toArray t cs hu hsz hg hn hsrc (by simpa using hfit) h1
  unfold Oper.wp
  simp [execOp, ho, resolve, invoke, builtin, hd, hs, hrun, Result.andThen]
  exact h _ (hidS (by simp [splice]))
set_option maxHeartbeats 1000000 in
theorem layWord_any (B g cf p : Nat) (zs : List Int) (x : Int) (W : World) (hp : p + 4 ≤ zs.length) (x0 : 0 ≤ x) (x1 : x < 4294967296) (own1 : W.ownsRow B 5 1 (.slice (some ⟨g, 0, none⟩) zs.length cf) zs.length (bv zs)) :
    Calls Tryd.prog 22 #[.slice (some ⟨g, 0, none⟩) zs.length cf, .int .i64 (p : Int), .int .u32 x] W fun e w' => e = .returned (.tuple #[]) ∧ w'.ownsRow B 5 1 (.slice (some ⟨g, 0, none⟩) zs.length cf) zs.length (bv (wth 4 zs p x)) ∧ Below B W w' ∧ Kg g W w' := by
  have own1' := own1
  rcases own1.2 with ⟨_, hz⟩ | ⟨g', cf', cur, he, hgb, hgc, hnc, hcm, hcs, htk⟩
  · omega
  cases he
  have hpc : ¬ p = cf := by omega
  have hpc2 : ¬ cf = p := by omega
  have hpl : (p : Int) ≤ (zs.length : Int) := by omega
  have HP : Calls Tryd.prog 33 #[.slice (some ⟨W.heap.size, 0, none⟩) 1 1] (W.alloc (.cells #[.int .u32 x] 25)).drew fun e w' => ∃ v, e = .returned v ∧ w'.ownsRow (W.heap.size + 1) 5 1 v 4 (bv (nb 4 x)) ∧ Below (W.heap.size + 1) (W.alloc (.cells #[.int .u32 x] 25)).drew w' := by
    have := put_u32 (some ⟨W.heap.size, 0, none⟩) 1 [x] (W.alloc (.cells #[.int .u32 x] 25)).drew (by simp) (by simp; omega) (lit_readsK W _ 25 x)
    simpa [puts] using this
  have hgl : g < W.heap.size := (own1'.lt g rfl).2
  have hbd : Below W.heap.size W (W.alloc (.cells #[.int .u32 x] 25)).drew := ((Below.refl W.heap.size W).alloc (Nat.le_refl _) _).drew
  have hgc2 : (W.alloc (.cells #[.int .u32 x] 25)).drew.heap[g]? = some (.cells cur.toList.toArray 5) := (hbd.block g hgl).trans (by simpa using hgc)
  have hmin : (bv (nb 4 x)).length = Nat.min 4 (zs.length - p) := by rw [bv_len, nb_len]; show 4 = min 4 (zs.length - p); omega
  have hfit : p + (bv (nb 4 x)).length ≤ cur.toList.length := by rw [bv_len, nb_len, Array.length_toList]; omega
  have hBW : B ≤ W.heap.size := by omega
  clear own1' own1
  go_enter Tryd.func22, Tryd.ntmps22
  go_wp2_with fail
  go_region_law (first
    | (rw [if_pos (by simp [Region.wanted])]; unfold Oper.wp; go_simp; go_at_call 33; with_reducible refine HP.mono ?_; rintro e w2 ⟨v2, rfl, own2, hb2⟩; obtain ⟨g2, c2, rfl, hc2⟩ := own_form own2 (by decide))
    | (refine step_copy_set rfl _ _ 24 24 rfl 5 Tryd.underlying24 Tryd.sz5 _ _ _ _ _ _ rfl rfl g p rfl cur.toList 5 (by rw [hb2.block g (by omega)]; exact hgc2) (bv (nb 4 x)) hmin (fun j u hj => own2.cells (g := g2) rfl j u hj) hfit (fun u hu => by simp [bv] at hu; obtain ⟨z, _, rfl⟩ := hu; rfl) ?_; intro w3 hw3))
  have hbW : Below W.heap.size W w2 := hbd.trans (hb2.mono (Nat.le_succ _))
  have HG3 : Hid (w3.heap[g]? = some (.cells (splice cur.toList p (bv (nb 4 x))).toArray 5)) := hidS (by
    rw [hw3.out]; exact setRow_heap w2 g _ _ 5 _ (by rw [hb2.block g (by omega)]; exact hgc2))
  have HB3 : Hid (Below B W w3) := hidS (by rw [hw3.out]; exact below_setRow (hbW.mono hBW) hgb _)
  have HK3 : Hid (Kg g W w3) := hidS (by rw [hw3.out]; exact (Kg.ofBelow hbW).trans (Kg.setRow g w2 _))
  have HW : Hid (w3.ownsRow B 5 1 (.slice (some ⟨g, 0, none⟩) zs.length cf) zs.length (bv (wth 4 zs p x))) := by
    refine ⟨?_, .inr ⟨g, cf, _, rfl, hgb, HG3.out, hnc, hcm, ?_, ?_⟩⟩
    · simp [bv, wth, nb_len]; omega
    · rw [List.size_toArray, length_splice _ _ _ hfit, Array.length_toList, hcs]
    · exact splice_wth 4 cur.toList zs p x (by omega) (by simpa using htk)
  clear HG3 hgc hgc2 htk hcs hfit hmin own2 hb2 hbd hw3
  go_wp2_with fail
  exact bodyPost_end (results_none rfl _ _ _) rfl ⟨rfl, HW.out, HB3.out, HK3.out⟩
end Go.Proofs.YtnplimdcfbgpeaaDoor
namespace Go.Proofs.YtnplimdcfbgpeaaDoor
open Go.RowKit Go.WideShapes Go.Sort Go.Lib
set_option maxRecDepth 100000

theorem nmB_le {M : List (ByteArray × Nat)} (hs : ∀ e ∈ M, e.1.size ≤ 32) : (nmB M).length ≤ M.length * 37 := by
  induction M with
  | nil => simp [nmB]
  | cons e M ih =>
    rw [nmB_cons, List.length_append, nm1_len, List.length_cons]
    have := ih (fun x hx => hs x (by simp [hx]))
    have := hs e (by simp)
    omega
theorem nmB_take {M : List (ByteArray × Nat)} {k : Nat} (hk : k < M.length) : nmB (M.take (k + 1)) = nmB (M.take k) ++ (nb 4 ((M.getD k (.empty, 0)).2 : Nat) ++ ((((M.getD k (.empty, 0)).1.size : Nat) : Int) :: bzs (M.getD k (.empty, 0)).1)) := by
  rw [ptake (ByteArray.empty, 0) M k hk, nmB_append, nmB_one]
  rfl
theorem getD_memN {M : List (ByteArray × Nat)} {k : Nat} (hk : k < M.length) : M.getD k (.empty, 0) ∈ M := by
  rw [List.getD_eq_getElem?_getD, List.getElem?_eq_getElem hk]
  exact List.getElem_mem hk
theorem bv_one1 (L : List Int) : ∀ u ∈ bv L, u.oneCell' = true := by
  intro u hu
  obtain ⟨z, _, rfl⟩ := List.mem_map.1 hu
  rfl
theorem put_one (x : Nat) (W : World) (hx : x < 4294967296) :
    Calls Tryd.prog 33 #[.slice (some ⟨W.heap.size, 0, none⟩) 1 1] (W.alloc (.cells #[.int .u32 (x : Int)] 25)) fun e w' => ∃ v, e = .returned v ∧ w'.ownsRow (W.heap.size + 1) 5 1 v 4 (bv (nb 4 (x : Int))) ∧ Below W.heap.size W w' := by
  have := put_u32 (some ⟨W.heap.size, 0, none⟩) 1 [(x : Int)] (W.alloc (.cells #[.int .u32 (x : Int)] 25)) (by simp) (by simp; omega) (lit_readsK W _ 25 x)
  refine this.mono ?_
  rintro e w' ⟨v, rfl, o, b⟩
  refine ⟨v, rfl, by simpa [puts] using o, ?_⟩
  exact (belS (Below.refl _ _)).trans (b.mono (by simp))
theorem row_ne {w : World} {B e sz n k : Nat} {v : Value} {xs : List Value} {cs : Array Value} {t : TypeId} {fr : Nat × Nat} (h : w.ownsRow B e sz v n xs) (hk : w.heap[k]? = some (.cells cs t fr)) (ht : t ≠ e) : some k ≠ v.ownBlock := by
  intro e1
  rcases h.2 with ⟨rfl, _⟩ | ⟨g, cap, cur, rfl, _, hg, _⟩
  · simp [Value.ownBlock] at e1
  · simp [Value.ownBlock] at e1
    subst e1
    rw [hk] at hg
    simp at hg
    exact ht hg.2.1
theorem row_keep {w w' : World} {B e sz n k : Nat} {v : Value} {xs : List Value} {cs : Array Value} {t : TypeId} {fr : Nat × Nat} (h : w.ownsRow B e sz v n xs) (hk : w.heap[k]? = some (.cells cs t fr)) (ht : t ≠ e) (hg : w.grownBy w' v.ownBlock) : w'.heap[k]? = some (.cells cs t fr) := by
  rw [hg.block k (Array.getElem?_eq_some_iff.1 hk).1 (row_ne h hk ht)]; exact hk
set_option maxHeartbeats 2000000 in
theorem namesB_any (an : Option Addr) (cn : Nat) (M : List (ByteArray × Nat)) (w : World) (hl : M.length ≤ 64) (hs : ∀ e ∈ M, e.1.size ≤ 32) (hw : NmW M) (hr : NRd w an M w.heap.size) :
    Calls Tryd.prog 35 #[.slice an M.length cn] w fun e w' => ∃ v, e = .returned v ∧ w'.ownsRow w.heap.size 5 1 v (nmB M).length (bv (nmB M)) ∧ Below w.heap.size w w' := by
  obtain ⟨i0, hi, hz0, hz1, hz2⟩ := info_parts Tryd.infoB
  have HR := hidS hr
  have HS := hidS hs
  have HW := hidS hw
  clear hr hs hw
  go_enter Tryd.func35, Tryd.ntmps35
  go_wp2_with fail
  go_loopw [3, 8] (fun v i wr => ∃ k : Nat, k ≤ M.length ∧ i = .int .i64 k ∧ wr.ownsRow w.heap.size 5 1 v (nmB (M.take k)).length (bv (nmB (M.take k))) ∧ Below w.heap.size w wr) (fun _ i _ => M.length - (intOf i).toNat)
  case atStart => exact ⟨0, by omega, rfl, World.ownsRow_nil _ _ _ _, Below.refl _ _⟩
  case round =>
    obtain ⟨k, hk, rfl, hown, hb⟩ := hrel
    by_cases hlt : k < M.length
    · have hltI : (k : Int) < (M.length : Int) := by omega
      obtain ⟨b, off, rfl, hbl, hc⟩ := (HR.out.below hb) (by omega)
      have v0 := (hc k hlt).1
      have v1 := (hc k hlt).2
      have hx := HW.out _ (getD_memN hlt)
      have hsz := HS.out _ (getD_memN hlt)
      have HT := hidS (nmB_take hlt)
      have HLE : Hid ((nmB (M.take k)).length ≤ 2368) := hidS (by
        have h1 := nmB_le (M := M.take k) (fun e he => HS.out e (List.mem_of_mem_take he))
        rw [List.length_take] at h1
        omega)
      obtain ⟨st, hst⟩ : ∃ st, (M.getD k (.empty, 0)).1 = st := ⟨_, rfl⟩
      obtain ⟨x, hxx⟩ : ∃ x, (M.getD k (.empty, 0)).2 = x := ⟨_, rfl⟩
      rw [hst] at v0 hsz HT
      rw [hxx] at v1 hx HT
      clear hst hxx hc
      generalize nmB (M.take k) = Z at *
      have hb2 : Below w.heap.size w (wr.alloc (.cells #[.string st, .int .u32 (x : Int)] 59)) := belS hb
      have hP := put_one x (wr.alloc (.cells #[.string st, .int .u32 (x : Int)] 59)) hx
      have hlA := heap_alloc_last wr (.cells #[.string st, .int .u32 (x : Int)] 59)
      have hsI : (st.size : Int) ≤ 32 := by omega
      have hsw : IntKind.u8.wrap (st.size : Int) = (st.size : Int) := by rw [IntKind.wrap_u8]; omega
      have hown1 := hown.alloc (.cells #[.string st, .int .u32 (x : Int)] 59)
      clear hown
      go_wp2_with fail
      generalize hW1 : wr.alloc (.cells #[.string st, .int .u32 (x : Int)] 59) = W1 at *
      have hsz1 : W1.heap.size = wr.heap.size + 1 := by rw [← hW1]; simp
      clear hW1
      have hP2 := hP
      rw [hsz1] at hP2
      with_reducible refine hP2.mono ?_
      rintro e w2 ⟨v2, rfl, own2, b2⟩
      replace b2 : Below W1.heap.size W1 w2 := by rw [hsz1]; exact b2
      have B2 := btS hb2 b2
      have hs2 := b2.size
      have hl2 : w2.heap[wr.heap.size]? = some (.cells #[.string st, .int .u32 (x : Int)] 59) := (b2.block wr.heap.size (by omega)).trans hlA
      have own1 := own_below hown1 b2
      have hbs := hb.size
      clear hP hP2 hown1 hlA v0 v1
      go_wp2_with (at_builtin; refine wpList_append_row rfl _ _ 24 rfl w.heap.size 5 i0 (.int .u8 0) 1 1 Tryd.underlying24 hi hz0 hz1 hz2 rfl (by decide) _ _ _ rfl own1 _ _ _ _ rfl own2 (bv_one1 _) ?a1 ?a2 ?a3 ?_)
      case a1 => have := HLE.out; unfold maxLen; omega
      case a2 => have := HLE.out; omega
      case a3 => omega
      intro v3 w3 own3 g3
      have hl3 := row_keep own1 hl2 (by decide) g3
      have B3 : Below w.heap.size w w3 := grown_below2 B2 (by omega) own1 g3
      have hs3 := g3.size
      have k0 := blk_cell hl3 (i := 0) rfl
      clear own1 own2 g3 hl2
      have own4 := own3.alloc (.cells #[.int .u8 (st.size : Int)] 5)
      go_wp2_with (at_builtin; refine wpList_append_own _ rfl _ _ 24 rfl w.heap.size 5 i0 (.int .u8 0) 1 1 Tryd.underlying24 hi hz0 hz1 hz2 rfl (by decide) _ _ _ rfl own4 ⟨_, 0, none⟩ 1 1 [.int .u8 (st.size : Int)] rfl rfl ?d1 ?d2 ?d3 ?d4 ?d5 ?_)
      case d1 =>
        intro j u hj
        match j, hj with
        | 0, hj => simp at hj; subst hj; simp [Addr.add]
      case d2 => intro u hu; simp at hu; subst hu; rfl
      case d3 => have := HLE.out; unfold maxLen; omega
      case d4 => have := HLE.out; omega
      case d5 => simp; omega
      intro v5 w5 own5 g5 _
      have hl4 : (w3.alloc (.cells #[.int .u8 (st.size : Int)] 5)).heap[wr.heap.size]? = some (.cells #[.string st, .int .u32 (x : Int)] 59) := by
        rw [Below.heap_alloc _ _ _ (by omega)]; exact hl3
      have hl5 := row_keep own4 hl4 (by decide) g5
      have B5 : Below w.heap.size w w5 := grown_below2 (belS B3) (by simp; omega) own4 g5
      have hs5 := g5.size
      have k5 := blk_cell hl5 (i := 0) rfl
      have hs35 : w3.heap.size ≤ w5.heap.size := by have := g5.size; simp at this; omega
      clear own3 own4 g5 hl4 hl3 k0
      go_wp2_with (at_builtin; refine Lib.wpList_append_own_string _ rfl _ _ 24 9 rfl w.heap.size 5 i0 Tryd.underlying24 Tryd.underlying9 hi hz0 hz1 hz2 _ _ _ rfl own5 st rfl ?e1 ?e2 ?e3 ?_)
      case e1 => have := HLE.out; unfold maxLen; omega
      case e2 => have := HLE.out; omega
      case e3 => omega
      intro v6 w6 own6 g6 _
      have B6 : Below w.heap.size w w6 := grown_below2 B5 (by omega) own5 g6
      have HOW : Hid (w6.ownsRow w.heap.size 5 1 v6 (nmB (M.take (k + 1))).length (bv (nmB (M.take (k + 1))))) := hidS (by
        rw [HT.out]
        have e1 : (Z ++ (nb 4 (x : Int) ++ ((st.size : Int) :: bzs st))).length = Z.length + 4 + 1 + st.size := by
          simp [nb_len, bzs_len]; omega
        have e2 : bv (Z ++ (nb 4 (x : Int) ++ ((st.size : Int) :: bzs st))) = bv Z ++ (bv (nb 4 (x : Int)) ++ .int .u8 (st.size : Int) :: Lib.strCells st) := by
          rw [bzs_cells]; simp [bv]
        rw [e1, e2]
        exact own6)
      clear own5 own6 g6 hl5 k5
      go_wp2_with fail
      go_roundw
      case rel => exact ⟨k + 1, by omega, by go_num, HOW.out, B6⟩
      case measure => simp [intOf]; omega
    · obtain rfl : k = M.length := by omega
      have HOW := hidS hown
      clear hown
      go_wp2_with fail
      go_ret
      exact ⟨_, rfl, by have := HOW.out; rwa [List.take_length] at this, hb⟩
/-- an image that may be read -/
structure ImR (w : World) (B : Nat) (I : Im) (ac aj ad an : Option Addr) (cd cn : Nat) : Prop where
  code : CRd w ac I.L B
  jmp : JRd w aj I.J B
  dat : Reads w ad I.D B
  nam : NRd w an I.M B
  dcap : I.D.length ≤ cd
  ncap : I.M.length ≤ cn
theorem ImR.below {w w' : World} {B : Nat} {I : Im} {ac aj ad an : Option Addr} {cd cn : Nat} (h : ImR w B I ac aj ad an cd cn) (hb : Below B w w') : ImR w' B I ac aj ad an cd cn := ⟨h.code.below hb, h.jmp.below hb, h.dat.below hb, h.nam.below hb, h.dcap, h.ncap⟩
theorem ImR.mono {w : World} {B C : Nat} {I : Im} {ac aj ad an : Option Addr} {cd cn : Nat} (h : ImR w B I ac aj ad an cd cn) (hb : B ≤ C) : ImR w C I ac aj ad an cd cn := ⟨h.code.mono hb, h.jmp.mono hb, h.dat.mono hb, h.nam.mono hb, h.dcap, h.ncap⟩
/-- an image that may be, whatever Check says of it -/
structure ImW (I : Im) : Prop where
  wfc : Wfc I.L
  jwf : ∀ j ∈ I.J, j < 4294967296
  dwf : ∀ z ∈ I.D, 0 ≤ z ∧ z ≤ 255
  z32 : I.z < 4294967296
  st32 : I.st < 4294967296
  nwf : NmW I.M
/-- an image that Check takes -/
structure ImK (I : Im) : Prop where
  w : ImW I
  ok : allOk I.L = true
  len : I.L.length ≤ 16384
  jlen : I.J.length ≤ 16384
  sok : stOk I.st = true
  room : I.D.length + I.z + I.st ≤ 65536
  nok : namesOk I.M = true
/-- what Check says of an image -/
def ckI (I : Im) : Nat := ckV I.L I.J.length I.D.length I.z I.st I.M
theorem bad_er {L : List (Nat × Nat)} (h : allOk L = false) (h2 : erV (L.getD (badAt L) (0, 0)).1 (L.getD (badAt L) (0, 0)).2 = 0) : False := by
  unfold allOk at h
  have : ∃ k, k < L.length ∧ okI (L.getD k (0, 0)) = false := by
    rw [List.all_eq_false] at h
    obtain ⟨p, hp, hq⟩ := h
    obtain ⟨k, hk, rfl⟩ := List.mem_iff_getElem.1 hp
    exact ⟨k, hk, by simpa [List.getD_eq_getElem?_getD, hk] using hq⟩
  obtain ⟨k, hk, hb⟩ := this
  have hex : ∃ m, m < L.length ∧ okI (L.getD m (0, 0)) = false ∧ ∀ j, j < m → okI (L.getD j (0, 0)) = true := by
    clear h h2
    induction k using Nat.strongRecOn with
    | _ k ih =>
      by_cases hall : ∀ j, j < k → okI (L.getD j (0, 0)) = true
      · exact ⟨k, hk, hb, hall⟩
      · simp only [Classical.not_forall] at hall
        obtain ⟨j, hj, hnj⟩ := hall
        exact ih j hj (by omega) (by simpa using hnj)
  obtain ⟨m, hm, hb2, hall⟩ := hex
  obtain ⟨q1, _⟩ := badAt_of L m hm hall hb2
  rw [q1] at h2
  unfold okI at hb2
  rw [h2] at hb2
  simp at hb2
theorem enc0 {L : List (Nat × Nat)} (h : encX L = 0) : L.length ≤ 16384 ∧ allOk L = true := by
  unfold encX at h
  split at h
  · cases h
  · rename_i h1
    refine ⟨by omega, ?_⟩
    split at h
    · assumption
    · rename_i h2
      exfalso
      apply h2
      refine allOk_of L fun j hj => ?_
      cases hj2 : allOk L with
      | true => exact absurd hj2 h2
      | false =>
        exfalso
        exact bad_er hj2 h
theorem ckI_0 {I : Im} (hw : ImW I) : ckI I = 0 ↔ ImK I := by
  constructor
  · intro h
    obtain ⟨a, b, c, d, e⟩ := ckV_0 h
    obtain ⟨a1, a2⟩ := enc0 a
    exact ⟨hw, a2, a1, b, c, d, e⟩
  · intro h
    unfold ckI ckV
    have e1 : encX I.L = 0 := by unfold encX; rw [if_neg (by have := h.len; omega), if_pos h.ok]
    rw [if_pos e1, if_neg (by have := h.jlen; omega), if_pos ⟨h.sok, h.room⟩, if_pos h.nok]
end Go.Proofs.YtnplimdcfbgpeaaDoor
namespace Go.Proofs.YtnplimdcfbgpeaaDoor
open Go.RowKit Go.WideShapes Go.Sort Go.Lib
set_option maxRecDepth 100000

theorem set4_cellO (w : World) (b c i : Nat) (x0 x1 x2 x3 : Value) (h : c ≠ b) : ((((w.setCell ⟨b, 0, none⟩ x0).setCell ⟨b, 1, none⟩ x1).setCell ⟨b, 2, none⟩ x2).setCell ⟨b, 3, none⟩ x3).cell? ⟨c, i, none⟩ = w.cell? ⟨c, i, none⟩ := by
  refine World.cell?_of_block (w := w) (a := ⟨c, i, none⟩) ?_
  rw [Below.heap_setCell _ _ _ _ h, Below.heap_setCell _ _ _ _ h, Below.heap_setCell _ _ _ _ h, Below.heap_setCell _ _ _ _ h]
theorem set4_blkO {w : World} {b : Nat} {y0 y1 y2 y3 : Value} {t : TypeId} (x0 x1 x2 x3 : Value) (h : w.heap[b]? = some (.cells #[y0, y1, y2, y3] t)) : ((((w.setCell ⟨b, 0, none⟩ x0).setCell ⟨b, 1, none⟩ x1).setCell ⟨b, 2, none⟩ x2).setCell ⟨b, 3, none⟩ x3).heap[b]? = some (.cells #[x0, x1, x2, x3] t) := by
  have hlt := (Array.getElem?_eq_some_iff.1 h).1
  have hv := (Array.getElem?_eq_some_iff.1 h).2
  simp [World.setCell, Array.getElem?_modify, h]
theorem set4_belowO (w : World) {B b : Nat} (x0 x1 x2 x3 : Value) (h : B ≤ b) : Below B w ((((w.setCell ⟨b, 0, none⟩ x0).setCell ⟨b, 1, none⟩ x1).setCell ⟨b, 2, none⟩ x2).setCell ⟨b, 3, none⟩ x3) :=
  ((((Below.refl B w).setCell (p := ⟨b, 0, none⟩) h x0).setCell (p := ⟨b, 1, none⟩) h x1).setCell (p := ⟨b, 2, none⟩) h x2).setCell (p := ⟨b, 3, none⟩) h x3
theorem set4_ownO {w : World} {B e sz n b : Nat} {v : Value} {xs : List Value} (h : w.ownsRow B e sz v n xs) (x0 x1 x2 x3 : Value) (hb : b < B) : ((((w.setCell ⟨b, 0, none⟩ x0).setCell ⟨b, 1, none⟩ x1).setCell ⟨b, 2, none⟩ x2).setCell ⟨b, 3, none⟩ x3).ownsRow B e sz v n xs :=
  own_setI (own_setI (own_setI (own_setI h hb) hb) hb) hb
theorem JRd.K {w : World} {aj : Option Addr} {J : List Nat} {B : Nat} (h : JRd w aj J B) : ReadsK w .u32 aj (jI J) B := by
  intro hl
  rw [jI_len] at hl
  obtain ⟨b, off, e, hlt, hc⟩ := h hl
  refine ⟨b, off, e, hlt, fun j hj => ?_⟩
  rw [jI_len] at hj
  rw [hc j hj]
  simp [jI, List.getD_eq_getElem?_getD, hj]
theorem putJ_any (aj : Option Addr) (cj : Nat) (J : List Nat) (w : World) (hl : J.length ≤ 16384) (hJ : ∀ j ∈ J, j < 4294967296) (hr : JRd w aj J w.heap.size) :
    Calls Tryd.prog 33 #[.slice aj J.length cj] w fun e w' => ∃ v, e = .returned v ∧ w'.ownsRow w.heap.size 5 1 v (jmB J).length (bv (jmB J)) ∧ Below w.heap.size w w' := by
  have h := put_u32 aj cj (jI J) w (by rw [jI_len]; omega) (fun z hz => by
    obtain ⟨j, hj, rfl⟩ := List.mem_map.1 hz
    have := hJ j hj
    show 0 ≤ (j : Int) ∧ (j : Int) < 4294967296
    omega) hr.K
  rw [jI_len] at h
  refine h.mono ?_
  rintro e w' ⟨v, rfl, o, b⟩
  refine ⟨v, rfl, ?_, b⟩
  rw [jmB_len]
  have e1 : puts 4 (jI J) J.length = jmB J := by rw [← jI_len, puts_jI]
  rwa [e1] at o
theorem encK {I : Im} (h : ImK I) : encB I.L = encF I.L ∧ encI I.L = 0 ∧ encX I.L = 0 := by
  have h1 := h.len
  refine ⟨by unfold encB; rw [if_neg (by omega), if_pos h.ok], by unfold encI; rw [if_neg (by omega), if_pos h.ok], by unfold encX; rw [if_neg (by omega), if_pos h.ok]⟩
theorem arm_keep {w2 U w3 : World} {B e sz n : Nat} {v : Value} {xs : List Value} (own : w2.ownsRow B e sz v n xs) (hq : Below U.heap.size U w3) (hU : Below w2.heap.size w2 U) : w3.ownsRow B e sz v n xs := own_below (own_below own hU) hq
theorem undA4 : ∃ n e, Tryd.prog.underlying 62 = some (.array n e) := by
  have h : (match Tryd.prog.underlying 62 with | some (.array _ _) => true | _ => false) = true := by kernel_rfl
  split at h
  · exact ⟨_, _, by assumption⟩
  · cases h
theorem infoA4 : (Tryd.prog.info? 62).map (·.size) = some 4 := by kernel_rfl
theorem arm_low {w1 U w2 : World} {e sz n : Nat} {v : Value} {xs : List Value} (hq : Below U.heap.size U w2) (own : w2.ownsRow U.heap.size e sz v n xs) (hU : Below w1.heap.size w1 U) : Below w1.heap.size w1 w2 ∧ w2.ownsRow w1.heap.size e sz v n xs := ⟨btP hU hq, own_lowM own hU.size⟩
set_option maxHeartbeats 4000000 in
theorem parts_any (I : Im) (ac aj ad an : Option Addr) (cc cj cd cn : Nat) (w : World) (hk : ImK I) (hr : ImR w w.heap.size I ac aj ad an cd cn) :
    Calls Tryd.prog 23 #[imV ac I.L.length cc aj I.J.length cj ad I.D.length cd I.z I.st an I.M.length cn] w fun e w' => ∃ v0 v1 v3, e = .returned (.agg #[v0, v1, .slice ad I.D.length cd, v3]) ∧ w'.ownsRow w.heap.size 5 1 v0 (encF I.L).length (bv (encF I.L)) ∧ w'.ownsRow w.heap.size 5 1 v1 (jmB I.J).length (bv (jmB I.J)) ∧ w'.ownsRow w.heap.size 5 1 v3 (nmB I.M).length (bv (nmB I.M)) ∧ Below w.heap.size w w' := by
  obtain ⟨W0, hW0⟩ : ∃ W0, (w.alloc (.cells (imC ac I.L.length cc aj I.J.length cj ad I.D.length cd I.z I.st an I.M.length cn) 28)).alloc (.cells #[.slice none 0 0, .slice none 0 0, .slice none 0 0, .slice none 0 0] 62) = W0 := ⟨_, rfl⟩
  have hb0 : Below w.heap.size w W0 := by rw [← hW0]; exact belS (belS (Below.refl _ _))
  have hs0 : W0.heap.size = w.heap.size + 2 := by rw [← hW0]; simp
  have hI0 : W0.heap[w.heap.size]? = some (.cells (imC ac I.L.length cc aj I.J.length cj ad I.D.length cd I.z I.st an I.M.length cn) 28) := by
    rw [← hW0, Below.heap_alloc _ _ _ (by simp)]; exact heap_alloc_last w _
  have hR0 : W0.heap[w.heap.size + 1]? = some (.cells #[.slice none 0 0, .slice none 0 0, .slice none 0 0, .slice none 0 0] 62) := by
    have := heap_alloc_last (w.alloc (.cells (imC ac I.L.length cc aj I.J.length cj ad I.D.length cd I.z I.st an I.M.length cn) 28)) (.cells #[.slice none 0 0, .slice none 0 0, .slice none 0 0, .slice none 0 0] 62)
    rw [hW0] at this
    simpa using this
  have HCE : Hid (∀ W, Below W0.heap.size W0 W → ∀ i, W.cell? ⟨w.heap.size, i, none⟩ = (imC ac I.L.length cc aj I.J.length cj ad I.D.length cd I.z I.st an I.M.length cn)[i]?) := hidS (fun W hW i => obj_cell ((hW.block _ (by omega)).trans hI0) i)
  have HRB : Hid (∀ W, Below W0.heap.size W0 W → W.heap[w.heap.size + 1]? = some (.cells #[.slice none 0 0, .slice none 0 0, .slice none 0 0, .slice none 0 0] 62)) := hidS (fun W hW => (hW.block _ (by omega)).trans hR0)
  obtain ⟨k1, k2, k3⟩ := encK hk
  have hE := encode_any ac cc I.L W0 (by have := hk.len; omega) hk.w.wfc ((hr.code.below hb0).mono hb0.size)
  rw [k1, k2, k3] at hE
  have HPJ : Hid (∀ W, Below W0.heap.size W0 W → Calls Tryd.prog 33 #[.slice aj I.J.length cj] W fun e w' => ∃ v, e = .returned v ∧ w'.ownsRow W.heap.size 5 1 v (jmB I.J).length (bv (jmB I.J)) ∧ Below W.heap.size W w') := hidS (fun W hW => putJ_any aj cj I.J W hk.jlen hk.w.jwf ((hr.jmp.below (btS hb0 hW)).mono (btS hb0 hW).size))
  have HNB : Hid (∀ W, Below W0.heap.size W0 W → Calls Tryd.prog 35 #[.slice an I.M.length cn] W fun e w' => ∃ v, e = .returned v ∧ w'.ownsRow W.heap.size 5 1 v (nmB I.M).length (bv (nmB I.M)) ∧ Below W.heap.size W w') := hidS (fun W hW => namesB_any an cn I.M W (namesOk_len hk.nok) (fun e he => (namesOk_size hk.nok e he).2) hk.w.nwf ((hr.nam.below (btS hb0 hW)).mono (btS hb0 hW).size))
  have HW0 := hidS hW0
  have c0 := HCE.out W0 (Below.refl _ _) 0
  simp only [List.getElem?_toArray, List.getElem?_cons_zero] at c0
  clear hr hI0 hR0 k1 k2 k3 hW0 hk
  go_enter Tryd.func23, Tryd.ntmps23
  go_wp2_with (go_at_call 34; rw [HW0.out]; with_reducible refine hE.mono ?_; rintro e w1 ⟨v0, rfl, own0, b1⟩)
  obtain ⟨a0, q0, rfl, _⟩ := own_cap2 own0
  have HO0 := hidS own0
  have HB1 := hidS b1
  clear own0 hE c0
  have gW : ∀ U, Below w1.heap.size w1 U → (U.cell? ⟨w.heap.size, 1, none⟩ = some (.slice aj I.J.length cj) ∧ U.cell? ⟨w.heap.size, 2, none⟩ = some (.slice ad I.D.length cd) ∧ U.cell? ⟨w.heap.size, 5, none⟩ = some (.slice an I.M.length cn)) := fun U hU => by
    have hc := HCE.out U (btS HB1.out hU)
    exact ⟨hc 1, hc 2, hc 5⟩
  have HB : Below w1.heap.size w1 w1 := Below.refl _ _
  have kS : ∀ U, Below w1.heap.size w1 U → ∀ x0 x1 x2 x3, (((((U.setCell ⟨w.heap.size + 1, 0, none⟩ x0).setCell ⟨w.heap.size + 1, 1, none⟩ x1).setCell ⟨w.heap.size + 1, 2, none⟩ x2).setCell ⟨w.heap.size + 1, 3, none⟩ x3).cell? ⟨w.heap.size, 1, none⟩ = some (.slice aj I.J.length cj) ∧ ((((U.setCell ⟨w.heap.size + 1, 0, none⟩ x0).setCell ⟨w.heap.size + 1, 1, none⟩ x1).setCell ⟨w.heap.size + 1, 2, none⟩ x2).setCell ⟨w.heap.size + 1, 3, none⟩ x3).cell? ⟨w.heap.size, 2, none⟩ = some (.slice ad I.D.length cd) ∧ ((((U.setCell ⟨w.heap.size + 1, 0, none⟩ x0).setCell ⟨w.heap.size + 1, 1, none⟩ x1).setCell ⟨w.heap.size + 1, 2, none⟩ x2).setCell ⟨w.heap.size + 1, 3, none⟩ x3).cell? ⟨w.heap.size, 5, none⟩ = some (.slice an I.M.length cn)) := fun U hU x0 x1 x2 x3 => by
    rw [set4_cellO _ _ _ _ _ _ _ _ (by omega), set4_cellO _ _ _ _ _ _ _ _ (by omega), set4_cellO _ _ _ _ _ _ _ _ (by omega)]
    exact gW U hU
  have HPJ1 : Hid (∀ W, Below w1.heap.size w1 W → Calls Tryd.prog 33 #[.slice aj I.J.length cj] W fun e w' => ∃ v, e = .returned v ∧ w'.ownsRow W.heap.size 5 1 v (jmB I.J).length (bv (jmB I.J)) ∧ Below W.heap.size W w') := hidS (fun W hW => HPJ.out W (btS HB1.out hW))
  have HNB1 : Hid (∀ W, Below w1.heap.size w1 W → Calls Tryd.prog 35 #[.slice an I.M.length cn] W fun e w' => ∃ v, e = .returned v ∧ w'.ownsRow W.heap.size 5 1 v (nmB I.M).length (bv (nmB I.M)) ∧ Below W.heap.size W w') := hidS (fun W hW => HNB.out W (btS HB1.out hW))
  have HRB1 : Hid (∀ W, Below w1.heap.size w1 W → W.heap[w.heap.size + 1]? = some (.cells #[.slice none 0 0, .slice none 0 0, .slice none 0 0, .slice none 0 0] 62)) := hidS (fun W hW => HRB.out W (btS HB1.out hW))
  have HS0 := hidS hs0
  clear HPJ HNB HRB HCE b1 hb0 hs0
  go_region_held3 (fun U => U.cell? ⟨w.heap.size, 1, none⟩ = some (.slice aj I.J.length cj) ∧ U.cell? ⟨w.heap.size, 2, none⟩ = some (.slice ad I.D.length cd) ∧ U.cell? ⟨w.heap.size, 5, none⟩ = some (.slice an I.M.length cn)) (first
      | (refine gW _ ?_; (repeat (first | exact HB | exact Below.refl _ _ | with_reducible refine belP ?_ | with_reducible refine Below.drew ?_)); done)
      | (refine kS _ ?_ _ _ _ _; (repeat (first | exact HB | exact Below.refl _ _ | with_reducible refine belP ?_ | with_reducible refine Below.drew ?_)))) (first
    | (go_at_call 33; with_reducible refine (HPJ1.out _ (show Below w1.heap.size w1 _ from by (repeat (first | exact HB | exact Below.refl _ _ | with_reducible refine belP ?_ | with_reducible refine Below.drew ?_)))).mono ?_; rintro e w2 ⟨v1, rfl, own1, hq⟩; obtain ⟨a1, q1, rfl, _⟩ := own_cap2 own1; have HX := arm_low (w1 := w1) hq own1 (by (repeat (first | exact HB | exact Below.refl _ _ | with_reducible refine belP ?_ | with_reducible refine Below.drew ?_))); replace HB : Below w1.heap.size w1 w2 := HX.1; have HO1 := hidS HX.2; clear hq own1 HX)
    | (go_at_call 35; with_reducible refine (HNB1.out _ (show Below w1.heap.size w1 _ from by (repeat (first | exact HB | exact Below.refl _ _ | with_reducible refine belP ?_ | with_reducible refine Below.drew ?_)))).mono ?_; rintro e w3 ⟨v3, rfl, own3, hq⟩; obtain ⟨a3, q3, rfl, _⟩ := own_cap2 own3; have HO1K := hidS (arm_keep HO1.out hq (by (repeat (first | exact Below.refl _ _ | with_reducible refine belP ?_ | with_reducible refine Below.drew ?_)))); have HX := arm_low (w1 := w1) hq own3 (by (repeat (first | exact HB | exact Below.refl _ _ | with_reducible refine belP ?_ | with_reducible refine Below.drew ?_))); have HQ3 := hidS hq; replace HB : Below w1.heap.size w1 w3 := HX.1; have HO3 := hidS HX.2; clear hq own3 HX; have E3 := HRB1.out _ HB; have k0 := blk_cell E3 (i := 0) rfl; have k1 := blk_cell E3 (i := 1) rfl; have k2 := blk_cell E3 (i := 2) rfl; have k3 := blk_cell E3 (i := 3) rfl; have z0 := blk_frozen E3 (i := 0); have z1 := blk_frozen E3 (i := 1); have z2 := blk_frozen E3 (i := 2); have z3 := blk_frozen E3 (i := 3); clear E3))
  have hb0 : Below w.heap.size w w1 := by
    have h1 : Below w.heap.size w W0 := by rw [← HW0.out]; exact belS (belS (Below.refl _ _))
    exact btS h1 HB1.out
  have hs0 := HS0.out
  have hs1 := HB1.out.size
  have F := set4_blkO (.slice a0 (encF I.L).length q0) (.slice a1 (jmB I.J).length q1) (.slice ad I.D.length cd) (.slice a3 (nmB I.M).length q3) (HRB1.out w3 HB)
  have hX := (btS hb0 HB).trans (set4_belowO w3 (B := w.heap.size) (b := w.heap.size + 1) (.slice a0 (encF I.L).length q0) (.slice a1 (jmB I.J).length q1) (.slice ad I.D.length cd) (.slice a3 (nmB I.M).length q3) (by omega))
  have O0 := hidS (own_lowM (B' := w.heap.size) (set4_ownO (b := w.heap.size + 1) (own_below HO0.out HB) (.slice a0 (encF I.L).length q0) (.slice a1 (jmB I.J).length q1) (.slice ad I.D.length cd) (.slice a3 (nmB I.M).length q3) (by omega)) (by omega))
  have O1 := hidS (own_lowM (B' := w.heap.size) (set4_ownO (b := w.heap.size + 1) (HO1K.out) (.slice a0 (encF I.L).length q0) (.slice a1 (jmB I.J).length q1) (.slice ad I.D.length cd) (.slice a3 (nmB I.M).length q3) (by omega)) (by omega))
  have O3 := hidS (own_lowM (B' := w.heap.size) (set4_ownO (b := w.heap.size + 1) HO3.out (.slice a0 (encF I.L).length q0) (.slice a1 (jmB I.J).length q1) (.slice ad I.D.length cd) (.slice a3 (nmB I.M).length q3) (by omega)) (by omega))
  clear k0 k1 k2 k3 z0 z1 z2 z3 HO0 HO1 HO3 gW kS HPJ1 HNB1 HRB1
  generalize ((((w3.setCell ⟨w.heap.size + 1, 0, none⟩ (.slice a0 (encF I.L).length q0)).setCell ⟨w.heap.size + 1, 1, none⟩ (.slice a1 (jmB I.J).length q1)).setCell ⟨w.heap.size + 1, 2, none⟩ (.slice ad I.D.length cd)).setCell ⟨w.heap.size + 1, 3, none⟩ (.slice a3 (nmB I.M).length q3)) = W4 at *
  go_wp2_with fail
  obtain ⟨n4, e4, hu⟩ := undA4
  refine bodyPost_ret (results_cell_row (p := 2) (ty := 62) (by kernel_rfl) _ _ (w.heap.size + 1) 62 _ (0, 0) _ rfl F hu rfl (by rw [infoA4]; rfl)) rfl ⟨_, _, _, rfl, O0.out, O1.out, O3.out, hX⟩
end Go.Proofs.YtnplimdcfbgpeaaDoor
