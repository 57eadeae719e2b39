import Derived.Test.YtnplimdcfbgpeaaDoorCOSm
import Derived.Test.YtnplimdcfbgpeaaDoorOLo
namespace Go.Proofs.YtnplimdcfbgpeaaDoor
open Go.RowKit Go.WideShapes Go.Sort Go.Lib
set_option maxRecDepth 100000

/-- is a place one of those of the spans? -/
def inS (S : List (Nat × Nat)) (i : Nat) : Prop := ∃ k, k < S.length ∧ (S.getD k (0, 0)).1 ≤ i ∧ i < (S.getD k (0, 0)).1 + (S.getD k (0, 0)).2
theorem inS_mem {S : List (Nat × Nat)} {i : Nat} {p : Nat × Nat} (hp : p ∈ S) (h1 : p.1 ≤ i) (h2 : i < p.1 + p.2) : inS S i := by
  obtain ⟨k, hk, rfl⟩ := List.mem_iff_getElem.1 hp
  exact ⟨k, hk, by simpa [List.getD_eq_getElem?_getD, hk] using h1, by simpa [List.getD_eq_getElem?_getD, hk] using h2⟩
theorem cut_of {zs ys : List Int} (hl : zs.length = ys.length) (p : Nat × Nat) (h : ∀ i, p.1 ≤ i → i < p.1 + p.2 → zs[i]? = ys[i]?) : cutV zs p = cutV ys p := by
  unfold cutV
  rw [hl]
  split
  · refine List.ext_getElem? fun i => ?_
    rw [List.getElem?_take, List.getElem?_take]
    split
    · rw [List.getElem?_drop, List.getElem?_drop]
      exact h _ (by omega) (by omega)
    · rfl
  · rfl
/-- what stands in the gaps says nothing -/
theorem par_gap {zs cs : List Int} {I : Im} (h : ParR zs I) (hl : cs.length = zs.length) (hag : ∀ i, i < zs.length → inS (spL zs ++ [(0, 64)]) i → cs[i]? = zs[i]?) : ParR (wth 4 cs 8 (sumV cs)) I := by
  have h64 := h.lo
  have hld : (wth 4 cs 8 (sumV cs)).length = zs.length := by rw [wth_len _ _ _ _ (by omega), hl]
  have hr := sumV_range cs
  have hdr : ∀ i, i < 64 → cs[i]? = zs[i]? := fun i hi => hag i (by omega) (inS_mem (p := (0, 64)) (by simp) (by show 0 ≤ i; omega) (by show i < 0 + 64; omega))
  have hat : ∀ q : Nat, q + 4 ≤ 64 → (q + 4 ≤ 8 ∨ 12 ≤ q) → atv 4 (wth 4 cs 8 (sumV cs)) q = atv 4 zs q := fun q h1 h2 => by
    rw [atv_ne (by omega) (by omega)]
    exact atv_of hl q (fun i a b => hdr i (by omega))
  have hwd : ∀ q : Nat, q + 4 ≤ 64 → (q + 4 ≤ 8 ∨ 12 ≤ q) → wdA (wth 4 cs 8 (sumV cs)) q = wdA zs q := fun q h1 h2 => by
    unfold wdA; rw [hat q h1 h2]
  have hsp : spL (wth 4 cs 8 (sumV cs)) = spL zs := by
    rw [spL_eq, spL_eq zs]
    have hk : ∀ k, k < 4 → (spL (wth 4 cs 8 (sumV cs))).getD k (0, 0) = (spL zs).getD k (0, 0) := fun k hk => by
      have h3 : pA k + 8 ≤ 48 ∧ 16 ≤ pA k := by unfold pA; omega
      rw [spL_get _ k hk, spL_get _ k hk, hwd _ (by omega) (by omega), hwd _ (by omega) (by omega)]
    rw [hk 0 (by omega), hk 1 (by omega), hk 2 (by omega), hk 3 (by omega)]
  have hlap : ∀ k, k < 4 → lapB (0, 64) ((spL zs).getD k (0, 0)) = false := fun k hk => by
    have h1 := (List.pairwise_cons.1 h.sp.2).1
    refine h1 _ ?_
    rw [spL_eq]
    rcases (show k = 0 ∨ k = 1 ∨ k = 2 ∨ k = 3 by omega) with rfl | rfl | rfl | rfl <;> simp
  have hcut : ∀ k, k < 4 → cutV (wth 4 cs 8 (sumV cs)) ((spL zs).getD k (0, 0)) = cutV zs ((spL zs).getD k (0, 0)) := fun k hk => by
    have hw := h.sp.1 k hk
    have hp : (spL zs).getD k (0, 0) ∈ spL zs ++ [(0, 64)] := by
      rw [List.mem_append]
      left
      rw [spL_eq]
      rcases (show k = 0 ∨ k = 1 ∨ k = 2 ∨ k = 3 by omega) with rfl | rfl | rfl | rfl <;> simp
    have hb := hlap k hk
    generalize (spL zs).getD k (0, 0) = p at *
    refine cut_of hld p fun i h1 h2 => ?_
    have h3 : 64 ≤ p.1 := by
      unfold lapB at hb
      simp only [Bool.and_eq_false_iff, decide_eq_false_iff_not] at hb
      omega
    rw [wth_at _ _ _ (by omega), if_neg (by omega), if_neg (by omega)]
    exact hag i (by omega) (inS_mem hp h1 h2)
  have a := h.sg
  refine ⟨by omega, by have := h.hi; omega, ⟨?_, ?_, ?_, ?_, ?_⟩, ?_, ?_⟩
  · rw [wth_take4 (by decide) (by omega)]
    have e : cs.take 4 = zs.take 4 := by
      refine List.ext_getElem? fun i => ?_
      rw [List.getElem?_take, List.getElem?_take]
      split
      · exact hdr i (by omega)
      · rfl
    rw [e]; exact h.hd.1
  · exact (hat 4 (by decide) (by decide)).trans h.hd.2.1
  · have e1 : atv 4 (wth 4 cs 8 (sumV cs)) ((8 : Nat) : Int) = sumV cs := atv_eq (by omega) hr.1 hr.2
    have e2 : sumV (wth 4 cs 8 (sumV cs)) = sumV cs := sumV_wth (by omega)
    rw [e2]; exact e1
  · exact (hat 56 (by decide) (by decide)).trans h.hd.2.2.2.1
  · exact (hat 60 (by decide) (by decide)).trans h.hd.2.2.2.2
  · rw [hsp, hld]; exact h.sp
  · rw [hsp]
    exact ⟨(hcut 0 (by omega)).trans a.code, a.ok, a.wfc, a.len, (hat 12 (by decide) (by decide)).trans a.cnt, (hcut 1 (by omega)).trans a.jmp, a.jwf, a.jlen, (hcut 2 (by omega)).trans a.dat, (hat 48 (by decide) (by decide)).trans a.zer, (hat 52 (by decide) (by decide)).trans a.stk, a.sok, a.room, (hcut 3 (by omega)).trans a.nam, a.nok, a.nwf⟩
set_option maxHeartbeats 1000000 in
theorem seal_told (ao : Option Addr) (cap : Nat) (zs : List Int) (w : World) (hn : zs.length ≤ 1048576) (h64 : 64 ≤ zs.length) (hwf : ∀ z ∈ zs, 0 ≤ z ∧ z ≤ 255) (hr : Reads w ao zs w.heap.size) :
    Calls Tryd.prog 16 #[.slice ao zs.length cap] w fun e w' => ∃ v, e = .returned (.tuple #[v, .int .i64 0]) ∧ w'.ownsRow w.heap.size 5 1 v zs.length (bv (wth 4 zs 8 (sumV zs))) ∧ Below w.heap.size w w' := by
  have hL := lenF_ok ao zs.length cap w h64 hn
  have hS := sumOf_any ao cap zs w (by omega) h64 hwf hr
  have hW := hidS fun (W : World) (hb : Below w.heap.size w W) => with_u32 ao cap zs 8 (sumV zs) W (by omega) ((hr.below hb).mono hb.size) (by decide) (by decide) (sumV_range zs).1 (sumV_range zs).2 ⟨by decide, by omega⟩
  clear hr hwf hn h64
  go_enter Tryd.func16, Tryd.ntmps16
  go_wp2_with fail
  with_reducible refine hL.mono ?_
  rintro e wq ⟨rfl, hq⟩
  subst wq
  go_wp2_with fail
  with_reducible refine hS.mono ?_
  rintro e w1 ⟨rfl, b1⟩
  have h2 := hW.out w1 b1
  clear hW hS hL
  go_wp2_with fail
  with_reducible refine h2.mono ?_
  rintro e w2 ⟨v, rfl, own1, b2⟩
  have HOW := hidS (own_lowM own1 b1.size)
  obtain ⟨a1, c1, rfl, _⟩ := own_cap2 own1
  clear h2 own1
  have b3 := btS b1 b2
  go_wp2_with fail
  refine bodyPost_ret (results_tmp2 rfl _ _ _) rfl ?_
  exact ⟨_, rfl, HOW.out, b3⟩
set_option maxHeartbeats 1000000 in
theorem segs_told (ao : Option Addr) (cap : Nat) (zs : List Int) (w : World) (hn : zs.length ≤ 1048576) (h64 : 64 ≤ zs.length) (hcp : zs.length ≤ cap) (hwf : ∀ z ∈ zs, 0 ≤ z ∧ z ≤ 255) (hr : Reads w ao zs w.heap.size) (hg : Sg w) :
    Calls Tryd.prog 15 #[.slice ao zs.length cap] w fun e w' => ∃ v, e = .returned (.tuple #[v, .int .i64 0]) ∧ w'.ownsRow w.heap.size 47 2 v 4 (sv (spL zs)) ∧ Below w.heap.size w w' := by
  have hL := lenF_ok ao zs.length cap w h64 hn
  have hS := spansOf_any ao cap zs w hn hcp hwf hr hg (fun a => (atv_range 4 zs a hwf).1)
  clear hr hwf hn h64 hg
  go_enter Tryd.func15, Tryd.ntmps15
  go_wp2_with fail
  with_reducible refine hL.mono ?_
  rintro e wq ⟨rfl, hq⟩
  subst wq
  go_wp2_with fail
  with_reducible refine hS.mono ?_
  rintro e w1 ⟨v, rfl, own1, b1⟩
  have HOW := hidS own1
  obtain ⟨a1, c1, rfl, _⟩ := own_cap2 own1
  clear hS own1
  go_wp2_with fail
  refine bodyPost_ret (results_tmp2 rfl _ _ _) rfl ?_
  exact ⟨_, rfl, HOW.out, b1⟩
set_option maxHeartbeats 1000000 in
theorem segs_bad (ao : Option Addr) (n cap : Nat) (w : World) (h : n < 64 ∨ 1048576 < n) :
    Calls Tryd.prog 15 #[.slice ao n cap] w fun e w' => e = .returned (.tuple #[.slice none 0 0, .int .i64 80]) ∧ Below w.heap.size w w' := by
  have hL : ∃ at_ : Int, Calls Tryd.prog 30 #[.slice ao n cap] w fun e w' => e = .returned (.tuple #[.int .i64 at_, .int .i64 80]) ∧ w' = w := by
    rcases h with h | h
    · exact ⟨_, lenF_lo ao n cap w h⟩
    · exact ⟨_, lenF_hi ao n cap w h⟩
  obtain ⟨at_, hL⟩ := hL
  clear h
  go_enter Tryd.func15, Tryd.ntmps15
  go_wp2_with fail
  with_reducible refine hL.mono ?_
  rintro e wq ⟨rfl, hq⟩
  subst wq
  go_wp2_with fail
  refine bodyPost_ret (results_tmp2 rfl _ _ _) rfl ?_
  exact ⟨rfl, Below.refl _ _⟩
end Go.Proofs.YtnplimdcfbgpeaaDoor
namespace Go.Proofs.YtnplimdcfbgpeaaDoor
open Go.RowKit Go.WideShapes Go.Sort Go.Lib
set_option maxRecDepth 100000

/-- bytes that are as others where a span holds their place -/
structure GpI (zs cs : List Int) (i : Nat) : Prop where
  len : cs.length = i
  wf : ∀ z ∈ cs, 0 ≤ z ∧ z ≤ 255
  ag : ∀ j, j < i → inS (spL zs ++ [(0, 64)]) j → cs[j]? = zs[j]?
theorem GpI.start (zs : List Int) : GpI zs [] 0 := ⟨rfl, fun z hz => by simp at hz, fun j hj => absurd hj (by omega)⟩
theorem GpI.push {zs cs : List Int} {i : Nat} (h : GpI zs cs i) (x : Int) (h0 : 0 ≤ x) (h1 : x ≤ 255) (ha : inS (spL zs ++ [(0, 64)]) i → zs[i]? = some x) : GpI zs (cs ++ [x]) (i + 1) := by
  refine ⟨by simp [h.len], fun z hz => ?_, fun j hj hs => ?_⟩
  · rcases List.mem_append.1 hz with hz | hz
    · exact h.wf z hz
    · rw [List.mem_singleton.1 hz]; exact ⟨h0, h1⟩
  · by_cases hj2 : j < i
    · rw [List.getElem?_append_left (by rw [h.len]; exact hj2)]
      exact h.ag j hj2 hs
    · have e : j = i := by omega
      subst e
      rw [List.getElem?_append_right (by rw [h.len]; exact Nat.le_refl _), h.len, Nat.sub_self, ha hs]
      rfl
theorem lit1 (W : World) (x : Value) (t : TypeId) : ∀ j u, [x][j]? = some u → (W.alloc (.cells #[x] t)).cell? ((⟨W.heap.size, 0, none⟩ : Addr).add j) = some u := by
  intro j u hj
  match j, hj with
  | 0, hj => simp at hj; subst hj; simp [Addr.add]
theorem one1 (k : IntKind) (x : Int) : ∀ u ∈ [Value.int k x], u.oneCell' = true := by
  intro u hu; simp at hu; subst hu; rfl
theorem spL_len4 (zs : List Int) : (spL zs).length = 4 := spF_len zs 4
theorem s5_len (zs : List Int) : (spL zs ++ [(0, 64)]).length = 5 := by rw [List.length_append, spL_len4]; rfl
theorem s5_wf {zs : List Int} (hwf : ∀ z ∈ zs, 0 ≤ z ∧ z ≤ 255) : Wfs (spL zs ++ [(0, 64)]) := by
  intro p hp
  rcases List.mem_append.1 hp with hp | hp
  · exact spL_wf zs hwf p hp
  · rw [List.mem_singleton.1 hp]; exact ⟨by decide, by decide⟩
set_option maxHeartbeats 4000000 in
theorem gaps_any (ao : Option Addr) (cap : Nat) (zs : List Int) (f : Int) (w : World) (hcp : zs.length ≤ cap) (hwf : ∀ z ∈ zs, 0 ≤ z ∧ z ≤ 255) (_ : 0 ≤ f) (_ : f ≤ 255) (hr : Reads w ao zs w.heap.size) (hg : Sg w) :
    Calls Tryd.prog 5 #[.slice ao zs.length cap, .int .u8 f] w fun e w' => e = .returned (.bool true) ∧ Below w.heap.size w w' := by
  have hLv := lives_any w
  have HR := hidS hr
  have HG := hidS hg
  have HWF := hidS hwf
  have HPA := hidS (fun W (hW : Below w.heap.size w W) => parse_told ao cap zs W hcp hwf ((hr.below hW).mono hW.size) (hg.below hW))
  have HSG := hidS (fun W (hW : Below w.heap.size w W) (hn : zs.length ≤ 1048576) (h64 : 64 ≤ zs.length) => segs_told ao cap zs W hn h64 hcp hwf ((hr.below hW).mono hW.size) (hg.below hW))
  obtain ⟨i0, hi, hz0, hz1, hz2⟩ := info_parts Tryd.infoS
  obtain ⟨i5, hi5, hy0, hy1, hy2⟩ := info_parts Tryd.infoB
  clear hr hg hwf hcp
  go_enter Tryd.func5, Tryd.ntmps5
  go_wp2_with fail
  with_reducible refine hLv.mono ?_
  rintro e w1 ⟨rfl, b1⟩
  clear hLv
  go_wp2_with fail
  with_reducible refine (HPA.out w1 b1).mono ?_
  rintro e w2 ⟨hq, b2⟩
  have B2 := btS b1 b2
  have hA2 := heap_alloc_last w2 (.cells im0 28)
  rcases hq with ⟨at_, er, rfl, her, hno⟩ | ⟨v0, v1, v2, v5, I, rfl, hpar, hown⟩
  · have her' : (er == 0) = false := by rw [beq_eq_false_iff_ne]; exact her
    obtain ⟨W2, hW2⟩ : ∃ W2, (w2.alloc (.cells im0 28)).setRow w2.heap.size im0 = W2 := ⟨_, rfl⟩
    have bW : Below w2.heap.size w2 W2 := by rw [← hW2]; exact below_setRow (belS (Below.refl _ _)) (Nat.le_refl _) _
    have HW2 := hidS hW2
    have BW := btS B2 bW
    have hS : Calls Tryd.prog 15 #[.slice ao zs.length cap] W2 fun e w' => (∃ a n c, ∃ x : Int, e = .returned (.tuple #[.slice a n c, .int .i64 x])) ∧ Below W2.heap.size W2 w' := by
      by_cases h : zs.length < 64 ∨ 1048576 < zs.length
      · refine (segs_bad ao zs.length cap W2 h).mono ?_
        rintro e w' ⟨rfl, hb⟩
        exact ⟨⟨_, _, _, _, rfl⟩, hb⟩
      · refine (HSG.out W2 BW (by omega) (by omega)).mono ?_
        rintro e w' ⟨v, rfl, own, hb⟩
        obtain ⟨a, c, rfl, _⟩ := own_cap2 own
        exact ⟨⟨_, _, _, _, rfl⟩, hb⟩
    clear hno her hW2
    go_wp2_with (refine wpList_store_row rfl _ _ _ rfl w2.heap.size _ im0 rfl rfl hA2 (by rw [infoI6]; rfl) rfl (i6_all rfl rfl rfl rfl rfl rfl) ?_; rw [HW2.out])
    with_reducible refine hS.mono ?_
    rintro e w3 ⟨⟨a, n, c, x, rfl⟩, b3⟩
    clear hS
    go_wp2_with fail
    go_ret
    exact ⟨rfl, btS BW b3⟩
  · obtain ⟨a0, a1, a2, a5, c0, c1, c2, c5, rfl, rfl, rfl, rfl, hir⟩ := hown.form
    have hk := par_k HWF.out hpar
    obtain ⟨W2, hW2, bW, hsW, hbk⟩ := laid_im w2 a0 a1 a2 a5 c0 c1 c2 c5 I.L.length I.J.length I.D.length I.M.length I.z I.st
    have BW := btS B2 bW
    have hS := HSG.out W2 BW hpar.hi hpar.lo
    have HW2 := hidS hW2
    have HPAR := hidS hpar
    have HK := hidS hk
    have HIR := hidS (fun W (hW : Below w2.heap.size w2 W) => (hir.below hW).mono hW.size)
    have HBK := hidS (fun W (hW : Below W2.heap.size W2 W) => six ((hW.block _ hsW).trans hbk))
    have hzn : zs.length ≤ 1048576 := hpar.hi
    have hz64 : 64 ≤ zs.length := hpar.lo
    clear hW2 hpar hk hown hir hbk
    go_wp2_with (refine wpList_store_row rfl _ _ _ rfl w2.heap.size _ (imC a0 I.L.length c0 a1 I.J.length c1 a2 I.D.length c2 I.z I.st a5 I.M.length c5) rfl rfl hA2 (by rw [infoI6]; rfl) rfl (i6_all rfl rfl rfl rfl rfl rfl) ?_; rw [HW2.out])
    with_reducible refine hS.mono ?_
    rintro e w3 ⟨v, rfl, own3, b3⟩
    have B3 := btS BW b3
    have own4 := own3.alloc (.cells #[.int .u32 0, .int .u32 64] 47)
    obtain ⟨av, cv3, rfl, _⟩ := own_cap2 own3
    clear hS hA2 own3
    go_wp2_with (at_builtin; refine wpList_append_own _ rfl _ _ 43 rfl W2.heap.size 47 i0 (.agg #[.int .u32 0, .int .u32 0]) 2 8 Tryd.underlying43 hi hz0 hz1 hz2 rfl (by decide) _ _ _ rfl own4 ⟨_, 0, none⟩ 1 1 [.int .u32 0, .int .u32 64] rfl rfl ?c1 ?c2 ?c3 ?c4 ?c5 ?_)
    case c1 =>
      intro j u hj
      match j, hj with
      | 0, hj => simp at hj; subst hj; simp [Addr.add]
      | 1, hj => simp at hj; subst hj; simp [Addr.add]
    case c2 => intro u hu; simp at hu; rcases hu with rfl | rfl <;> rfl
    case c3 => decide
    case c4 => decide
    case c5 => have := b3.size; simp; omega
    intro v' w5 own5 g5 _
    have B5' : Below W2.heap.size W2 w5 := grown_below2 (belS b3) (by have := b3.size; simp; omega) own4 g5
    have own6 : w5.ownsRow W2.heap.size 47 2 v' (spL zs ++ [(0, 64)]).length (sv (spL zs ++ [(0, 64)])) := by rw [s5_len, sv_append]; exact own5
    obtain ⟨aS, cS, rfl, hsr⟩ := own_srd own6
    rw [s5_len]
    have HSR := hidS hsr
    have B5 := btS BW B5'
    clear own4 own5 own6 g5 hsr
    go_wp2_with fail
    go_loopw [10, 11] (fun v i wr => ∃ (k : Nat) (cs : List Int), i = .int .i64 k ∧ k ≤ zs.length ∧ GpI zs cs k ∧ wr.ownsRow w5.heap.size 5 1 v cs.length (bv cs) ∧ Below w5.heap.size w5 wr) (fun _ i _ => zs.length - (intOf i).toNat)
    case atStart => exact ⟨0, [], rfl, Nat.zero_le _, GpI.start zs, World.ownsRow_nil _ _ _ _, Below.refl _ _⟩
    case round =>
      obtain ⟨i, cs, rfl, hik, hgp, hown, hb⟩ := hrel
      have HGP := hidS hgp
      clear hgp
      by_cases hlt : i < zs.length
      · have hltI : (i : Int) < (zs.length : Int) := by omega
        have HOW := hidS hown
        clear hown
        go_wp2_with fail
        go_loopw [12, 13] (fun r k wq => ∃ (m n : Nat) (q : Bool), r = .bool q ∧ k = .int .i64 m ∧ m ≤ 5 ∧ (q = true ↔ ∃ j, j < m ∧ ((spL zs ++ [(0, 64)]).getD j (0, 0)).1 ≤ i ∧ i < ((spL zs ++ [(0, 64)]).getD j (0, 0)).1 + ((spL zs ++ [(0, 64)]).getD j (0, 0)).2) ∧ wq = wr.drewN n) (fun _ k _ => 5 - (intOf k).toNat)
        case atStart => exact ⟨0, 0, false, rfl, rfl, by omega, ⟨fun h => Bool.noConfusion h, fun ⟨j, hj, _⟩ => absurd hj (by omega)⟩, rfl⟩
        case round =>
          obtain ⟨m, n, q, rfl, rfl, hm, hq, rfl⟩ := hrel
          have HQ := hidS hq
          clear hq
          by_cases hm5 : m < 5
          · have hm5I : (m : Int) < 5 := by omega
            obtain ⟨sb, so, rfl, hsb, hsc⟩ := (HSR.out.below hb) (by rw [s5_len]; decide)
            have e0 : (wr.drewN n).cell? ⟨sb, so + m * 2, none⟩ = _ := (hsc m (by rw [s5_len]; exact hm5)).1
            have e1 : (wr.drewN n).cell? ⟨sb, so + m * 2 + 1, none⟩ = _ := (hsc m (by rw [s5_len]; exact hm5)).2
            have hwm := s5_wf HWF.out _ (getD_memS (L := spL zs ++ [(0, 64)]) (k := m) (by rw [s5_len]; exact hm5))
            have HNX : Hid (∀ q' : Bool, (q' = true ↔ (q = true ∨ (((spL zs ++ [(0, 64)]).getD m (0, 0)).1 ≤ i ∧ i < ((spL zs ++ [(0, 64)]).getD m (0, 0)).1 + ((spL zs ++ [(0, 64)]).getD m (0, 0)).2))) → (q' = true ↔ ∃ j, j < m + 1 ∧ ((spL zs ++ [(0, 64)]).getD j (0, 0)).1 ≤ i ∧ i < ((spL zs ++ [(0, 64)]).getD j (0, 0)).1 + ((spL zs ++ [(0, 64)]).getD j (0, 0)).2)) := hidS (fun q' h => by
              rw [h, HQ.out]
              constructor
              · rintro (⟨j, hj, h1⟩ | h1)
                · exact ⟨j, by omega, h1⟩
                · exact ⟨m, by omega, h1⟩
              · rintro ⟨j, hj, h1⟩
                by_cases hjm : j = m
                · subst hjm; exact .inr h1
                · exact .inl ⟨j, by omega, h1⟩)
            generalize ((spL zs ++ [(0, 64)]).getD m (0, 0)) = p at e0 e1 hwm HNX
            obtain ⟨p0, p1⟩ := p
            obtain ⟨hp0, hp1⟩ := hwm
            replace hp0 : p0 < 4294967296 := hp0
            replace hp1 : p1 < 4294967296 := hp1
            replace e0 : (wr.drewN n).cell? ⟨sb, so + m * 2, none⟩ = some (.int .u32 (p0 : Int)) := e0
            replace e1 : (wr.drewN n).cell? ⟨sb, so + m * 2 + 1, none⟩ = some (.int .u32 (p1 : Int)) := e1
            have k1 : IntKind.u64.wrap (i : Int) = (i : Int) := by rw [IntKind.wrap_u64]; omega
            have k2 : IntKind.u64.wrap (p0 : Int) = (p0 : Int) := by rw [IntKind.wrap_u64]; omega
            have k3 : IntKind.u64.wrap (p1 : Int) = (p1 : Int) := by rw [IntKind.wrap_u64]; omega
            have k4 : IntKind.u64.wrap ((p0 : Int) + (p1 : Int)) = (p0 : Int) + (p1 : Int) := by rw [IntKind.wrap_u64]; omega
            generalize hWq : wr.drewN n = wq at *
            have HWQ := hidS hWq
            clear hsc hWq
            by_cases t1 : p0 ≤ i
            · have t1I : decide ((p0 : Int) ≤ (i : Int)) = true := by simp; omega
              have t1N : (p0 : Int) ≤ (i : Int) := by omega
              by_cases t2 : i < p0 + p1
              · have t2I : decide ((i : Int) < (p0 : Int) + (p1 : Int)) = true := by simp; omega
                have t2N : (i : Int) < (p0 : Int) + (p1 : Int) := by omega
                have HT := hidS (HNX.out true ⟨fun _ => .inr ⟨t1, t2⟩, fun _ => rfl⟩)
                clear t1 t2
                go_wp2_with fail
                go_quiet (fail)
                go_wp2_with fail
                exact ⟨⟨m + 1, n + nq, true, rfl, by go_num, by omega, ⟨fun _ => HT.out.1 (by first | exact rfl | trivial), fun _ => rfl⟩, by rw [← HWQ.out]; exact (drw wr n nq)⟩, by simp [intOf]; omega⟩
              · have t2I : decide ((i : Int) < (p0 : Int) + (p1 : Int)) = false := by simp; omega
                have t2N : ¬ (i : Int) < (p0 : Int) + (p1 : Int) := by omega
                have HT := hidS (HNX.out q ⟨fun h => .inl h, fun h => h.elim id (fun h => absurd h.2 t2)⟩)
                clear t1 t2
                go_wp2_with fail
                go_quiet (fail)
                go_wp2_with fail
                exact ⟨⟨m + 1, n + nq, q, rfl, by go_num, by omega, HT.out, by rw [← HWQ.out]; exact (drw wr n nq)⟩, by simp [intOf]; omega⟩
            · have t1I : decide ((p0 : Int) ≤ (i : Int)) = false := by simp; omega
              have t1N : ¬ (p0 : Int) ≤ (i : Int) := by omega
              have HT := hidS (HNX.out q ⟨fun h => .inl h, fun h => h.elim id (fun h => absurd h.1 t1)⟩)
              have t1D : decide (p0 ≤ i) = false := by simp; omega
              go_wp2_with fail
              go_quiet (fail)
              go_wp2_with fail
              exact ⟨⟨m + 1, n + nq, q, rfl, by go_num, by omega, HT.out, by rw [← HWQ.out]; exact (drw wr n nq)⟩, by simp [intOf]; omega⟩
          · obtain rfl : m = 5 := by omega
            have HIN : Hid (q = true ↔ inS (spL zs ++ [(0, 64)]) i) := hidS (by
              rw [HQ.out]
              unfold inS
              rw [s5_len])
            have ownQ : (wr.drewN n).ownsRow w5.heap.size 5 1 _ cs.length (bv cs) := HOW.out
            have bQ : Below w5.heap.size w5 (wr.drewN n) := below_drewN hb n
            have hlc : cs.length ≤ 1048576 := by rw [HGP.out.len]; omega
            obtain ⟨rb, ro, rfl, hrb, hrc⟩ := HR.out (by omega)
            have hcell : (wr.drewN n).cell? ⟨rb, ro + i, none⟩ = some (.int .u8 (zs.getD i 0)) := ((btS B5 bQ).cell (p := ⟨rb, ro + i, none⟩) hrb).trans (hrc i hlt)
            have hzi : zs[i]? = some (zs.getD i 0) := getD_of hlt
            have hzr := HWF.out _ (List.mem_of_getElem? hzi)
            have hsz5 : w5.heap.size ≤ (wr.drewN n).heap.size := bQ.size
            generalize zs.getD i 0 = x at hcell hzi hzr
            generalize hWq : wr.drewN n = wq at *
            clear hrc hWq HOW HQ
            cases q with
            | true =>
              have HPU := hidS (HGP.out.push x hzr.1 hzr.2 (fun _ => hzi))
              go_wp2_with (at_builtin; refine wpList_append_own _ rfl _ _ 24 rfl w5.heap.size 5 i5 (.int .u8 0) 1 1 Tryd.underlying24 hi5 hy0 hy1 hy2 rfl (by decide) _ _ _ rfl (ownQ.alloc _) ⟨_, 0, none⟩ 1 1 [.int .u8 x] rfl rfl (lit1 _ _ _) (one1 _ _) (by unfold maxLen; omega) (by omega) (by simp; omega) ?_)
              intro v6 w6 own6 g6 _
              have B6 : Below w5.heap.size w5 w6 := grown_below2 (belS bQ) (by simp; omega) (ownQ.alloc _) g6
              have HO6 : Hid (w6.ownsRow w5.heap.size 5 1 v6 (cs ++ [x]).length (bv (cs ++ [x]))) := hidS (by rw [bv_append, List.length_append]; exact own6)
              clear own6 g6 ownQ
              go_wp2_with fail
              exact ⟨⟨i + 1, cs ++ [x], by go_num, by omega, HPU.out, HO6.out, B6⟩, by simp [intOf]; omega⟩
            | false =>
              have hno : ¬ inS (spL zs ++ [(0, 64)]) i := fun h => by have := HIN.out.2 h; cases this
              obtain ⟨y, hy, hyb⟩ : ∃ y : Int, (f + (i : Int)) % 256 = y ∧ 0 ≤ y ∧ y ≤ 255 := ⟨_, rfl, by omega, by omega⟩
              have HPU := hidS (HGP.out.push y hyb.1 hyb.2 (fun h => absurd h hno))
              have HY := hidS hy
              clear hno hy
              go_wp2_with (at_builtin; refine wpList_append_own _ rfl _ _ 24 rfl w5.heap.size 5 i5 (.int .u8 0) 1 1 Tryd.underlying24 hi5 hy0 hy1 hy2 rfl (by decide) _ _ _ rfl (ownQ.alloc _) ⟨_, 0, none⟩ 1 1 [.int .u8 ((f + (i : Int)) % 256)] rfl rfl (lit1 _ _ _) (one1 _ _) (by unfold maxLen; omega) (by omega) (by simp; omega) ?_)
              intro v6 w6 own6 g6 _
              have B6 : Below w5.heap.size w5 w6 := grown_below2 (belS bQ) (by simp; omega) (ownQ.alloc _) g6
              have HO6 : Hid (w6.ownsRow w5.heap.size 5 1 v6 (cs ++ [y]).length (bv (cs ++ [y]))) := hidS (by rw [bv_append, List.length_append, ← HY.out]; exact own6)
              clear own6 g6 ownQ
              go_wp2_with fail
              exact ⟨⟨i + 1, cs ++ [y], by go_num, by omega, HPU.out, HO6.out, B6⟩, by simp [intOf]; omega⟩
      · obtain rfl : i = zs.length := by omega
        have hcl := HGP.out.len
        have hPG := par_gap HPAR.out hcl HGP.out.ag
        have hdw : ∀ z ∈ wth 4 cs 8 (sumV cs), 0 ≤ z ∧ z ≤ 255 := wth_wf 4 cs 8 _ HGP.out.wf
        have hdl : (wth 4 cs 8 (sumV cs)).length = cs.length := wth_len _ _ _ _ (by omega)
        obtain ⟨ac, cc, rfl, hrc⟩ := own_reads hown
        have hSe := seal_told ac cc cs wr (by omega) (by omega) HGP.out.wf hrc
        have HPG := hidS hPG
        have HDW := hidS hdw
        have HDL := hidS hdl
        have BR := btS B5 hb
        have hltI : ¬ (zs.length : Int) < (zs.length : Int) := by omega
        have b2r : Below W2.heap.size W2 wr := btS B5' hb
        clear hown hrc hPG hdw hdl hcl
        go_wp2_with fail
        with_reducible refine hSe.mono ?_
        rintro e w6 ⟨vd, rfl, own6, b6⟩
        obtain ⟨ad, cd, rfl, hrd⟩ := own_reads (own_lenM own6 HDL.out.symm)
        have hcd : (wth 4 cs 8 (sumV cs)).length ≤ cd := by
          obtain ⟨_, c', e', h'⟩ := own_cap2 (own_lenM own6 HDL.out.symm)
          simp only [Value.slice.injEq, true_and] at e'
          omega
        have hP2 := parse_told ad cd (wth 4 cs 8 (sumV cs)) w6 hcd HDW.out hrd (HG.out.below (btS BR b6))
        generalize wth 4 cs 8 (sumV cs) = ds at *
        clear own6 hrd hSe hcd
        go_wp2_with fail
        with_reducible refine hP2.mono ?_
        rintro e w7 ⟨hq, b7⟩
        have B7 := btS (btS BR b6) b7
        clear hP2
        rcases hq with ⟨at_, er, rfl, her, hno⟩ | ⟨u0, u1, u2, u5, K, rfl, hpar2, hown2⟩
        · exact absurd HPG.out (hno I)
        · obtain rfl : I = K := par_uniq HPG.out hpar2
          obtain ⟨d0, d1, d2, d5, e0, e1, e2, e5, rfl, rfl, rfl, rfl, hir2⟩ := hown2.form
          have hA7 := heap_alloc_last w7 (.cells im0 28)
          obtain ⟨W7, hW7, bW7, hsW7, hbk7⟩ := laid_im w7 d0 d1 d2 d5 e0 e1 e2 e5 I.L.length I.J.length I.D.length I.M.length I.z I.st
          have b27 : Below W2.heap.size W2 W7 := btS (btS (btS b2r b6) b7) bW7
          obtain ⟨x0, x1, x2, x3, x4, x5⟩ := HBK.out W7 b27
          obtain ⟨y0, y1, y2, y3, y4, y5⟩ := six hbk7
          have hSm := same_true I a0 a1 a2 a5 d0 d1 d2 d5 c0 c1 c2 c5 e0 e1 e2 e5 W7 HK.out.b (HIR.out W7 (btS bW b27)) ((hir2.below bW7).mono bW7.size)
          have HW7 := hidS hW7
          clear hpar2 hown2 hir2 hbk7 hW7
          go_wp2_with (refine wpList_store_row rfl _ _ _ rfl w7.heap.size _ (imC d0 I.L.length e0 d1 I.J.length e1 d2 I.D.length e2 I.z I.st d5 I.M.length e5) rfl rfl hA7 (by rw [infoI6]; rfl) rfl (i6_all rfl rfl rfl rfl rfl rfl) ?_; rw [HW7.out])
          with_reducible refine hSm.mono ?_
          rintro e w8 ⟨rfl, b8⟩
          clear hSm x0 x1 x2 x3 x4 x5 y0 y1 y2 y3 y4 y5 hA7
          go_wp2_with fail
          go_ret
          exact ⟨rfl, btS (btS B7 bW7) b8⟩
end Go.Proofs.YtnplimdcfbgpeaaDoor
