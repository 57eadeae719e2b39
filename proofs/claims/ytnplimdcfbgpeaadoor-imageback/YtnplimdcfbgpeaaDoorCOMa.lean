import Derived.Test.YtnplimdcfbgpeaaDoorCONr
import Derived.Test.YtnplimdcfbgpeaaDoorCMRdE
import Derived.Test.YtnplimdcfbgpeaaDoorCMHdr
import Derived.Test.YtnplimdcfbgpeaaDoorCIMat
import Derived.Lib.AppendStr
import Derived.Test.YtnplimdcfbgpeaaDoorCMCut
namespace Go.Proofs.YtnplimdcfbgpeaaDoor
open Go.RowKit Go.WideShapes Go.Sort Go.Lib
set_option maxRecDepth 100000

/-- the bytes of a string -/
def bzs (T : ByteArray) : List Int := T.data.toList.map fun b => (b.toNat : Int)
theorem bzs_len (T : ByteArray) : (bzs T).length = T.size := by rw [bzs, List.length_map, Array.length_toList]; rfl
theorem bzs_cells (T : ByteArray) : Lib.strCells T = bv (bzs T) := by
  simp [Lib.strCells, bzs, bv]
theorem bzs_wf (T : ByteArray) : ∀ z ∈ bzs T, 0 ≤ z ∧ z ≤ 255 := by
  intro z hz
  obtain ⟨b, _, rfl⟩ := List.mem_map.1 hz
  have := b.toNat_lt
  show 0 ≤ (b.toNat : Int) ∧ (b.toNat : Int) ≤ 255
  omega
theorem strN_bzs (T : ByteArray) : strOfNums (bzs T) = T := by
  have h : (bzs T).map (fun n : Int => UInt8.ofNat n.toNat) = T.data.toList := by
    rw [bzs, List.map_map]
    conv => rhs; rw [← List.map_id T.data.toList]
    refine List.map_congr_left fun b _ => ?_
    simp
  unfold strOfNums
  rw [h]
theorem bzs_strN (L : List Int) (h : ∀ z ∈ L, 0 ≤ z ∧ z ≤ 255) : bzs (strOfNums L) = L := by
  rw [bzs, strOfNums_data, List.map_map]
  conv => rhs; rw [← List.map_id L]
  refine List.map_congr_left fun z hz => ?_
  obtain ⟨h0, h1⟩ := h z hz
  show ((UInt8.ofNat z.toNat).toNat : Int) = z
  rw [UInt8.toNat_ofNat']
  omega
/-- an entry's bytes -/
def nm1 (e : ByteArray × Nat) : List Int := nb 4 e.2 ++ ((e.1.size : Int) :: bzs e.1)
def nmB (M : List (ByteArray × Nat)) : List Int := M.flatMap nm1
theorem nm1_len (e : ByteArray × Nat) : (nm1 e).length = 5 + e.1.size := by simp [nm1, nb_len, bzs_len]; omega
theorem nmB_append (L M : List (ByteArray × Nat)) : nmB (L ++ M) = nmB L ++ nmB M := by simp [nmB]
theorem nmB_one (e : ByteArray × Nat) : nmB [e] = nm1 e := by simp [nmB]
theorem nmB_cons (e : ByteArray × Nat) (M : List (ByteArray × Nat)) : nmB (e :: M) = nm1 e ++ nmB M := rfl
def NmW (M : List (ByteArray × Nat)) : Prop := ∀ e ∈ M, e.2 < 4294967296
theorem atv_app (w : Nat) (A B C : List Int) (p : Int) (hp : p = (A.length : Int)) (hB : B.length = w) : atv w (A ++ (B ++ C)) p = num B := by
  subst hp
  unfold atv
  have h : (0 : Int) ≤ (A.length : Int) ∧ (A.length : Int) + (w : Int) ≤ ((A ++ (B ++ C)).length : Int) := by
    simp only [List.length_append]; omega
  rw [if_pos h, Int.toNat_natCast, List.drop_left, List.take_left' hB]
theorem num_one (z : Int) : num [z] = z := by simp [num]
theorem num_nb4 (x : Nat) (h : x < 4294967296) : num (nb 4 x) = x := by
  rw [num_nb]; omega
theorem en_at {e : ByteArray × Nat} {R : List Int} (h2 : e.2 < 4294967296) : atv 4 (nm1 e ++ R) 0 = e.2 ∧ atv 1 (nm1 e ++ R) 4 = e.1.size := by
  constructor
  · have := atv_app 4 [] (nb 4 e.2) (((e.1.size : Int) :: bzs e.1) ++ R) 0 rfl (nb_len 4 _)
    rw [num_nb4 _ h2] at this
    rw [← this, nm1, List.append_assoc]
    rfl
  · have := atv_app 1 (nb 4 e.2) [(e.1.size : Int)] (bzs e.1 ++ R) 4 (by rw [nb_len]; rfl) rfl
    rw [num_one] at this
    rw [← this, nm1, List.append_assoc]
    rfl
theorem cut_en {e : ByteArray × Nat} {R : List Int} : cutV (nm1 e ++ R) (5, e.1.size) = bzs e.1 := by
  unfold cutV
  rw [if_pos (by rw [List.length_append, nm1_len]; omega)]
  show ((nm1 e ++ R).drop 5).take e.1.size = bzs e.1
  have e5 : nm1 e ++ R = (nb 4 e.2 ++ [(e.1.size : Int)]) ++ (bzs e.1 ++ R) := by simp [nm1]
  rw [e5, List.drop_left' (by simp [nb_len]), List.take_left' (bzs_len _)]
/-- an entry is read back from its bytes -/
theorem nm1_inj {e f : ByteArray × Nat} {R S : List Int} (he : e.2 < 4294967296) (hf : f.2 < 4294967296) (h : nm1 e ++ R = nm1 f ++ S) : e = f := by
  have a1 := en_at (R := R) he
  have a2 := en_at (R := S) hf
  have c1 := cut_en (e := e) (R := R)
  have c2 := cut_en (e := f) (R := S)
  rw [h] at a1 c1
  have h1 : (e.2 : Int) = f.2 := a1.1.symm.trans a2.1
  have h2 : (e.1.size : Int) = f.1.size := a1.2.symm.trans a2.2
  have h3 : e.1.size = f.1.size := by omega
  rw [h3] at c1
  have h4 : e.1 = f.1 := by rw [← strN_bzs e.1, ← strN_bzs f.1, ← c1, ← c2]
  exact Prod.ext h4 (by omega)
theorem en_split (rz : List Int) (hwf : ∀ z ∈ rz, 0 ≤ z ∧ z ≤ 255) (x y : Nat) (hx : atv 4 rz 0 = x) (hy : atv 1 rz 4 = y) (h5 : 5 ≤ rz.length) (hl : 5 + y ≤ rz.length) :
    rz = nm1 (strOfNums (cutV rz (5, y)), x) ++ rz.drop (5 + y) ∧ (strOfNums (cutV rz (5, y))).size = y := by
  have hc : cutV rz (5, y) = (rz.drop 5).take y := by unfold cutV; rw [if_pos (by show 5 + y ≤ _; omega)]
  have hcl : ((rz.drop 5).take y).length = y := by rw [List.length_take, List.length_drop]; omega
  have hsz : (strOfNums (cutV rz (5, y))).size = y := by rw [strOfNums_size, hc, hcl]
  refine ⟨?_, hsz⟩
  have h1 : rz.take 4 = nb 4 x := by
    have e1 : atv 4 rz 0 = num (rz.take 4) := by
      unfold atv
      rw [if_pos ⟨by decide, by omega⟩]
      rfl
    have e2 := nb_num (rz.take 4) (fun z hz => hwf z (List.mem_of_mem_take hz))
    rw [show (rz.take 4).length = 4 by rw [List.length_take]; omega, ← e1, hx] at e2
    exact e2.symm
  have h2 : (rz.drop 4).take 1 = [(y : Int)] := by
    have e1 : atv 1 rz 4 = num ((rz.drop 4).take 1) := by
      unfold atv
      rw [if_pos ⟨by decide, by omega⟩]
      rfl
    have hl1 : ((rz.drop 4).take 1).length = 1 := by rw [List.length_take, List.length_drop]; omega
    obtain ⟨z, hz⟩ := List.length_eq_one_iff.1 hl1
    rw [hz] at e1 ⊢
    rw [num_one, hy] at e1
    rw [e1]
  unfold nm1
  rw [hsz, bzs_strN _ (fun z hz => hwf z (by rw [hc] at hz; exact List.mem_of_mem_drop (List.mem_of_mem_take hz))), hc]
  show rz = nb 4 x ++ ((y : Int) :: (rz.drop 5).take y) ++ rz.drop (5 + y)
  have e1 : rz = rz.take 4 ++ rz.drop 4 := (List.take_append_drop 4 rz).symm
  have e2 : rz.drop 4 = (rz.drop 4).take 1 ++ rz.drop 5 := by
    have := (List.take_append_drop 1 (rz.drop 4)).symm
    rwa [List.drop_drop] at this
  have e3 : rz.drop 5 = (rz.drop 5).take y ++ rz.drop (5 + y) := by
    have := (List.take_append_drop y (rz.drop 5)).symm
    rwa [List.drop_drop] at this
  conv => lhs; rw [e1, e2, e3, h1, h2]
  simp
theorem mayN_app (E M : List (ByteArray × Nat)) (e : ByteArray × Nat) : mayN (E ++ e :: M) E.length = mayB E.length (E.getD (E.length - 1) (.empty, 0)).1 e.1 := by
  unfold mayN
  have h1 : (E ++ e :: M).getD E.length (.empty, 0) = e := by simp [List.getD_eq_getElem?_getD]
  rw [h1]
  by_cases h0 : E.length = 0
  · have : E = [] := List.eq_nil_of_length_eq_zero h0
    subst this
    unfold mayB
    simp
  · have h2 : (E ++ e :: M).getD (E.length - 1) (.empty, 0) = E.getD (E.length - 1) (.empty, 0) := by
      rw [List.getD_eq_getElem?_getD, List.getD_eq_getElem?_getD, List.getElem?_append_left (by omega)]
    rw [h2]
theorem mayN_pre (E M : List (ByteArray × Nat)) (k : Nat) (h : k < E.length) : mayN (E ++ M) k = mayN E k := by
  unfold mayN
  rw [List.getD_eq_getElem?_getD, List.getD_eq_getElem?_getD, List.getElem?_append_left (by omega), List.getElem?_append_left (by omega)]
  simp [List.getD_eq_getElem?_getD]
theorem namesOk_at {M : List (ByteArray × Nat)} (h : namesOk M = true) {k : Nat} (hk : k < M.length) : mayN M k = true := by
  unfold namesOk at h
  rw [List.all_eq_true] at h
  exact h k (List.mem_range.2 hk)
theorem namesOk_snoc {E : List (ByteArray × Nat)} {e : ByteArray × Nat} (h : namesOk E = true) (h2 : mayB E.length (E.getD (E.length - 1) (.empty, 0)).1 e.1 = true) : namesOk (E ++ [e]) = true := by
  refine namesOk_of fun k hk => ?_
  by_cases hk2 : k < E.length
  · rw [mayN_pre _ _ _ hk2]; exact namesOk_at h hk2
  · have : k = E.length := by simp at hk; omega
    subst this
    rw [mayN_app]; exact h2
theorem namesOk_size {M : List (ByteArray × Nat)} (h : namesOk M = true) : ∀ e ∈ M, 1 ≤ e.1.size ∧ e.1.size ≤ 32 := by
  intro e he
  obtain ⟨k, hk, rfl⟩ := List.mem_iff_getElem.1 he
  have := namesOk_at h hk
  unfold mayN mayB at this
  simp [List.getD_eq_getElem?_getD, hk] at this
  exact this.1
theorem namesOk_len {M : List (ByteArray × Nat)} (h : namesOk M = true) : M.length ≤ 64 := by
  by_cases h64 : M.length ≤ 64
  · exact h64
  · have := namesOk_at h (k := 64) (by omega)
    unfold mayN mayB at this
    simp at this
end Go.Proofs.YtnplimdcfbgpeaaDoor
namespace Go.Proofs.YtnplimdcfbgpeaaDoor
open Go.RowKit Go.WideShapes Go.Sort Go.Lib
set_option maxRecDepth 100000

/-- what readEntry answers -/
def EnP (zs : List Int) (e : Ending) : Prop := ∃ (s : ByteArray) (x sz : Nat), e = .returned (.tuple #[.agg #[.string s, .int .u32 (x : Int)], .int .i64 (sz : Int)]) ∧ sz ≤ zs.length ∧ x < 4294967296 ∧ s.size ≤ 255 ∧
  ((sz = 0 ∧ ∀ (f : ByteArray × Nat) (R : List Int), f.2 < 4294967296 → zs ≠ nm1 f ++ R) ∨ (0 < sz ∧ zs = nm1 (s, x) ++ zs.drop sz))
theorem enp_short {zs : List Int} (h : zs.length < 5) : EnP zs (.returned (.tuple #[.agg #[.string ⟨#[]⟩, .int .u32 ((0 : Nat) : Int)], .int .i64 ((0 : Nat) : Int)])) :=
  ⟨⟨#[]⟩, 0, 0, rfl, Nat.zero_le _, by decide, by decide, .inl ⟨rfl, fun f R _ e => by
    have := congrArg List.length e
    rw [List.length_append, nm1_len] at this
    omega⟩⟩
theorem enp_cut {zs : List Int} {y : Nat} (hy : atv 1 zs 4 = y) (h : ¬ 5 + y ≤ zs.length) : EnP zs (.returned (.tuple #[.agg #[.string ⟨#[]⟩, .int .u32 ((0 : Nat) : Int)], .int .i64 ((0 : Nat) : Int)])) :=
  ⟨⟨#[]⟩, 0, 0, rfl, Nat.zero_le _, by decide, by decide, .inl ⟨rfl, fun f R hf e => by
    have h1 := (en_at (R := R) hf).2
    rw [← e, hy] at h1
    have := congrArg List.length e
    rw [List.length_append, nm1_len] at this
    omega⟩⟩
set_option maxHeartbeats 2000000 in
theorem readEntry_told (b off cap : Nat) (zs : List Int) (w : World) (hn : zs.length ≤ 1048576) (hcp : zs.length ≤ cap) (hwf : ∀ z ∈ zs, 0 ≤ z ∧ z ≤ 255) (hr : Reads w (some ⟨b, off, none⟩) zs w.heap.size) :
    Calls Tryd.prog 60 #[.slice (some ⟨b, off, none⟩) zs.length cap] w fun e w' => EnP zs e ∧ Below w.heap.size w w' := by
  have hA := fun W (hW : Below w.heap.size w W) => at_u32 (some ⟨b, off, none⟩) cap zs 0 W (by omega) hcp hwf ((hr.below hW).mono hW.size) (by decide) (by decide)
  have hA8 := fun W (hW : Below w.heap.size w W) => at_u8 (some ⟨b, off, none⟩) cap zs 4 W (by omega) hcp hwf ((hr.below hW).mono hW.size) (by decide) (by decide)
  have hr32 := atv_range 4 zs 0 hwf
  have hr8 := atv_range 1 zs 4 hwf
  obtain ⟨x, hx⟩ : ∃ x : Nat, atv 4 zs 0 = x := ⟨(atv 4 zs 0).toNat, by omega⟩
  obtain ⟨y, hy⟩ : ∃ y : Nat, atv 1 zs 4 = y := ⟨(atv 1 zs 4).toNat, by omega⟩
  rw [hx] at hA hr32
  rw [hy] at hA8 hr8
  have hC := fun W (hW : Below w.heap.size w W) => lcut_any b off cap zs (5, y) W hn hcp ⟨by show 5 < _; decide, by show y < _; omega⟩ ((hr.below hW).mono hW.size)
  have HX := hidS hx
  have HY := hidS hy
  have HWF := hidS hwf
  have HA := hidS hA
  have HA8 := hidS hA8
  have HC := hidS hC
  have hx2 : x < 4294967296 := by omega
  have hy2 : y < 256 := by omega
  clear hr hwf hA hA8 hC hr32 hr8 hx hy
  go_enter Tryd.func60, Tryd.ntmps60
  go_wp2_with fail
  have bR : Below w.heap.size w (w.alloc (.cells #[.string ⟨#[]⟩, .int .u32 0] 59)) := belS (Below.refl _ _)
  have h1 := HA.out _ bR
  by_cases h4 : 4 ≤ zs.length
  · rw [show ate 4 zs.length 0 = 0 from if_pos ⟨by decide, by omega⟩] at h1
    have h2 := HA8.out _ bR
    with_reducible refine h1.mono ?_
    rintro e wq ⟨rfl, hq⟩
    subst wq
    by_cases h5 : 5 ≤ zs.length
    · rw [show ate 1 zs.length 4 = 0 from if_pos ⟨by decide, by omega⟩] at h2
      go_wp2_with fail
      with_reducible refine h2.mono ?_
      rintro e wq ⟨rfl, hq⟩
      subst wq
      go_wp2_with fail
      have h3 := HC.out _ bR
      change Calls Tryd.prog 59 #[.slice (some ⟨b, off, none⟩) zs.length cap, .agg #[.int .u32 5, .int .u32 (y : Int)]] _ _ at h3
      with_reducible refine h3.mono ?_
      rintro e w3 ⟨⟨v, er, rfl, her, own3⟩, b3⟩
      have B3 := btS bR b3
      have hR3 : w3.heap[w.heap.size]? = some (.cells #[.string ⟨#[]⟩, .int .u32 0] 59) := (b3.block w.heap.size (by simp)).trans (heap_alloc_last w _)
      have r0 : w3.cell? ⟨w.heap.size, 0, none⟩ = some (.string ⟨#[]⟩) := by unfold World.cell?; simp only [hR3]; rfl
      have r1 : w3.cell? ⟨w.heap.size, 1, none⟩ = some (.int .u32 0) := by unfold World.cell?; simp only [hR3]; rfl
      have hcv := conv_ownM own3 9 Tryd.underlying9
      have hyl : (cutV zs (5, y)).length ≤ y := by
        unfold cutV
        split
        · rw [List.length_take]; exact Nat.min_le_left _ _
        · simp
      by_cases hin : 5 + y ≤ zs.length
      · rw [if_pos hin] at her
        subst her
        obtain ⟨a4, c4, rfl, _⟩ := own_cap2 own3
        have hsz : (strOfNums (cutV zs (5, y))).size ≤ 255 := by
          have : (strOfNums (cutV zs (5, y))).size = (cutV zs (5, y)).length := strOfNums_size _
          omega
        have HSZ := hidS hsz
        have HSP := hidS (en_split zs HWF.out x y HX.out HY.out h5 hin).1
        generalize strOfNums (cutV zs (5, y)) = st at *
        have hyI : (y : Int) < 256 := by omega
        clear own3 h3 hsz hyl r0 r1
        go_wp2_with (refine wpList_store_row rfl _ _ _ rfl w.heap.size _ #[.string st, .int .u32 (x : Int)] rfl rfl hR3 (by rw [infoE]; rfl) rfl (en_all _ _) ?_)
        refine bodyPost_ret (enRes _ _ w.heap.size #[.string st, .int .u32 (x : Int)] rfl (setRow_heap w3 w.heap.size _ _ _ _ hR3) _ rfl rfl) rfl ?_
        exact ⟨⟨st, x, 5 + y, by first | rfl | (push_cast; rfl), hin, hx2, HSZ.out, .inr ⟨by omega, HSP.out⟩⟩, below_setRow B3 (Nat.le_refl _) _⟩
      · rw [if_neg hin] at her
        subst her
        obtain ⟨a4, c4, rfl, _⟩ := own_cap2 own3
        clear own3 hcv h3 r0 r1
        go_wp2_with (refine wpList_store_row rfl _ _ _ rfl w.heap.size _ #[.string ⟨#[]⟩, .int .u32 0] rfl rfl hR3 (by rw [infoE]; rfl) rfl (en_all _ _) ?_)
        refine bodyPost_ret (enRes _ _ w.heap.size #[.string ⟨#[]⟩, .int .u32 0] rfl (setRow_heap w3 w.heap.size _ _ _ _ hR3) _ rfl rfl) rfl ?_
        exact ⟨enp_cut HY.out hin, below_setRow B3 (Nat.le_refl _) _⟩
    · rw [show ate 1 zs.length 4 = 20 from if_neg (by omega)] at h2
      go_wp2_with fail
      with_reducible refine h2.mono ?_
      rintro e wq ⟨rfl, hq⟩
      subst wq
      go_wp2_with fail
      refine bodyPost_ret (enRes _ _ w.heap.size #[.string ⟨#[]⟩, .int .u32 0] rfl (heap_alloc_last w _) _ rfl rfl) rfl ?_
      exact ⟨enp_short (by omega), bR⟩
  · rw [show ate 4 zs.length 0 = 20 from if_neg (by omega)] at h1
    with_reducible refine h1.mono ?_
    rintro e wq ⟨rfl, hq⟩
    subst wq
    go_wp2_with fail
    refine bodyPost_ret (enRes _ _ w.heap.size #[.string ⟨#[]⟩, .int .u32 0] rfl (heap_alloc_last w _) _ rfl rfl) rfl ?_
    exact ⟨enp_short (by omega), bR⟩
end Go.Proofs.YtnplimdcfbgpeaaDoor
namespace Go.Proofs.YtnplimdcfbgpeaaDoor
open Go.RowKit Go.WideShapes Go.Sort Go.Lib
set_option maxRecDepth 100000

/-- what readNames answers -/
def NmP (B : Nat) (cz : List Int) (e : Ending) (w' : World) : Prop := ∃ v, ∃ at_ er : Int, e = .returned (.tuple #[v, .int .i64 at_, .int .i64 er]) ∧ (∃ a n c, v = .slice a n c) ∧
  ((er = 0 ∧ at_ = 0 ∧ ∃ M, cz = nmB M ∧ namesOk M = true ∧ NmW M ∧ w'.ownsRow B 59 2 v M.length (ev M)) ∨ (¬ er = 0 ∧ ∀ M, NmW M → namesOk M = true → cz ≠ nmB M))
/-- what is known while names are read -/
structure NmI (cz : List Int) (E : List (ByteArray × Nat)) (rz : List Int) : Prop where
  is : cz = nmB E ++ rz
  ok : namesOk E = true
  wf : NmW E
  all : ∀ M, NmW M → namesOk M = true → cz = nmB M → ∃ M', M = E ++ M'
theorem NmI.start (cz : List Int) : NmI cz [] cz := ⟨rfl, rfl, fun e he => by simp at he, fun M _ _ _ => ⟨M, rfl⟩⟩
theorem NmI.rest {cz rz : List Int} {E : List (ByteArray × Nat)} (h : NmI cz E rz) {M : List (ByteArray × Nat)} (h1 : NmW M) (h2 : namesOk M = true) (h3 : cz = nmB M) : ∃ M', M = E ++ M' ∧ rz = nmB M' := by
  obtain ⟨M', rfl⟩ := h.all M h1 h2 h3
  refine ⟨M', rfl, ?_⟩
  have := h.is.symm.trans h3
  rw [nmB_append] at this
  exact List.append_cancel_left this
theorem NmI.head {cz rz : List Int} {E : List (ByteArray × Nat)} (h : NmI cz E rz) {M : List (ByteArray × Nat)} (h1 : NmW M) (h2 : namesOk M = true) (h3 : cz = nmB M) (hp : 0 < rz.length) : ∃ f M', M = E ++ f :: M' ∧ rz = nm1 f ++ nmB M' ∧ f.2 < 4294967296 := by
  obtain ⟨M', rfl, h4⟩ := h.rest h1 h2 h3
  cases M' with
  | nil => rw [h4] at hp; simp [nmB] at hp
  | cons f M' => exact ⟨f, M', rfl, h4, h1 f (by simp)⟩
theorem NmI.none {cz rz : List Int} {E : List (ByteArray × Nat)} (h : NmI cz E rz) (hp : 0 < rz.length) (hn : ∀ (f : ByteArray × Nat) (R : List Int), f.2 < 4294967296 → rz ≠ nm1 f ++ R) : ∀ M, NmW M → namesOk M = true → cz ≠ nmB M := by
  intro M h1 h2 h3
  obtain ⟨f, M', _, h4, h5⟩ := h.head h1 h2 h3 hp
  exact hn f _ h5 h4
theorem NmI.bad {cz rz : List Int} {E : List (ByteArray × Nat)} {s : ByteArray} {x sz : Nat} (h : NmI cz E rz) (hp : 0 < rz.length) (hx : x < 4294967296) (hs : rz = nm1 (s, x) ++ rz.drop sz) (hm : mayB E.length (E.getD (E.length - 1) (.empty, 0)).1 s = false) : ∀ M, NmW M → namesOk M = true → cz ≠ nmB M := by
  intro M h1 h2 h3
  obtain ⟨f, M', rfl, h4, h5⟩ := h.head h1 h2 h3 hp
  have h6 : f = (s, x) := nm1_inj h5 hx (h4.symm.trans hs)
  subst h6
  have h7 := namesOk_at h2 (k := E.length) (by simp)
  rw [mayN_app, hm] at h7
  cases h7
theorem NmI.step {cz rz : List Int} {E : List (ByteArray × Nat)} {s : ByteArray} {x sz : Nat} (h : NmI cz E rz) (hp : 0 < rz.length) (hx : x < 4294967296) (hs : rz = nm1 (s, x) ++ rz.drop sz) (hm : mayB E.length (E.getD (E.length - 1) (.empty, 0)).1 s = true) : NmI cz (E ++ [(s, x)]) (rz.drop sz) := by
  refine ⟨by rw [nmB_append, nmB_one, List.append_assoc, ← hs]; exact h.is, namesOk_snoc h.ok hm, fun e he => ?_, fun M h1 h2 h3 => ?_⟩
  · rcases List.mem_append.1 he with he | he
    · exact h.wf e he
    · rw [List.mem_singleton.1 he]; exact hx
  · obtain ⟨f, M', rfl, h4, h5⟩ := h.head h1 h2 h3 hp
    have h6 : f = (s, x) := nm1_inj h5 hx (h4.symm.trans hs)
    subst h6
    exact ⟨M', by simp⟩
theorem NmI.fin {cz rz : List Int} {E : List (ByteArray × Nat)} (h : NmI cz E rz) (hp : ¬ 0 < rz.length) : cz = nmB E := by
  have : rz = [] := List.eq_nil_of_length_eq_zero (by omega)
  rw [h.is, this, List.append_nil]
set_option maxHeartbeats 2000000 in
theorem readNames_told (b off cap : Nat) (zs : List Int) (p : Nat × Nat) (w : World) (hn : zs.length ≤ 1048576) (hcp : zs.length ≤ cap) (hwf : ∀ z ∈ zs, 0 ≤ z ∧ z ≤ 255) (hp : p.1 < 4294967296 ∧ p.2 < 4294967296) (hr : Reads w (some ⟨b, off, none⟩) zs w.heap.size) :
    Calls Tryd.prog 43 #[.slice (some ⟨b, off, none⟩) zs.length cap, .agg #[.int .u32 p.1, .int .u32 p.2]] w fun e w' => NmP w.heap.size (cutV zs p) e w' ∧ Below w.heap.size w w' := by
  obtain ⟨i0, hi, hz0, hz1, hz2⟩ := info_parts Tryd.infoEx
  have bA : Below w.heap.size w (w.alloc (.cells #[.int .u32 (p.1 : Int), .int .u32 (p.2 : Int)] 47)) := belS (Below.refl _ _)
  have hB := bytesOf_any b off cap zs p (w.alloc (.cells #[.int .u32 (p.1 : Int), .int .u32 (p.2 : Int)] 47)) hn hcp hp ((hr.below bA).mono bA.size)
  have HCW := hidS (cutV_wf hwf p)
  have hcl := cutV_len zs p
  have hwp : IntKind.i64.wrap (p.1 : Int) = (p.1 : Int) := by rw [IntKind.wrap_i64]; omega
  have hp1 : p.1 < 4294967296 := hp.1
  have HP1 := hidS hp1
  have hlA := heap_alloc_last w (.cells #[.int .u32 (p.1 : Int), .int .u32 (p.2 : Int)] 47)
  have hltA : w.heap.size < (w.alloc (.cells #[.int .u32 (p.1 : Int), .int .u32 (p.2 : Int)] 47)).heap.size := by simp
  clear hr hwf hp hp1
  go_enter Tryd.func43, Tryd.ntmps43
  go_wp2_with fail
  go_step3
  go_wp2_with fail
  with_reducible refine hB.mono ?_
  rintro e w1 ⟨a1, c1, rfl, hc1, hr1, _, b1⟩
  have B1 := btS bA b1
  have hl1 : w1.heap[w.heap.size]? = some (.cells #[.int .u32 (p.1 : Int), .int .u32 (p.2 : Int)] 47) := (b1.block w.heap.size hltA).trans hlA
  have c0 : w1.cell? ⟨w.heap.size, 0, none⟩ = some (.int .u32 p.1) := by unfold World.cell?; simp only [hl1]; rfl
  generalize hcz : cutV zs p = cz at *
  have HCZ := hidS hcz
  clear hcz
  clear hB hl1 hlA
  go_wp2_with fail
  try go_step3
  go_wp2_with fail
  go_loopw [7, 8, 9] (fun vn vr va wr => ∃ (E : List (ByteArray × Nat)) (rz : List Int) (a : Option Addr) (c at_ : Nat), vr = .slice a rz.length c ∧ rz.length ≤ c ∧ va = .int .i64 (at_ : Int) ∧ at_ + rz.length ≤ 4296015872 ∧ wr.ownsRow w1.heap.size 59 2 vn E.length (ev E) ∧ E.length + rz.length ≤ 1048576 ∧ (∀ z ∈ rz, 0 ≤ z ∧ z ≤ 255) ∧ Reads wr a rz w1.heap.size ∧ NmI cz E rz ∧ Below w1.heap.size w1 wr)
    (fun _ vr _ _ => lenOf vr)
  case atStart => exact ⟨[], cz, a1, c1, p.1, rfl, hc1, rfl, by have := HP1.out; omega, World.ownsRow_nil _ _ _ _, by simp; omega, HCW.out, hr1, NmI.start _, Below.refl _ _⟩
  case round =>
    clear hr1 hc1 c0
    obtain ⟨E, rz, a, c, at_, rfl, hc, rfl, hat, hown, hsum, hwz, hrz, hni, hb⟩ := hrel
    have HNI := hidS hni
    clear hni
    have HWZ := hidS hwz
    have HRZ := hidS hrz
    have HAT := hidS hat
    clear hwz hrz hat
    have BW := btS B1 hb
    by_cases hlt : 0 < rz.length
    · have hltI : (0 : Int) < (rz.length : Int) := by omega
      obtain ⟨b2, off2, rfl, hb2, hc2⟩ := HRZ.out hlt
      have hE := readEntry_told b2 off2 c rz wr (by omega) hc HWZ.out (HRZ.out.mono hb.size)
      clear hc2
      go_wp2_with fail
      with_reducible refine hE.mono ?_
      rintro e w2 ⟨⟨st, x, sz, rfl, hsz, hx, hst, hen⟩, b3⟩
      have HEN := hidS hen
      clear hen
      have B2 := btS BW b3
      have own2 := own_below hown b3
      obtain ⟨an, cn, rfl, hcn⟩ := own_cap2 own2
      clear hE hown
      by_cases hz : sz = 0
      · subst hz
        have HNO := hidS (HNI.out.none hlt (HEN.out.elim (fun h => h.2) (fun h => absurd h.1 (by omega))))
        clear own2
        go_wp2_with fail
        change bodyPost Tryd.prog Tryd.f43 (fun e w' => NmP w.heap.size (cutV zs p) e w' ∧ Below w.heap.size w w') Exit.ret _ _
        refine bodyPost_ret (results_tmp3 rfl _ _ _) rfl ?_
        exact ⟨⟨_, _, _, rfl, ⟨_, _, _, rfl⟩, .inr ⟨by decide, by rw [HCZ.out]; exact HNO.out⟩⟩, (by (repeat (first | exact B2 | with_reducible refine belS ?_ | with_reducible refine Below.drew ?_)))⟩
      · have hzI : ((sz : Int) == 0) = false := by rw [beq_eq_false_iff_ne]; omega
        have bE : Below w2.heap.size w2 (w2.alloc (.cells #[.string st, .int .u32 (x : Int)] 59)) := belS (Below.refl _ _)
        have HSPL := hidS (HEN.out.elim (fun h => absurd h.1 hz) (fun h => h.2))
        have hM := mayf_any an E.length cn st (E.getD (E.length - 1) (⟨#[]⟩, 0)).1 x (w2.alloc (.cells #[.string st, .int .u32 (x : Int)] 59)) (by omega) (fun hk => by
          obtain ⟨g, hg⟩ := own_posM own2 hk
          subst hg
          have hgl := (own2.lt g rfl).2
          refine ⟨g, 0, rfl, by have := bE.size; omega, ?_⟩
          rw [Nat.zero_add]
          have hh := own2.cells (g := g) rfl ((E.length - 1) * 2) _ (ev_get E (E.length - 1) (by omega))
          rw [add_plain, Nat.zero_add] at hh
          exact (bE.cell (p := ⟨g, (E.length - 1) * 2, none⟩) hgl).trans hh)
        obtain ⟨r, hrm⟩ : ∃ r, mayB E.length (E.getD (E.length - 1) (⟨#[]⟩, 0)).1 st = r := ⟨_, rfl⟩
        rw [hrm] at hM
        have HRM := hidS hrm
        clear hrm
        go_wp2_with fail
        with_reducible refine hM.mono ?_
        rintro e w3 ⟨rfl, b4⟩
        have B3 := btS (btS B2 bE) b4
        clear hM
        cases r
        · have HNO := hidS (HNI.out.bad hlt hx HSPL.out HRM.out)
          clear own2
          go_wp2_with fail
          change bodyPost Tryd.prog Tryd.f43 (fun e w' => NmP w.heap.size (cutV zs p) e w' ∧ Below w.heap.size w w') Exit.ret _ _
          refine bodyPost_ret (results_tmp3 rfl _ _ _) rfl ?_
          exact ⟨⟨_, _, _, rfl, ⟨_, _, _, rfl⟩, .inr ⟨by decide, by rw [HCZ.out]; exact HNO.out⟩⟩, (by (repeat (first | exact B3 | with_reducible refine belS ?_ | with_reducible refine Below.drew ?_)))⟩
        · have HNX := hidS (HNI.out.step hlt hx HSPL.out HRM.out)
          have hl3 := (b4.block w2.heap.size (by simp)).trans (heap_alloc_last w2 (.cells #[.string st, .int .u32 (x : Int)] 59))
          have e0 : w3.cell? ⟨w2.heap.size, 0, none⟩ = some (.string st) := by unfold World.cell?; simp only [hl3]; rfl
          have e1 : w3.cell? ⟨w2.heap.size, 1, none⟩ = some (.int .u32 x) := by unfold World.cell?; simp only [hl3]; rfl
          have own3 := own_below (own_below own2 bE) b4
          have hb3 : Below w1.heap.size w1 w3 := btS (btS (btS hb b3) bE) b4
          have hbs := hb3.size
          clear own2 hl3
          go_wp2_with (at_builtin; refine wpList_append_own _ rfl _ _ 26 rfl w1.heap.size 59 i0 (.agg #[.string ⟨#[]⟩, .int .u32 0]) 2 24 Tryd.underlying26 hi hz0 hz1 hz2 rfl (by decide) _ _ _ rfl (own3.alloc _) ⟨_, 0, none⟩ 1 1 [.string st, .int .u32 (x : Int)] rfl rfl ?c1 ?c2 ?c3 ?c4 ?c5 ?_)
          case c1 =>
            intro j u hj
            match j, hj with
            | 0, hj => simp at hj; subst hj; simp [Addr.add]
            | 1, hj => simp at hj; subst hj; simp [Addr.add]
          case c2 => intro u hu; simp at hu; rcases hu with rfl | rfl <;> rfl
          case c3 => unfold maxLen; omega
          case c4 => omega
          case c5 => simp; omega
          intro v' w5 hown' hgrow _
          have R1 : w5.ownsRow w1.heap.size 59 2 v' (E ++ [(st, x)]).length (ev (E ++ [(st, x)])) := by
            rw [ev_append, List.length_append]; exact hown'
          have R2 : Below w1.heap.size w1 w5 := (hb3.alloc hbs _).grown hgrow (by simp; omega) (fun j e => (own3.lt j e).1)
          have R5 : Below w1.heap.size w3 w5 := (((Below.refl w1.heap.size w3).alloc hbs _).grown hgrow (by simp; omega) (fun j e => (own3.lt j e).1))
          have hszI : (sz : Int) ≤ (rz.length : Int) := by omega
          have hszC : (sz : Int) ≤ (c : Int) := by omega
          have hw9 : IntKind.i64.wrap ((at_ : Int) + (sz : Int)) = (at_ : Int) + (sz : Int) := by have := HAT.out; rw [IntKind.wrap_i64]; omega
          clear hown' hgrow own3 e0 e1
          have hdl : (rz.drop sz).length = rz.length - sz := by rw [List.length_drop]
          by_cases hcs : c = sz
          · go_wp2_with fail
            refine ⟨⟨E ++ [(st, x)], rz.drop sz, _, _, at_ + sz, by rw [hdl], by rw [hdl]; omega, by push_cast; rfl, by rw [hdl]; have := HAT.out; omega, R1, by rw [hdl, List.length_append]; simp; omega, fun z hz' => HWZ.out z (List.mem_of_mem_drop hz'), ?_, HNX.out, R2⟩, by simp only [lenOf]; omega⟩
            intro hp0
            rw [hdl] at hp0
            omega
          · go_wp2_with fail
            refine ⟨⟨E ++ [(st, x)], rz.drop sz, _, _, at_ + sz, by rw [hdl], by rw [hdl]; omega, by push_cast; rfl, by rw [hdl]; have := HAT.out; omega, R1, by rw [hdl, List.length_append]; simp; omega, fun z hz' => HWZ.out z (List.mem_of_mem_drop hz'), ?_, HNX.out, R2⟩, by simp only [lenOf]; omega⟩
            intro hp0
            obtain ⟨b5, off5, e5, hb5, hc5⟩ := (HRZ.out.below ((b3.mono hb.size).trans (bE.mono (by have := b3.size; have := hb.size; omega)) |>.trans (b4.mono (by have := bE.size; have := b3.size; have := hb.size; omega)))) hlt
            cases e5
            have hR5 := R5.block b2 hb5
            refine ⟨b2, off2 + sz, rfl, hb5, fun j hj => ?_⟩
            rw [hdl] at hj
            have := hc5 (sz + j) (by omega)
            rw [← Nat.add_assoc] at this
            rw [World.cell?_of_block hR5, this]
            simp [List.getD_eq_getElem?_getD]
    · have hltI : ¬ (0 : Int) < (rz.length : Int) := by omega
      obtain ⟨an, cn, rfl, hcn⟩ := own_cap2 hown
      have HOW := hidS (own_lowM hown B1.size)
      clear hown
      go_wp2_with fail
      refine bodyPost_ret (results_tmp3 rfl _ _ _) rfl ?_
      exact ⟨⟨_, _, _, rfl, ⟨_, _, _, rfl⟩, .inl ⟨rfl, rfl, E, HCZ.out.trans (HNI.out.fin (by omega)), HNI.out.ok, HNI.out.wf, HOW.out⟩⟩, BW⟩
end Go.Proofs.YtnplimdcfbgpeaaDoor
namespace Go.Proofs.YtnplimdcfbgpeaaDoor
open Go.RowKit Go.WideShapes Go.Sort Go.Lib
set_option maxRecDepth 100000

/-- what readCode answers -/
def RcP (B : Nat) (cz : List Int) (n12 : Int) (e : Ending) (w' : World) : Prop := ∃ v, ∃ at_ er : Int, e = .returned (.tuple #[v, .int .i64 at_, .int .i64 er]) ∧ (∃ a n c, v = .slice a n c) ∧
  ((er = 0 ∧ at_ = 0 ∧ ∃ L, cz = encF L ∧ allOk L = true ∧ Wfc L ∧ L.length ≤ 16384 ∧ n12 = L.length ∧ w'.ownsRow B 54 2 v L.length (cv L)) ∨ (¬ er = 0 ∧ ∀ L, allOk L = true → L.length ≤ 16384 → n12 = L.length → cz ≠ encF L))
theorem dec_cases (cz : List Int) (hwf : ∀ z ∈ cz, 0 ≤ z ∧ z ≤ 255) :
    (dcX cz = 0 ∧ dcI cz = 0 ∧ cz = encF (dcB cz) ∧ allOk (dcB cz) = true ∧ Wfc (dcB cz) ∧ (dcB cz).length ≤ 16384) ∨ (¬ dcX cz = 0 ∧ ∀ L, allOk L = true → L.length ≤ 16384 → cz ≠ encF L) := by
  cases h : okD cz with
  | true =>
    obtain ⟨a, b, c, d, e, f⟩ := dec_back cz hwf h
    exact .inl ⟨f, e, a.symm, b, c, d⟩
  | false =>
    obtain ⟨_, _, c⟩ := dec_fault cz h
    refine .inr ⟨c, fun L ho hl he => ?_⟩
    subst he
    exact c (dec_enc L ho hl).2.2
theorem dec_uniq {L M : List (Nat × Nat)} (hL : allOk L = true) (hL2 : L.length ≤ 16384) (hM : allOk M = true) (hM2 : M.length ≤ 16384) (h : encF L = encF M) : L = M := by
  rw [← (dec_enc L hL hL2).1, h, (dec_enc M hM hM2).1]
set_option maxHeartbeats 1000000 in
theorem readCode_told (b off cap : Nat) (zs : List Int) (p : Nat × Nat) (w : World) (hn : zs.length ≤ 1048576) (hcp : zs.length ≤ cap) (hwf : ∀ z ∈ zs, 0 ≤ z ∧ z ≤ 255) (hp : p.1 < 4294967296 ∧ p.2 < 4294967296) (hr : Reads w (some ⟨b, off, none⟩) zs w.heap.size) :
    Calls Tryd.prog 40 #[.slice (some ⟨b, off, none⟩) zs.length cap, .agg #[.int .u32 p.1, .int .u32 p.2]] w fun e w' => RcP w.heap.size (cutV zs p) (atv 4 zs 12) e w' ∧ Below w.heap.size w w' := by
  have bA : Below w.heap.size w (w.alloc (.cells #[.int .u32 (p.1 : Int), .int .u32 (p.2 : Int)] 47)) := belS (Below.refl _ _)
  have hB := bytesOf_any b off cap zs p (w.alloc (.cells #[.int .u32 (p.1 : Int), .int .u32 (p.2 : Int)] 47)) hn hcp hp ((hr.below bA).mono bA.size)
  have HWd := hidS (fun W (hW : Below w.heap.size w W) => wordAt_any (some ⟨b, off, none⟩) cap zs 12 W (by omega) hcp hwf ((hr.below hW).mono hW.size) (by decide) (by decide))
  have HCW := hidS (cutV_wf hwf p)
  have HDC := hidS (dec_cases (cutV zs p) (cutV_wf hwf p))
  have hcl := cutV_len zs p
  have hp1 : (p.1 : Int) < 4294967296 := by omega
  have hlA := heap_alloc_last w (.cells #[.int .u32 (p.1 : Int), .int .u32 (p.2 : Int)] 47)
  have hltA : w.heap.size < (w.alloc (.cells #[.int .u32 (p.1 : Int), .int .u32 (p.2 : Int)] 47)).heap.size := by simp
  clear hr hwf hp
  go_enter Tryd.func40, Tryd.ntmps40
  go_wp2_with fail
  with_reducible refine hB.mono ?_
  rintro e w1 ⟨a1, c1, rfl, hc1, hr1, _, b1⟩
  have B1 := btS bA b1
  have hD := decode_any a1 c1 (cutV zs p) w1 (by omega) hc1 HCW.out hr1
  clear hB hr1
  go_wp2_with fail
  with_reducible refine hD.mono ?_
  rintro e w2 ⟨v2, rfl, own2, b2⟩
  obtain ⟨a2, c2, rfl, _⟩ := own_cap2 own2
  have B2 := btS B1 b2
  have HOW := hidS (own_lowM own2 B1.size)
  have hl2 : w2.heap[w.heap.size]? = some (.cells #[.int .u32 (p.1 : Int), .int .u32 (p.2 : Int)] 47) := (b2.block w.heap.size (by have := b1.size; omega)).trans ((b1.block w.heap.size hltA).trans hlA)
  have c0 : w2.cell? ⟨w.heap.size, 0, none⟩ = some (.int .u32 p.1) := by unfold World.cell?; simp only [hl2]; rfl
  clear own2 hD
  obtain ⟨cz, hcz⟩ : ∃ cz, cutV zs p = cz := ⟨_, rfl⟩
  rw [hcz] at HDC HOW hcl ⊢
  have HCZ := hidS hcz
  clear hcz HCW
  obtain ⟨nn, hnn⟩ : ∃ nn, (dcB cz).length = nn := ⟨_, rfl⟩
  have HNN := hidS hnn
  rw [hnn]
  clear hnn
  rcases HDC.out with ⟨hx, hi0, d1, d2, d3, d4⟩ | ⟨hx, hno⟩
  · rw [hx, hi0]
    have HD1 := hidS d1
    have HD2 := hidS d2
    have HD3 := hidS d3
    have HD4 := hidS d4
    have hnl : nn ≤ 16384 := by rw [← HNN.out]; exact d4
    have hWd := HWd.out w2 B2
    clear hlA hl2 c0 hp1 hx hi0 d1 d2 d3 d4 HDC
    have hn32 : IntKind.u32.wrap (nn : Int) = (nn : Int) := by rw [IntKind.wrap_u32]; omega
    clear hnl
    by_cases hm : atv 4 zs 12 = (nn : Int)
    · have HM := hidS hm
      rw [hm] at hWd
      clear hm
      go_wp2_with fail
      with_reducible refine hWd.mono ?_
      rintro e wq ⟨rfl, hq⟩
      subst wq
      go_wp2_with fail
      refine bodyPost_ret (results_tmp3 rfl _ _ _) rfl ?_
      refine ⟨⟨_, _, _, rfl, ⟨_, _, _, rfl⟩, .inl ⟨rfl, rfl, dcB cz, HCZ.out.trans HD1.out, HD2.out, HD3.out, HD4.out, ?_, ?_⟩⟩, B2⟩
      · rw [HNN.out]; exact HM.out
      · have := HOW.out
        rw [HNN.out] at this ⊢
        exact this
    · have hm' : ((nn : Int) == atv 4 zs 12) = false := by rw [beq_eq_false_iff_ne]; exact fun h => hm h.symm
      have HNO : Hid (∀ L, allOk L = true → L.length ≤ 16384 → atv 4 zs 12 = L.length → cz ≠ encF L) := hidS (fun L h1 h2 h3 h4 => hm (by
        have : L = dcB cz := dec_uniq h1 h2 HD2.out HD4.out (h4.symm.trans HD1.out)
        rw [h3, this, HNN.out]))
      clear hm
      obtain ⟨y12, hy⟩ : ∃ y12, atv 4 zs 12 = y12 := ⟨_, rfl⟩
      rw [hy] at hWd hm'
      have HYY := hidS hy
      clear hy
      go_wp2_with fail
      with_reducible refine hWd.mono ?_
      rintro e wq ⟨rfl, hq⟩
      subst wq
      go_wp2_with fail
      refine bodyPost_ret (results_tmp3 rfl _ _ _) rfl ?_
      exact ⟨⟨_, _, _, rfl, ⟨_, _, _, rfl⟩, .inr ⟨by decide, by rw [HCZ.out]; exact HNO.out⟩⟩, B2⟩
  · obtain ⟨xx, hxx⟩ : ∃ xx, dcX cz = xx := ⟨_, rfl⟩
    rw [hxx] at hx ⊢
    have HX := hidS hx
    have HNO := hidS hno
    have hxI : ((xx : Int) == 0) = false := by rw [beq_eq_false_iff_ne]; omega
    have hwp : IntKind.i64.wrap (p.1 : Int) = (p.1 : Int) := by rw [IntKind.wrap_i64]; omega
    obtain ⟨ii, hii⟩ : ∃ ii, dcI cz = ii := ⟨_, rfl⟩
    rw [hii]
    clear hp1 hx hxx hno hii HDC HOW
    go_wp2_with fail
    first | go_quiet (fail) | go_region
    go_wp2_with fail
    refine bodyPost_ret (results_tmp3 rfl _ _ _) rfl ?_
    exact ⟨⟨_, _, _, rfl, ⟨_, _, _, rfl⟩, .inr ⟨by have := HX.out; omega, by rw [HCZ.out]; exact fun L h1 h2 _ => HNO.out L h1 h2⟩⟩, by first | exact B2 | exact below_drewN B2 _ | exact Below.drew B2⟩
/-- the bytes of words -/
def jmB (J : List Nat) : List Int := J.flatMap fun (j : Nat) => nb 4 (j : Int)
def jI (J : List Nat) : List Int := J.map fun (j : Nat) => (j : Int)
theorem jmB_len (J : List Nat) : (jmB J).length = J.length * 4 := by
  have := flat_nb_len 4 (jI J)
  rw [jI, List.length_map, List.flatMap_map] at this
  exact this
theorem jI_len (J : List Nat) : (jI J).length = J.length := List.length_map _
theorem puts_jI (J : List Nat) : puts 4 (jI J) (jI J).length = jmB J := by
  unfold puts
  rw [List.take_length, jI, List.flatMap_map]
  rfl
theorem nums_flat (zs : List Int) (hwf : ∀ z ∈ zs, 0 ≤ z ∧ z ≤ 255) : ∀ m, m * 4 ≤ zs.length → (nums 4 zs m).flatMap (nb 4) = zs.take (m * 4) := by
  intro m
  induction m with
  | zero => intro _; simp [nums]
  | succ m ih =>
    intro hm
    rw [nums_succ, List.flatMap_append, ih (by omega), List.flatMap_cons, List.flatMap_nil, List.append_nil]
    have h1 := nb_num ((zs.drop (m * 4)).take 4) (fun z hz => hwf z (List.mem_of_mem_drop (List.mem_of_mem_take hz)))
    rw [show ((zs.drop (m * 4)).take 4).length = 4 by rw [List.length_take, List.length_drop]; omega] at h1
    rw [h1, show (m + 1) * 4 = m * 4 + 4 by omega, List.take_add]
theorem nums_rng (zs : List Int) (hwf : ∀ z ∈ zs, 0 ≤ z ∧ z ≤ 255) (m : Nat) (hm : m * 4 ≤ zs.length) : ∀ x ∈ nums 4 zs m, 0 ≤ x ∧ x < 4294967296 := by
  intro x hx
  obtain ⟨i, hi, rfl⟩ := List.mem_map.1 hx
  have hi := List.mem_range.1 hi
  have h1 := num_range ((zs.drop (i * 4)).take 4) (fun z hz => hwf z (List.mem_of_mem_drop (List.mem_of_mem_take hz)))
  rw [show ((zs.drop (i * 4)).take 4).length = 4 by rw [List.length_take, List.length_drop]; omega] at h1
  exact ⟨h1.1, by have := h1.2; simpa using this⟩
theorem jI_of (X : List Int) (h : ∀ x ∈ X, 0 ≤ x ∧ x < 4294967296) : jI (X.map Int.toNat) = X ∧ ∀ j ∈ X.map Int.toNat, j < 4294967296 := by
  refine ⟨?_, fun j hj => ?_⟩
  · rw [jI, List.map_map]
    conv => rhs; rw [← List.map_id X]
    refine List.map_congr_left fun x hx => ?_
    show ((x.toNat : Nat) : Int) = x
    have := h x hx
    omega
  · obtain ⟨x, hx, rfl⟩ := List.mem_map.1 hj
    have := h x hx
    omega
theorem jmB_jI (X : List Int) (J : List Nat) (h : jI J = X) : jmB J = X.flatMap (nb 4) := by
  rw [← h, jI, List.flatMap_map]
  rfl
theorem jmB_inj : ∀ {J K : List Nat}, (∀ j ∈ J, j < 4294967296) → (∀ j ∈ K, j < 4294967296) → jmB J = jmB K → J = K
  | [], [], _, _, _ => rfl
  | [], k :: K, _, _, h => by have := congrArg List.length h; rw [jmB_len, jmB_len] at this; simp at this
  | j :: J, [], _, _, h => by have := congrArg List.length h; rw [jmB_len, jmB_len] at this; simp at this
  | j :: J, k :: K, hj, hk, h => by
    have h1 : nb 4 (j : Int) ++ jmB J = nb 4 (k : Int) ++ jmB K := h
    obtain ⟨h2, h3⟩ := List.append_inj h1 (by rw [nb_len, nb_len])
    have h4 := congrArg num h2
    rw [num_nb4 _ (hj j (by simp)), num_nb4 _ (hk k (by simp))] at h4
    rw [show j = k by omega, jmB_inj (fun x hx => hj x (by simp [hx])) (fun x hx => hk x (by simp [hx])) h3]
/-- what readJumps answers -/
def RjP (B : Nat) (cz : List Int) (e : Ending) (w' : World) : Prop := ∃ v, ∃ er : Int, e = .returned (.tuple #[v, .int .i64 er]) ∧ (∃ a n c, v = .slice a n c) ∧
  ((er = 0 ∧ ∃ J : List Nat, cz = jmB J ∧ (∀ j ∈ J, j < 4294967296) ∧ J.length ≤ 16384 ∧ w'.ownsRow B 25 1 v J.length (bk .u32 (jI J))) ∨ (¬ er = 0 ∧ ∀ J : List Nat, J.length ≤ 16384 → cz ≠ jmB J))
set_option maxHeartbeats 1000000 in
theorem readJumps_told (b off cap : Nat) (zs : List Int) (p : Nat × Nat) (w : World) (hn : zs.length ≤ 1048576) (hcp : zs.length ≤ cap) (hwf : ∀ z ∈ zs, 0 ≤ z ∧ z ≤ 255) (hp : p.1 < 4294967296 ∧ p.2 < 4294967296) (hin : p.1 + p.2 ≤ zs.length) (hr : Reads w (some ⟨b, off, none⟩) zs w.heap.size) :
    Calls Tryd.prog 41 #[.slice (some ⟨b, off, none⟩) zs.length cap, .agg #[.int .u32 p.1, .int .u32 p.2]] w fun e w' => RjP w.heap.size (cutV zs p) e w' ∧ Below w.heap.size w w' := by
  have bA : Below w.heap.size w (w.alloc (.cells #[.int .u32 (p.1 : Int), .int .u32 (p.2 : Int)] 47)) := belS (Below.refl _ _)
  have hB := bytesOf_any b off cap zs p (w.alloc (.cells #[.int .u32 (p.1 : Int), .int .u32 (p.2 : Int)] 47)) hn hcp hp ((hr.below bA).mono bA.size)
  have HCW := hidS (cutV_wf hwf p)
  have hcl := cutV_len zs p
  have hcl2 : (cutV zs p).length = p.2 := by unfold cutV; rw [if_pos hin, List.length_take, List.length_drop]; omega
  have HCL := hidS hcl2
  clear hr hwf hp hin hcl2
  by_cases hbig : 65536 < p.2
  · have hbI : (65536 : Int) < (p.2 : Int) := by omega
    have HNO : Hid (∀ J : List Nat, J.length ≤ 16384 → cutV zs p ≠ jmB J) := hidS (fun J hJ he => by have := HCL.out; rw [he, jmB_len] at this; omega)
    clear hB hbig
    go_enter Tryd.func41, Tryd.ntmps41
    go_wp2_with fail
    refine bodyPost_ret (results_tmp2 rfl _ _ _) rfl ?_
    exact ⟨⟨_, _, rfl, ⟨_, _, _, rfl⟩, .inr ⟨by decide, HNO.out⟩⟩, bA⟩
  · have hbI : ¬ (65536 : Int) < (p.2 : Int) := by omega
    have HBG := hidS hbig
    clear hbig
    go_enter Tryd.func41, Tryd.ntmps41
    go_wp2_with fail
    with_reducible refine hB.mono ?_
    rintro e w1 ⟨a1, c1, rfl, hc1, hr1, _, b1⟩
    have B1 := btS bA b1
    obtain ⟨cz, hcz⟩ : ∃ cz, cutV zs p = cz := ⟨_, rfl⟩
    rw [hcz] at hc1 hr1 HCW HCL hcl ⊢
    have HCZ := hidS hcz
    clear hcz hB
    by_cases hm : cz.length % 4 = 0
    · have hA := all_u32 a1 c1 cz (cz.length / 4) w1 (by omega) (by omega) hc1 HCW.out hr1
      have HJ := hidS (jI_of (nums 4 cz (cz.length / 4)) (nums_rng cz HCW.out _ (by omega)))
      have HF := hidS (show (nums 4 cz (cz.length / 4)).flatMap (nb 4) = cz from by rw [nums_flat cz HCW.out _ (by omega), show cz.length / 4 * 4 = cz.length by omega, List.take_length])
      have HLN := hidS (nums_len 4 cz (cz.length / 4))
      obtain ⟨m4, hm4⟩ : ∃ m4, cz.length / 4 = m4 := ⟨_, rfl⟩
      have HM4 := hidS hm4
      rw [hm4] at hA HJ HF HLN
      clear hm4 hm
      obtain ⟨X, hX⟩ : ∃ X, nums 4 cz m4 = X := ⟨_, rfl⟩
      rw [hX] at hA HJ HF HLN
      clear hX
      obtain ⟨nn, hnn⟩ : ∃ nn, cz.length = nn := ⟨_, rfl⟩
      have HNN := hidS hnn
      rw [hnn] at hA ⊢
      clear hr1 hnn
      go_wp2_with fail
      with_reducible refine hA.mono ?_
      rintro e w2 ⟨v2, rfl, own2, b2⟩
      have HOW := hidS (own_lowM own2 B1.size)
      obtain ⟨q1, q2, q3, rfl⟩ := own_one own2
      clear own2 hA
      go_wp2_with fail
      refine bodyPost_ret (results_tmp2 rfl _ _ _) rfl ?_
      refine ⟨⟨_, _, rfl, ⟨_, _, _, rfl⟩, .inl ⟨rfl, X.map Int.toNat, ?_, HJ.out.2, ?_, ?_⟩⟩, btS B1 b2⟩
      · rw [HCZ.out, jmB_jI X _ HJ.out.1, HF.out]
      · rw [List.length_map, HLN.out, ← HM4.out]
        have := HBG.out
        have := HCL.out
        omega
      · rw [HJ.out.1, List.length_map, HLN.out]; exact HOW.out
    · have hA := allE_u32 a1 cz.length c1 w1 hm
      have HNO : Hid (∀ J : List Nat, J.length ≤ 16384 → cz ≠ jmB J) := hidS (fun J hJ he => hm (by rw [he, jmB_len]; omega))
      obtain ⟨nn, hnn⟩ : ∃ nn, cz.length = nn := ⟨_, rfl⟩
      rw [hnn] at hA ⊢
      clear hr1 hnn hm
      go_wp2_with fail
      with_reducible refine hA.mono ?_
      rintro e w2 ⟨rfl, hq⟩
      subst w2
      go_wp2_with fail
      refine bodyPost_ret (results_tmp2 rfl _ _ _) rfl ?_
      exact ⟨⟨_, _, rfl, ⟨_, _, _, rfl⟩, .inr ⟨by decide, by rw [HCZ.out]; exact HNO.out⟩⟩, B1⟩
end Go.Proofs.YtnplimdcfbgpeaaDoor
