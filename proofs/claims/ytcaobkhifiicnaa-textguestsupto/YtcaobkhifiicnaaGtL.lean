import Derived.Test.YtcaobkhifiicnaaGtC
import Derived.Lib.Strings
import Derived.Lib.ConvBytes
import Derived.Deep.AppendLies
import Derived.Deep.RegionHeld3
namespace Go.Proofs.Ytcaobkhifiicnaa
open Go.RowKit Go.Shelf
theorem grown_below' {B e : Nat} {a w w' : World} {xs : List Value} {v : Value} {n : Nat} {o : Obj} (h : Below B a w) (hB : B ≤ w.heap.size) (hown : w.ownsRow B e 1 v n xs) (hg : (w.alloc o).grownBy w' v.ownBlock) : Below B a w' :=
  (h.alloc hB o).grown hg (by simp; omega) (fun k e => (hown.lt k e).1)
theorem bw_below (w : World) (s : ByteArray) : Below w.heap.size w (Lib.bytesWorld w 5 s) :=
  ⟨rfl, rfl, rfl, by rw [Lib.bytesWorld_size]; omega, fun k hk => Lib.bytesWorld_at_old w 5 s k hk⟩
theorem str_at (L : List Int) (hb : ∀ z ∈ L, 0 ≤ z ∧ z ≤ 255) (j : Nat) (hj : j < L.length) (h : j < (strOfNums L).size) : (((strOfNums L)[j]'h).toNat : Int) = L.getD j 0 := by
  rw [← bt_eq, bt_str L hb j hj]
theorem str_reads (L : List Int) (hb : ∀ z ∈ L, 0 ≤ z ∧ z ≤ 255) (W : World) : Reads (Lib.bytesWorld W 5 (strOfNums L)) (some ⟨W.heap.size, 0, none⟩) L (Lib.bytesWorld W 5 (strOfNums L)).heap.size := by
  intro _
  refine ⟨W.heap.size, 0, rfl, by rw [Lib.bytesWorld_size]; omega, fun j hj => ?_⟩
  have hs : j < (strOfNums L).size := by rw [strOfNums_size]; exact hj
  rw [Nat.zero_add, Lib.bytesWorld_cell W 5 _ j hs]
  have h1 := str_at L hb j hj hs
  have h2 : (strOfNums L).data.toList.getD j 0 = (strOfNums L)[j]'hs := by
    have hl : j < (strOfNums L).data.toList.length := by rw [Array.length_toList]; exact hs
    simp [List.getD, List.getElem?_eq_getElem hl]
    rfl
  rw [h2, h1]
theorem pln_take (zs : List Int) (k : Nat) (h : k < zs.length) : (pln zs).take (k + 1) = (pln zs).take k ++ [32 + zs.getD k 0 % 95] := by
  rw [take_snoc _ k (by rw [pln_len]; exact h)]
  congr 2
  simp [pln, List.getElem?_eq_getElem h]
theorem wpList_append_none {P : Program} {w : World} {ops : Array Oper} {rest : List Oper} {o : Oper} {a : Act} {Q : Exit → Act → World → Prop} (hgd : o.guard = none) (s x : Operand) (t : TypeId)
    (ho : o.op = .call { callee := .builtin .append, args := #[s, x], argTypes := #[t, t] })
    (e : TypeId) (i : TypeInfo) (z : Value) (ht : P.underlying t = some (.slice e)) (hi : P.info? e = some i) (hz : i.zero = some z)
    (ad : Addr) (n c m c2 : Nat) (hs : a.eval s = .slice (some ad) n c) (hx : a.eval x = .slice none m c2) (hm : m = 0) (hnc : n ≤ c)
    (h : wpList P ops Q rest (a.put o.dst (.slice (some ad) n c)) w) : wpList P ops Q (o :: rest) a w := by
  subst hm
  refine wpList_plain hgd fun _ hK => ?_
  have hr : (Builtin.append_ #[t, t] o.type #[.slice (some ad) n c, .slice none 0 c2]).run P w = .ok (.slice (some ad) n c) w := by
    simp [Builtin.append_, run_underlying ht, sizeOf, typeInfo, zeroValue, hi, hz, Builtin.lenOf, hnc, run_firstCells_none, storeCells]
  unfold Oper.wp execOp
  simp only [ho, resolve, invoke, builtin, Sem.run_bind, Sem.run_pure, Result.andThen_ok, List.map_toArray, List.map_cons, List.map_nil, hs, hx, hr]
  exact hK _ _ h
theorem reads_news {W : World} {ad : Addr} {zs : List Int} {B : Nat} (h : Reads W (some ad) zs B) : ∀ j u, (bv zs)[j]? = some u → W.cell? (ad.add j) = some u := by
  intro j u hj
  have hjl : j < zs.length := by
    have := (List.getElem?_eq_some_iff.1 hj).1
    simpa [bv] using this
  obtain ⟨b, off, e, _, hc⟩ := h (by omega)
  simp only [Option.some.injEq] at e
  subst e
  have hadd : (⟨b, off, none⟩ : Addr).add j = ⟨b, off + j, none⟩ := by unfold Addr.add; split <;> simp_all
  rw [hadd, hc j hjl]
  simp [bv, hjl] at hj
  simp [hjl, hj]
theorem y_cells {W0 W : World} {B g M gc : Nat} {zs : List Int} (h : W0.ownsRow B 5 1 (.slice (some ⟨g, 0, none⟩) M gc) M (bv (pln zs ++ 0 :: zs))) (hb : Below W0.heap.size W0 W) : ∀ j, j < (pln zs ++ 0 :: zs).length → W.cell? ⟨g, 0 + j, none⟩ = some (.int .u8 ((pln zs ++ 0 :: zs).getD j 0)) := by
  intro j hj
  rw [Nat.zero_add]
  exact (hb.cell (p := ⟨g, j, none⟩) (h.lt g rfl).2).trans (own_get h hj)
theorem y_wf {zs : List Int} (hwf : ∀ z ∈ zs, 0 ≤ z ∧ z ≤ 255) : ∀ z ∈ pln zs ++ 0 :: zs, 0 ≤ z ∧ z ≤ 255 := by
  intro z hz
  rcases List.mem_append.1 hz with h | h
  · have := pln_mem zs z h; omega
  · rcases List.mem_cons.1 h with rfl | h
    · omega
    · exact hwf z h
theorem y_guest {W0 : World} {B g M gc : Nat} {zs : List Int} (h : W0.ownsRow B 5 1 (.slice (some ⟨g, 0, none⟩) M gc) M (bv (pln zs ++ 0 :: zs))) (hM : (pln zs ++ 0 :: zs).length = M) (hn : zs.length ≤ 1048576) (hgc : M ≤ gc) (hwf : ∀ z ∈ zs, 0 ≤ z ∧ z ≤ 255) : ∀ W, Below W0.heap.size W0 W →
    Calls Try.prog 6 #[.slice (some ⟨g, 0, none⟩) M gc] W fun e w' => e = .returned (.string (strOfNums (pln zs))) ∧ Below W.heap.size W w' := by
  intro W hb
  have hl : (pln zs ++ 0 :: zs).length ≤ 4194304 := by simp [pln_len]; omega
  have := guest_any (some ⟨g, 0, none⟩) gc (pln zs ++ 0 :: zs) W hl (by omega) (y_wf hwf) (fun _ => ⟨g, 0, rfl, Nat.lt_of_lt_of_le (h.lt g rfl).2 hb.size, y_cells h hb⟩)
  rw [hM, pln_guest zs] at this
  exact this
theorem y_conv {W0 : World} {B g M gc : Nat} {zs : List Int} (h : W0.ownsRow B 5 1 (.slice (some ⟨g, 0, none⟩) M gc) M (bv (pln zs ++ 0 :: zs))) : ∀ W, Below W0.heap.size W0 W →
    Sem.run Try.prog (convert 22 9 (.slice (some ⟨g, 0, none⟩) zs.length gc)) W = .ok (.string (strOfNums (pln zs))) W := by
  intro W hb
  refine run_convert_bytes_arg (P := Try.prog) W 22 5 Try.underlying22 Try.underlying5 g 0 zs.length gc (pln zs) (pln_len zs) (fun i hi => ?_) 9 Try.underlying9
  rw [y_cells h hb i (by simp [pln_len]; omega)]
  simp [List.getElem?_append_left (show i < (pln zs).length by rw [pln_len]; exact hi)]
theorem bt3 {a w1 : World} {n : Nat} (h : Below a.heap.size a w1) : Below a.heap.size a (w1.drewN n) := h.trans ⟨rfl, rfl, rfl, Nat.le_refl _, fun _ _ => rfl⟩
theorem own_sl {w : World} {B e n : Nat} {v : Value} {xs : List Value} (h : w.ownsRow B e 1 v n xs) : ∃ bo bc, v = .slice bo n bc := by
  rcases h.2 with ⟨rfl, rfl⟩ | ⟨g, cap, cur, rfl, _⟩
  · exact ⟨none, 0, rfl⟩
  · exact ⟨_, cap, rfl⟩
set_option maxRecDepth 100000 in
set_option maxHeartbeats 4000000 in
theorem tguests_some (ad : Addr) (cap : Nat) (zs : List Int) (w : World) (hn : zs.length ≤ 1048576) (hcap : zs.length ≤ cap) (hwf : ∀ z ∈ zs, 0 ≤ z ∧ z ≤ 255) (hr : Reads w (some ad) zs w.heap.size) :
    Calls Try.prog 4 #[.slice (some ad) zs.length cap] w fun e w' => e = .returned (.bool true) ∧ Below w.heap.size w w' := by
  obtain ⟨i0, hi, hz0, hz1, hz2⟩ := info_parts Try.info5
  have HWF := hid_of hwf
  clear hwf
  have hXl : (gsL (cuts (strOfNums (pz zs)))).length ≤ 4194304 := by
    have := told_len (strOfNums (pz zs)) 1048576 (by rw [strOfNums_size]; have := pz_len zs; omega)
    omega
  have HXA := hid_of (told_again (strOfNums (pz zs)))
  have HXB := hid_of (told_bytes (strOfNums (pz zs)))
  obtain ⟨X, hX⟩ : ∃ X, gsL (cuts (strOfNums (pz zs))) = X := ⟨_, rfl⟩
  rw [hX] at hXl HXA HXB
  have HX := hid_of hX
  clear hX
  have HXW : Hid (∀ z ∈ X, 0 ≤ z ∧ z ≤ 255) := fun z hz => by have := HXB.out z hz; omega
  obtain ⟨S, hS⟩ : ∃ S, strOfNums X = S := ⟨_, rfl⟩
  have HS := hid_of hS
  have hSz : S.size = X.length := by rw [← hS, strOfNums_size]
  have HSZ := hid_of hSz
  have HAT : Hid (∀ (j : Nat) (h : j < S.size), (((S[j]'h).toNat : Int) = 10 ∨ 32 ≤ ((S[j]'h).toNat : Int)) ∧ ((S[j]'h).toNat : Int) ≠ 127) := by
    intro j h
    subst hS
    rw [str_at X HXW.out j (by omega) h]
    have hj : j < X.length := by omega
    have := HXB.out (X.getD j 0) (by simp [List.getD, List.getElem?_eq_getElem hj])
    omega
  have HRD : Hid (∀ W : World, Reads (Lib.bytesWorld W 5 S) (some ⟨W.heap.size, 0, none⟩) X (Lib.bytesWorld W 5 S).heap.size) := by
    intro W; rw [← hS]; exact str_reads X HXW.out W
  obtain ⟨m, hm⟩ : ∃ m, X.length = m := ⟨_, rfl⟩
  have HM := hid_of hm
  rw [hm] at hXl hSz
  have hcv : ∀ W : World, (convert 9 22 (.string S)).run Try.prog W = .ok (.slice (some ⟨W.heap.size, 0, none⟩) m (grownCap W m 0 5)) (Lib.bytesWorld W 5 S) := fun W => by
    rw [Lib.run_convert_string_bytes W 9 22 5 S Try.underlying9 Try.underlying22 Try.underlying5, hSz]
  clear hS hm HSZ
  have hS1 : S.size ≤ 4194304 := by omega
  go_enter Try.func4, Try.ntmps4
  go_wp2_with fail
  refine (guest_any (some ad) cap zs _ (by omega) hcap HWF.out hr).mono ?_
  rintro e w1 ⟨rfl, hb1⟩
  rw [HX.out, HS.out]
  have hr1 : Reads w1 (some ad) zs w.heap.size := hr.below hb1
  have hB1 := hb1.size
  clear hr
  go_wp2_with fail
  go_loop [4] (fun i => ∃ k : Nat, k ≤ m ∧ i = .int .i64 k) (fun i => m - (intOf i).toNat)
  case atStart => exact ⟨0, Nat.zero_le _, rfl⟩
  case round =>
    obtain ⟨k, hk, rfl⟩ := hrel
    by_cases hlt : k < m
    · have hkS : k < S.size := by omega
      have hkI : (k : Int) < (S.size : Int) := by omega
      obtain ⟨h1, h2⟩ := HAT.out k hkS
      obtain ⟨c, hc⟩ : ∃ c, (S[k]'hkS).toNat = c := ⟨_, rfl⟩
      rw [hc] at h1 h2
      have h127 : ((c : Int) == 127) = false := by rw [beq_eq_false_iff_ne]; exact h2
      clear hSz
      by_cases h10 : (c : Int) = 10
      · have hc10 : c = 10 := by omega
        subst hc10
        clear h1 h2 h10 h127
        go_wp2
        go_round
        case rel => exact ⟨k + 1, by omega, by go_num⟩
        case measure => simp [intOf]; omega
      · have h32 : 32 ≤ (c : Int) := by omega
        clear h1 h2 h10
        go_wp2
        go_round
        case rel => exact ⟨k + 1, by omega, by go_num⟩
        case measure => simp [intOf]; omega
    · obtain rfl : k = m := by omega
      have hkI : (S.size : Int) ≤ (k : Int) := by omega
      have HSK := hid_of hSz
      clear hSz hlt hk
      go_wp2_with fail
      have G2 := guest_any (some ⟨w1.heap.size, 0, none⟩) (grownCap w1 k 0 5) X (Lib.bytesWorld w1 5 S) (by rw [HM.out]; omega) (by rw [HM.out]; exact grownCap_ge w1 k 0 5) HXW.out (HRD.out w1)
      rw [HM.out, HXA.out, HS.out] at G2
      refine G2.mono ?_
      rintro e w2 ⟨rfl, hb2⟩
      clear G2
      have hb3 : Below w.heap.size w w2 := (hb1.trans ((bw_below w1 S).mono hB1)).trans (hb2.mono (by rw [Lib.bytesWorld_size]; omega))
      have hr2 : Reads w2 (some ad) zs w.heap.size := hr1.below (((bw_below w1 S).mono hB1).trans (hb2.mono (by rw [Lib.bytesWorld_size]; omega)))
      have hB2 := hb3.size
      clear hb1 hb2 hr1 hcv HRD HAT HXW HSK HM HS HXB HXA HX
      go_wp2
      go_loopw [5, 6] (fun v i wr => ∃ k : Nat, k ≤ zs.length ∧ i = .int .i64 k ∧ wr.ownsRow w.heap.size 5 1 v k (bv ((pln zs).take k)) ∧ Below w.heap.size w wr ∧ Reads wr (some ad) zs w.heap.size) (fun _ i _ => zs.length - (intOf i).toNat)
      case atStart => exact ⟨0, Nat.zero_le _, rfl, World.ownsRow_nil _ _ _ _, hb3, hr2⟩
      case round =>
        clear hr2 hb3
        obtain ⟨j, hj, rfl, hown, hb, hr3⟩ := hrel
        have hB := hb.size
        by_cases hlt : j < zs.length
        · obtain ⟨b, off, eb, hbl, hc⟩ := hr3 (by omega)
          cases eb
          have hck := hc j hlt
          have hcw := HWF.out _ (getD_mem hlt)
          have HT := hid_of (pln_take zs j hlt)
          have HR3 := hid_of hr3
          clear hc hr3
          generalize zs.getD j 0 = c at hck hcw HT
          have hI : (j : Int) < (zs.length : Int) := by omega
          go_wp2_with (at_builtin; refine wpList_append_own _ rfl _ _ 22 rfl w.heap.size 5 i0 (.int .u8 0) 1 1 Try.underlying22 hi hz0 hz1 hz2 rfl (by decide) _ _ _ rfl (hown.alloc _) ⟨_, 0, none⟩ 1 1 _ rfl rfl (World.news_of_block (heap_alloc_new _ _)) (by intro u hu; simp at hu; subst hu; rfl) (by unfold maxLen; omega) (by omega) (by simp; omega) ?_; intro va wa owna growa _; have hba := grown_below' hb hB hown growa; have hba' := grown_below' (Below.refl _ wr) hB hown growa)
          go_roundw
          case rel =>
            refine ⟨j + 1, by omega, by go_num, ?_, hba, ?_⟩
            · rw [HT.out, bv_append]; exact owna
            · exact HR3.out.below hba'
          case measure => simp [intOf]; omega
        · obtain rfl : j = zs.length := by omega
          have hI : (zs.length : Int) ≤ ((zs.length : Nat) : Int) := by omega
          have hpt : (pln zs).take zs.length = pln zs := List.take_of_length_le (by rw [pln_len]; omega)
          rw [hpt] at hown
          clear hpt hlt hj
          obtain ⟨bo, bc, rfl⟩ := own_sl hown
          go_wp2_with (first
            | (at_builtin; refine wpList_append_own _ rfl _ _ 22 rfl w.heap.size 5 i0 (.int .u8 0) 1 1 Try.underlying22 hi hz0 hz1 hz2 rfl (by decide) _ _ _ rfl (hown.alloc _) ⟨_, 0, none⟩ 1 1 _ rfl rfl (World.news_of_block (heap_alloc_new _ _)) (by intro u hu; simp at hu; subst hu; rfl) (by unfold maxLen; omega) (by omega) (by simp; omega) ?_; intro va wa owna growa _; have hba := grown_below' hb hB hown growa; have hra := hr3.below (grown_below' (Below.refl _ wr) hB hown growa); have hBa := hba.size; obtain ⟨g, gc, rfl, hgc⟩ := own_form owna (by omega))
            | (at_builtin; refine wpList_append_own _ rfl _ _ 22 rfl w.heap.size 5 i0 (.int .u8 0) 1 1 Try.underlying22 hi hz0 hz1 hz2 rfl (by decide) _ _ _ rfl owna ad zs.length cap (bv zs) rfl (by simp [bv]) (reads_news hra) (by intro u hu; simp [bv] at hu; obtain ⟨z, _, rfl⟩ := hu; rfl) (by unfold maxLen; omega) (by omega) (by omega) ?_; intro vb wb ownb growb _; have hbb : Below w.heap.size w wb := hba.grown growb (by omega) (fun k e => (owna.lt k e).1); obtain ⟨g2, gc2, rfl, hgc2⟩ := own_form ownb (by omega)))
          have ownY : wb.ownsRow w.heap.size 5 1 (.slice (some ⟨g2, 0, none⟩) (zs.length + 1 + zs.length) gc2) (zs.length + 1 + zs.length) (bv (pln zs ++ 0 :: zs)) := by
            rw [bv_append, show (0 :: zs) = [0] ++ zs from rfl, bv_append, ← List.append_assoc]; exact ownb
          have HBB : Below w.heap.size w wb := hbb
          have HGU := hid_of (y_guest ownY (by simp [pln_len]; omega) hn (by omega) HWF.out)
          have HCV := hid_of (y_conv ownY)
          obtain ⟨P, hP⟩ : ∃ P, strOfNums (pln zs) = P := ⟨_, rfl⟩
          rw [hP] at HGU HCV
          have hcv0 := HCV.out _ (Below.refl _ _)
          have hgc0 : ¬ gc2 = 0 := by omega
          have hgc1 : ¬ 0 = gc2 := by omega
          have HB : Below wb.heap.size wb wb := Below.refl _ _
          have hI2 : (zs.length : Int) ≤ (gc2 : Int) := by omega
          have hI3 : zs.length ≤ gc2 := by omega
          clear hP ownY
          go_region_held3 (fun w' => Sem.run Try.prog (convert 22 9 (.slice (some ⟨g2, 0, none⟩) zs.length gc2)) w' = .ok (.string P) w') ((refine HCV.out _ ?_; (repeat (first | exact HB | exact Below.refl _ _ | with_reducible refine Below.drew ?_ | with_reducible refine bt3 ?_)); done)) (first
            | (go_at_call 6; with_reducible refine (HGU.out _ (by (repeat (first | exact HB | exact Below.refl _ _ | with_reducible refine Below.drew ?_ | with_reducible refine bt3 ?_)))).mono ?_; rintro e w5 ⟨rfl, hb5⟩; replace HB : Below wb.heap.size wb w5 := (show Below wb.heap.size wb _ from by (repeat (first | exact HB | exact Below.refl _ _ | with_reducible refine Below.drew ?_ | with_reducible refine bt3 ?_))).trans (hb5.mono (Below.size (B := wb.heap.size) (by (repeat (first | exact HB | exact Below.refl _ _ | with_reducible refine Below.drew ?_ | with_reducible refine bt3 ?_)))))))
          go_wp2
          go_ret
          exact ⟨rfl, HBB.trans ((show Below wb.heap.size wb _ from by (repeat (first | exact HB | exact Below.refl _ _ | with_reducible refine Below.drew ?_ | with_reducible refine bt3 ?_))).mono HBB.size)⟩
set_option maxRecDepth 100000 in
set_option maxHeartbeats 4000000 in
theorem tguests_none (cap : Nat) (zs : List Int) (w : World) (hn : zs.length ≤ 1048576) (hcap : zs.length ≤ cap) (hwf : ∀ z ∈ zs, 0 ≤ z ∧ z ≤ 255) (hr : Reads w none zs w.heap.size) :
    Calls Try.prog 4 #[.slice none zs.length cap] w fun e w' => e = .returned (.bool true) ∧ Below w.heap.size w w' := by
  obtain ⟨i0, hi, hz0, hz1, hz2⟩ := info_parts Try.info5
  have HZ0 : Hid (zs.length = 0) := by rcases Nat.eq_zero_or_pos zs.length with h | h; exact h; obtain ⟨_, _, e, _⟩ := hr h; exact absurd e (by simp)
  have HWF := hid_of hwf
  clear hwf
  have hXl : (gsL (cuts (strOfNums (pz zs)))).length ≤ 4194304 := by
    have := told_len (strOfNums (pz zs)) 1048576 (by rw [strOfNums_size]; have := pz_len zs; omega)
    omega
  have HXA := hid_of (told_again (strOfNums (pz zs)))
  have HXB := hid_of (told_bytes (strOfNums (pz zs)))
  obtain ⟨X, hX⟩ : ∃ X, gsL (cuts (strOfNums (pz zs))) = X := ⟨_, rfl⟩
  rw [hX] at hXl HXA HXB
  have HX := hid_of hX
  clear hX
  have HXW : Hid (∀ z ∈ X, 0 ≤ z ∧ z ≤ 255) := fun z hz => by have := HXB.out z hz; omega
  obtain ⟨S, hS⟩ : ∃ S, strOfNums X = S := ⟨_, rfl⟩
  have HS := hid_of hS
  have hSz : S.size = X.length := by rw [← hS, strOfNums_size]
  have HSZ := hid_of hSz
  have HAT : Hid (∀ (j : Nat) (h : j < S.size), (((S[j]'h).toNat : Int) = 10 ∨ 32 ≤ ((S[j]'h).toNat : Int)) ∧ ((S[j]'h).toNat : Int) ≠ 127) := by
    intro j h
    subst hS
    rw [str_at X HXW.out j (by omega) h]
    have hj : j < X.length := by omega
    have := HXB.out (X.getD j 0) (by simp [List.getD, List.getElem?_eq_getElem hj])
    omega
  have HRD : Hid (∀ W : World, Reads (Lib.bytesWorld W 5 S) (some ⟨W.heap.size, 0, none⟩) X (Lib.bytesWorld W 5 S).heap.size) := by
    intro W; rw [← hS]; exact str_reads X HXW.out W
  obtain ⟨m, hm⟩ : ∃ m, X.length = m := ⟨_, rfl⟩
  have HM := hid_of hm
  rw [hm] at hXl hSz
  have hcv : ∀ W : World, (convert 9 22 (.string S)).run Try.prog W = .ok (.slice (some ⟨W.heap.size, 0, none⟩) m (grownCap W m 0 5)) (Lib.bytesWorld W 5 S) := fun W => by
    rw [Lib.run_convert_string_bytes W 9 22 5 S Try.underlying9 Try.underlying22 Try.underlying5, hSz]
  clear hS hm HSZ
  have hS1 : S.size ≤ 4194304 := by omega
  go_enter Try.func4, Try.ntmps4
  go_wp2_with fail
  refine (guest_any none cap zs _ (by omega) hcap HWF.out hr).mono ?_
  rintro e w1 ⟨rfl, hb1⟩
  rw [HX.out, HS.out]
  have hr1 : Reads w1 none zs w.heap.size := hr.below hb1
  have hB1 := hb1.size
  clear hr
  go_wp2_with fail
  go_loop [4] (fun i => ∃ k : Nat, k ≤ m ∧ i = .int .i64 k) (fun i => m - (intOf i).toNat)
  case atStart => exact ⟨0, Nat.zero_le _, rfl⟩
  case round =>
    obtain ⟨k, hk, rfl⟩ := hrel
    by_cases hlt : k < m
    · have hkS : k < S.size := by omega
      have hkI : (k : Int) < (S.size : Int) := by omega
      obtain ⟨h1, h2⟩ := HAT.out k hkS
      obtain ⟨c, hc⟩ : ∃ c, (S[k]'hkS).toNat = c := ⟨_, rfl⟩
      rw [hc] at h1 h2
      have h127 : ((c : Int) == 127) = false := by rw [beq_eq_false_iff_ne]; exact h2
      clear hSz
      by_cases h10 : (c : Int) = 10
      · have hc10 : c = 10 := by omega
        subst hc10
        clear h1 h2 h10 h127
        go_wp2
        go_round
        case rel => exact ⟨k + 1, by omega, by go_num⟩
        case measure => simp [intOf]; omega
      · have h32 : 32 ≤ (c : Int) := by omega
        clear h1 h2 h10
        go_wp2
        go_round
        case rel => exact ⟨k + 1, by omega, by go_num⟩
        case measure => simp [intOf]; omega
    · obtain rfl : k = m := by omega
      have hkI : (S.size : Int) ≤ (k : Int) := by omega
      have HSK := hid_of hSz
      clear hSz hlt hk
      go_wp2_with fail
      have G2 := guest_any (some ⟨w1.heap.size, 0, none⟩) (grownCap w1 k 0 5) X (Lib.bytesWorld w1 5 S) (by rw [HM.out]; omega) (by rw [HM.out]; exact grownCap_ge w1 k 0 5) HXW.out (HRD.out w1)
      rw [HM.out, HXA.out, HS.out] at G2
      refine G2.mono ?_
      rintro e w2 ⟨rfl, hb2⟩
      clear G2
      have hb3 : Below w.heap.size w w2 := (hb1.trans ((bw_below w1 S).mono hB1)).trans (hb2.mono (by rw [Lib.bytesWorld_size]; omega))
      have hr2 : Reads w2 none zs w.heap.size := hr1.below (((bw_below w1 S).mono hB1).trans (hb2.mono (by rw [Lib.bytesWorld_size]; omega)))
      have hB2 := hb3.size
      clear hb1 hb2 hr1 hcv HRD HAT HXW HSK HM HS HXB HXA HX
      go_wp2
      go_loopw [5, 6] (fun v i wr => ∃ k : Nat, k ≤ zs.length ∧ i = .int .i64 k ∧ wr.ownsRow w.heap.size 5 1 v k (bv ((pln zs).take k)) ∧ Below w.heap.size w wr ∧ Reads wr none zs w.heap.size) (fun _ i _ => zs.length - (intOf i).toNat)
      case atStart => exact ⟨0, Nat.zero_le _, rfl, World.ownsRow_nil _ _ _ _, hb3, hr2⟩
      case round =>
        clear hr2 hb3
        obtain ⟨j, hj, rfl, hown, hb, hr3⟩ := hrel
        have hB := hb.size
        by_cases hlt : j < zs.length
        · have := HZ0.out; omega
        · obtain rfl : j = zs.length := by omega
          have hI : (zs.length : Int) ≤ ((zs.length : Nat) : Int) := by omega
          have hpt : (pln zs).take zs.length = pln zs := List.take_of_length_le (by rw [pln_len]; omega)
          rw [hpt] at hown
          clear hpt hlt hj
          obtain ⟨bo, bc, rfl⟩ := own_sl hown
          go_wp2_with (first
            | (at_builtin; refine wpList_append_own _ rfl _ _ 22 rfl w.heap.size 5 i0 (.int .u8 0) 1 1 Try.underlying22 hi hz0 hz1 hz2 rfl (by decide) _ _ _ rfl (hown.alloc _) ⟨_, 0, none⟩ 1 1 _ rfl rfl (World.news_of_block (heap_alloc_new _ _)) (by intro u hu; simp at hu; subst hu; rfl) (by unfold maxLen; omega) (by omega) (by simp; omega) ?_; intro va wa owna growa _; have hba := grown_below' hb hB hown growa; have hra := hr3.below (grown_below' (Below.refl _ wr) hB hown growa); have hBa := hba.size; obtain ⟨g, gc, rfl, hgc⟩ := own_form owna (by omega))
            | (at_builtin; refine wpList_append_none rfl _ _ 22 rfl 5 i0 (.int .u8 0) Try.underlying22 hi hz0 _ _ _ _ _ rfl rfl HZ0.out hgc ?_))
          have ownY : wa.ownsRow w.heap.size 5 1 (.slice (some ⟨g, 0, none⟩) (zs.length + 1) gc) (zs.length + 1) (bv (pln zs ++ 0 :: zs)) := by
            have hzn : zs = [] := List.eq_nil_of_length_eq_zero HZ0.out
            subst hzn
            exact owna
          have HBB : Below w.heap.size w wa := hba
          have HGU := hid_of (y_guest ownY (by have := HZ0.out; simp [pln_len, this]) hn (by omega) HWF.out)
          have HCV := hid_of (y_conv ownY)
          obtain ⟨P, hP⟩ : ∃ P, strOfNums (pln zs) = P := ⟨_, rfl⟩
          rw [hP] at HGU HCV
          have hcv0 := HCV.out _ (Below.refl _ _)
          have hgc0 : ¬ gc = 0 := by omega
          have hgc1 : ¬ 0 = gc := by omega
          have HB : Below wa.heap.size wa wa := Below.refl _ _
          have hI2 : (zs.length : Int) ≤ (gc : Int) := by omega
          have hI3 : zs.length ≤ gc := by omega
          clear hP ownY
          go_region_held3 (fun w' => Sem.run Try.prog (convert 22 9 (.slice (some ⟨g, 0, none⟩) zs.length gc)) w' = .ok (.string P) w') ((refine HCV.out _ ?_; (repeat (first | exact HB | exact Below.refl _ _ | with_reducible refine Below.drew ?_ | with_reducible refine bt3 ?_)); done)) (first
            | (go_at_call 6; with_reducible refine (HGU.out _ (by (repeat (first | exact HB | exact Below.refl _ _ | with_reducible refine Below.drew ?_ | with_reducible refine bt3 ?_)))).mono ?_; rintro e w5 ⟨rfl, hb5⟩; replace HB : Below wa.heap.size wa w5 := (show Below wa.heap.size wa _ from by (repeat (first | exact HB | exact Below.refl _ _ | with_reducible refine Below.drew ?_ | with_reducible refine bt3 ?_))).trans (hb5.mono (Below.size (B := wa.heap.size) (by (repeat (first | exact HB | exact Below.refl _ _ | with_reducible refine Below.drew ?_ | with_reducible refine bt3 ?_)))))))
          go_wp2
          go_ret
          exact ⟨rfl, HBB.trans ((show Below wa.heap.size wa _ from by (repeat (first | exact HB | exact Below.refl _ _ | with_reducible refine Below.drew ?_ | with_reducible refine bt3 ?_))).mono HBB.size)⟩
theorem tguests_any (ao : Option Addr) (cap : Nat) (zs : List Int) (w : World) (hn : zs.length ≤ 1048576) (hcap : zs.length ≤ cap) (hwf : ∀ z ∈ zs, 0 ≤ z ∧ z ≤ 255) (hr : Reads w ao zs w.heap.size) :
    Calls Try.prog 4 #[.slice ao zs.length cap] w fun e w' => e = .returned (.bool true) ∧ Below w.heap.size w w' := by
  rcases ao with _ | ad
  · exact tguests_none cap zs w hn hcap hwf hr
  · exact tguests_some ad cap zs w hn hcap hwf hr
end Go.Proofs.Ytcaobkhifiicnaa
