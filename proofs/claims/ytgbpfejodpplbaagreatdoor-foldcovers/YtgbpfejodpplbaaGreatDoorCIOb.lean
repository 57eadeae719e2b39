import Derived.Test.YtgbpfejodpplbaaGreatDoorCLWd32
namespace Go.Proofs.YtgbpfejodpplbaaGreatDoor
open Go.RowKit
set_option maxRecDepth 100000

theorem own_lower {w : World} {B B' e sz : Nat} {v : Value} {n : Nat} {xs : List Value} (h : w.ownsRow B e sz v n xs) (hle : B' ≤ B) : w.ownsRow B' e sz v n xs :=
  ⟨h.1, h.2.imp id (fun ⟨g, cap, cur, a, b, c⟩ => ⟨g, cap, cur, a, Nat.le_trans hle b, c⟩)⟩
set_option maxHeartbeats 1000000 in
theorem ob_1 (arg : Nat) (w : World) (_ : arg < 4294967296) :
    Calls Tryz.prog 45 #[.int .u32 arg, .int .i64 1] w fun e w' => ∃ v, e = .returned v ∧ w'.ownsRow w.heap.size 5 1 v 1 (bv (nb 1 (arg : Int))) ∧ Below w.heap.size w w' := by
  have hnb : nb 1 ((arg : Int) % 256) = nb 1 (arg : Int) := nb_mod 1 (arg : Int) 1 (Nat.le_refl _)
  have hp := put_u8 (some ⟨w.heap.size, 0, none⟩) 1 [((arg : Int) % 256)] (w.alloc (.cells #[.int .u8 ((arg : Int) % 256)] 5)) (by simp) (by intro z hz; simp at hz; subst hz; omega) (lit_readsK w .u8 5 ((arg : Int) % 256))
  rw [show puts 1 [((arg : Int) % 256)] [((arg : Int) % 256)].length = nb 1 ((arg : Int) % 256) by simp [puts], hnb] at hp
  clear hnb
  go_enter Tryz.func45, Tryz.ntmps45
  go_wp2_with (go_at_call 63; refine hp.mono ?_; rintro e wq ⟨v, rfl, ho, hq⟩)
  go_ret
  exact ⟨_, rfl, own_lower (by simpa using ho) (by simp), bt (bel (Below.refl _ _)) hq⟩
set_option maxHeartbeats 1000000 in
theorem ob_2 (arg : Nat) (w : World) (_ : arg < 4294967296) :
    Calls Tryz.prog 45 #[.int .u32 arg, .int .i64 2] w fun e w' => ∃ v, e = .returned v ∧ w'.ownsRow w.heap.size 5 1 v 2 (bv (nb 2 (arg : Int))) ∧ Below w.heap.size w w' := by
  have hnb : nb 2 ((arg : Int) % 65536) = nb 2 (arg : Int) := nb_mod 2 (arg : Int) 2 (Nat.le_refl _)
  have hp := put_u16 (some ⟨w.heap.size, 0, none⟩) 1 [((arg : Int) % 65536)] (w.alloc (.cells #[.int .u16 ((arg : Int) % 65536)] 138)) (by simp) (by intro z hz; simp at hz; subst hz; omega) (lit_readsK w .u16 138 ((arg : Int) % 65536))
  rw [show puts 2 [((arg : Int) % 65536)] [((arg : Int) % 65536)].length = nb 2 ((arg : Int) % 65536) by simp [puts], hnb] at hp
  clear hnb
  go_enter Tryz.func45, Tryz.ntmps45
  go_wp2_with (go_at_call 64; refine hp.mono ?_; rintro e wq ⟨v, rfl, ho, hq⟩)
  go_ret
  exact ⟨_, rfl, own_lower (by simpa using ho) (by simp), bt (bel (Below.refl _ _)) hq⟩
set_option maxHeartbeats 1000000 in
theorem ob_4 (arg : Nat) (w : World) (ha : arg < 4294967296) :
    Calls Tryz.prog 45 #[.int .u32 arg, .int .i64 4] w fun e w' => ∃ v, e = .returned v ∧ w'.ownsRow w.heap.size 5 1 v 4 (bv (nb 4 (arg : Int))) ∧ Below w.heap.size w w' := by
  have hnb : nb 4 (arg : Int) = nb 4 (arg : Int) := rfl
  have hp := put_u32 (some ⟨w.heap.size, 0, none⟩) 1 [(arg : Int)] (w.alloc (.cells #[.int .u32 (arg : Int)] 25)) (by simp) (by intro z hz; simp at hz; subst hz; omega) (lit_readsK w .u32 25 (arg : Int))
  rw [show puts 4 [(arg : Int)] [(arg : Int)].length = nb 4 (arg : Int) by simp [puts], hnb] at hp
  clear hnb
  go_enter Tryz.func45, Tryz.ntmps45
  go_wp2_with (go_at_call 65; refine hp.mono ?_; rintro e wq ⟨v, rfl, ho, hq⟩)
  go_ret
  exact ⟨_, rfl, own_lower (by simpa using ho) (by simp), bt (bel (Below.refl _ _)) hq⟩
set_option maxHeartbeats 1000000 in
theorem ob_0 (arg : Nat) (w : World) :
    Calls Tryz.prog 45 #[.int .u32 arg, .int .i64 0] w fun e w' => e = .returned (.slice none 0 0) ∧ w' = w := by
  go_enter Tryz.func45, Tryz.ntmps45
  go_wp2
  go_ret
  exact ⟨rfl, rfl⟩
theorem ob_any (arg wi : Nat) (w : World) (ha : arg < 4294967296) (hw : wi = 0 ∨ wi = 1 ∨ wi = 2 ∨ wi = 4) :
    Calls Tryz.prog 45 #[.int .u32 arg, .int .i64 wi] w fun e w' => ∃ v, e = .returned v ∧ w'.ownsRow w.heap.size 5 1 v wi (bv (nb wi (arg : Int))) ∧ Below w.heap.size w w' := by
  rcases hw with rfl | rfl | rfl | rfl
  · refine (ob_0 arg w).mono ?_
    rintro e w' ⟨rfl, rfl⟩
    exact ⟨_, rfl, World.ownsRow_nil _ _ _ _, Below.refl _ _⟩
  · exact ob_1 arg w ha
  · exact ob_2 arg w ha
  · exact ob_4 arg w ha
end Go.Proofs.YtgbpfejodpplbaaGreatDoor
namespace Go.Proofs.YtgbpfejodpplbaaGreatDoor
open Go.RowKit
set_option maxRecDepth 100000

theorem Tryz.infoB : (Tryz.prog.info? 5).map (fun i => (i.zero, i.size, i.bytes)) = some (some (.int .u8 0), 1, 1) := by kernel_rfl
theorem wpList_append_nones {P : Program} {w : World} {ops : Array Oper} {rest : List Oper} {o : Oper} {a : Act} {Q : Exit → Act → World → Prop} (hgd : o.guard = none) (s x : Operand) (t : TypeId)
    (ho : o.op = .call { callee := .builtin .append, args := #[s, x], argTypes := #[t, t] })
    (e : TypeId) (i : TypeInfo) (z : Value) (ht : P.underlying t = some (.slice e)) (hi : P.info? e = some i) (hz : i.zero = some z)
    (ad : Addr) (n c c2 : Nat) (hs : a.eval s = .slice (some ad) n c) (hx : a.eval x = .slice none 0 c2) (hnc : n ≤ c)
    (h : wpList P ops Q rest (a.put o.dst (.slice (some ad) n c)) w) : wpList P ops Q (o :: rest) a w := by
  refine wpList_plain hgd fun _ hK => ?_
  have hr : (Builtin.append_ #[t, t] o.type #[.slice (some ad) n c, .slice none 0 c2]).run P w = .ok (.slice (some ad) n c) w := by
    simp [Builtin.append_, run_underlying ht, sizeOf, typeInfo, zeroValue, hi, hz, Builtin.lenOf, hnc, run_firstCells_none, storeCells]
  unfold Oper.wp execOp
  simp only [ho, resolve, invoke, builtin, Sem.run_bind, Sem.run_pure, Result.andThen_ok, List.map_toArray, List.map_cons, List.map_nil, hs, hx, hr]
  exact hK _ _ h
theorem enc_err (L : List (Nat × Nat)) (k : Nat) (hk : k < L.length) (h : ∀ j, j < k → okI (L.getD j (0, 0)) = true) (hb : okI (L.getD k (0, 0)) = false) (hl : ¬ 16384 < L.length) :
    encB L = [] ∧ encI L = k ∧ encX L = erV (L.getD k (0, 0)).1 (L.getD k (0, 0)).2 := by
  obtain ⟨e1, e2⟩ := badAt_of L k hk h hb
  simp [encB, encI, encX, hl, e1, e2]
theorem enc_ok (L : List (Nat × Nat)) (h : ∀ j, j < L.length → okI (L.getD j (0, 0)) = true) (hl : ¬ 16384 < L.length) :
    encB L = encF L ∧ encI L = 0 ∧ encX L = 0 := by
  simp [encB, encI, encX, hl, allOk_of L h]
theorem enc_long (L : List (Nat × Nat)) (hl : 16384 < L.length) : encB L = [] ∧ encI L = 16384 ∧ encX L = 73 := by
  simp [encB, encI, encX, hl]
theorem fresh_ne {w : World} {B e sz : Nat} {v : Value} {n : Nat} {xs : List Value} (h : w.ownsRow B e sz v n xs) : some w.heap.size ≠ v.ownBlock := by
  intro e
  have := (h.lt _ e.symm).2
  omega
theorem iown_cap {w : World} {B e sz g n c : Nat} {xs : List Value} (h : w.ownsRow B e sz (.slice (some ⟨g, 0, none⟩) n c) n xs) : n ≤ c := by
  by_cases hn : 0 < n
  · obtain ⟨g', c', e, hc⟩ := own_form h hn
    simp only [Value.slice.injEq] at e
    omega
  · omega
theorem grown_below2 {B e sz : Nat} {a w w' : World} {xs : List Value} {v : Value} {n : Nat} (h : Below B a w) (hB : B ≤ w.heap.size) (hown : w.ownsRow B e sz v n xs) (hg : w.grownBy w' v.ownBlock) : Below B a w' :=
  h.grown hg hB (fun k e => (hown.lt k e).1)
theorem hid_of {p : Prop} (h : p) : Hid p := h
set_option maxRecDepth 100000 in
set_option maxHeartbeats 2000000 in
theorem encode_any (ao : Option Addr) (cap : Nat) (L : List (Nat × Nat)) (w : World) (hn : L.length ≤ 9223372036854775807) (hwf : Wfc L) (hr : CRd w ao L w.heap.size) :
    Calls Tryz.prog 23 #[.slice ao L.length cap] w fun e w' => ∃ v, e = .returned (.tuple #[v, .int .i64 (encI L), .int .i64 (encX L)]) ∧ w'.ownsRow w.heap.size 5 1 v (encB L).length (bv (encB L)) ∧ Below w.heap.size w w' := by
  by_cases hl : 16384 < L.length
  · obtain ⟨e1, e2, e3⟩ := enc_long L hl
    rw [e1, e2, e3]
    have hl' : (16384 : Int) < L.length := by omega
    clear e1 e2 e3 hr
    go_enter Tryz.func23, Tryz.ntmps23
    go_wp2
    refine bodyPost_ret (results_tmp3 rfl _ _ _) rfl ?_
    exact ⟨_, rfl, World.ownsRow_nil _ _ _ _, Below.refl _ _⟩
  obtain ⟨i0, hi, hz0, hz1, hz2⟩ := info_parts Tryz.infoB
  have hl' : ¬ (16384 : Int) < L.length := by omega
  have HL : Hid (¬ 16384 < L.length) := hl
  clear hl
  go_enter Tryz.func23, Tryz.ntmps23
  go_wp2
  go_loopw [5, 15] (fun v i wr => ∃ k : Nat, k ≤ L.length ∧ i = .int .i64 k ∧ wr.ownsRow w.heap.size 5 1 v (encF (L.take k)).length (bv (encF (L.take k))) ∧ Below w.heap.size w wr ∧ ∀ j, j < k → okI (L.getD j (0, 0)) = true)
    (fun _ i _ => L.length - (intOf i).toNat)
  case atStart => exact ⟨0, Nat.zero_le _, rfl, World.ownsRow_nil _ _ _ _, Below.refl _ _, fun j hj => absurd hj (by omega)⟩
  case round =>
    obtain ⟨k, hk, rfl, hown, hb, hok⟩ := hrel
    have HO : Hid (∀ j, j < k → okI (L.getD j (0, 0)) = true) := hok
    clear hok
    by_cases hlt : k < L.length
    · obtain ⟨b, off, rfl, hbl, hc⟩ := (hr.below hb) (by omega)
      obtain ⟨hc0, hc1⟩ := hc k hlt
      clear hc
      have hwk := hwf.at hlt
      have HT : Hid (encF (L.take (k + 1)) = encF (L.take k) ++ enc1 (L.getD k (0, 0))) := by
        rw [Hid, ptake (0, 0) L k hlt, encF_append]; simp [encF]
      have hE : (encF (L.take k)).length ≤ 81920 := by
        have := encF_le (L.take k); rw [List.length_take] at this; have := HL.out; omega
      cases hk1 : okI (L.getD k (0, 0))
      · have HE : Hid (encB L = [] ∧ encI L = k ∧ encX L = erV (L.getD k (0, 0)).1 (L.getD k (0, 0)).2) := enc_err L k hlt HO.out hk1 HL.out
        have hS := fun w => sized_any (L.getD k (0, 0)).1 (L.getD k (0, 0)).2 w hwk.1
        have hne : ¬ erV (L.getD k (0, 0)).1 (L.getD k (0, 0)).2 = 0 := by simpa [okI] using hk1
        clear HT hk1 hE hown HL HO hwk
        generalize (L.getD k (0, 0)).1 = op at *
        generalize (L.getD k (0, 0)).2 = arg at *
        have hne' : ¬ ((erV op arg : Nat) : Int) = 0 := by omega
        generalize erV op arg = ev at *
        generalize szV op arg = sv at *
        have hlI : (k : Int) < (L.length : Int) := by omega
        clear hne
        go_wp2_with (go_at_call 44; refine (hS _).mono ?_; rintro e wq ⟨rfl, hq⟩)
        refine bodyPost_ret (results_tmp3 rfl _ _ _) rfl ?_
        obtain ⟨e1, e2, e3⟩ := HE.out
        refine ⟨_, ?_, by rw [e1]; exact World.ownsRow_nil _ _ _ _, bt hb (bt (bel (Below.refl _ _)) hq)⟩
        rw [e2, e3]; rfl
      · have her : erV (L.getD k (0, 0)).1 (L.getD k (0, 0)).2 = 0 := by simpa [okI] using hk1
        have HO1 : Hid (∀ j, j < k + 1 → okI (L.getD j (0, 0)) = true) := fun j hj => by
          by_cases h : j < k
          · exact HO.out j h
          · obtain rfl : j = k := by omega
            exact hk1
        have hS : ∀ w, Calls Tryz.prog 44 #[.agg #[.int .u8 (L.getD k (0, 0)).1, .int .u32 (L.getD k (0, 0)).2]] w fun e w' => e = .returned (.tuple #[.int .i64 (1 + (opWi (L.getD k (0, 0)).1 : Int)), .int .i64 0]) ∧ Below w.heap.size w w' := fun w =>
          (sized_any _ _ w hwk.1).mono (by rintro e w' ⟨rfl, h⟩; refine ⟨?_, h⟩; rw [sz_ok _ _ her, her]; simp)
        have hwc := opWi_cases (L.getD k (0, 0)).1
        have hW4 := opWi_le (L.getD k (0, 0)).1
        rw [show enc1 (L.getD k (0, 0)) = ((L.getD k (0, 0)).1 : Int) :: nb (opWi (L.getD k (0, 0)).1) (L.getD k (0, 0)).2 from rfl] at HT
        clear hk1 her HO
        generalize (L.getD k (0, 0)).1 = op at *
        generalize (L.getD k (0, 0)).2 = arg at *
        generalize opWi op = wi at *
        generalize hEE : encF (L.take k) = E at *
        clear hEE
        have hlI : (k : Int) < (L.length : Int) := by omega
        have hB0 := hb.size
        have HWK : Hid (op < 256 ∧ arg < 4294967296) := hwk
        clear hwk
        have hwr : wrap64 (1 + (wi : Int) - 1) = wi := by unfold wrap64; omega
        go_wp2_with (first
          | (go_at_call 44; refine (hS _).mono ?_; rintro e w1 ⟨rfl, hq1⟩; have c0 := cellB hq1 0; simp only [List.getElem?_toArray, List.getElem?_cons_zero] at c0)
          | (at_builtin; refine wpList_append_lies _ rfl _ _ 24 rfl w.heap.size 5 i0 (.int .u8 0) 1 1 Tryz.underlying24 hi hz0 hz1 hz2 rfl (by decide) _ _ _ rfl ((own_below (hown.alloc _) hq1).alloc _) ⟨_, 0, none⟩ 1 1 [.int .u8 op] rfl rfl ?d1 ?d2 (by decide) ?d3 ?d4 ?d5 _ rfl ?_))
        case d1 =>
          intro j u hj
          match j, hj with
          | 0, hj => simp at hj; subst hj; simp [Addr.add]
        case d2 => intro u hu; simp at hu; subst hu; rfl
        case d3 => unfold maxLen; omega
        case d4 => omega
        case d5 => have := hq1.size; simp at this ⊢; omega
        intro g c2 w2 own2 hg2 hgr hgl
        have hca : w2.cell? ⟨wr.heap.size, 1, none⟩ = some (.int .u32 arg) := hg2.cell (cellC hq1 1 _ rfl _) (fresh_ne hown)
        have R2 : Below w.heap.size w w2 := grown_below (bt (bel hb) hq1) (bt (bel hb) hq1).size (own_below (hown.alloc _) hq1) hg2
        have hB2 := R2.size
        have hcap := iown_cap own2
        clear hq1 c0 hc0 hc1 hg2 hgr hgl hown hb hB0 hS
        rcases (show wi = 0 ∨ 0 < wi by omega) with hw0 | hw0
        · subst hw0
          have hO := ob_0 arg w2
          have HO2 := hid_of own2
          clear own2
          go_wp2_with (first
            | (go_at_call 45; refine hO.mono ?_; rintro e w3 ⟨rfl, hq3⟩; subst w3)
            | (at_builtin; refine wpList_append_nones rfl _ _ 24 rfl 5 i0 (.int .u8 0) Tryz.underlying24 hi hz0 _ _ _ _ rfl rfl hcap ?_))
          go_roundw
          case rel =>
            refine ⟨k + 1, by omega, by go_num, ?_, R2, HO1.out⟩
            rw [HT.out]
            have := HO2.out
            simpa [bv, nb] using this
          case measure => simp [intOf]; omega
        · have hO : Calls Tryz.prog 45 #[.int .u32 arg, .int .i64 (1 + (wi : Int) - 1)] w2 fun e w' => ∃ v, e = .returned v ∧ w'.ownsRow w2.heap.size 5 1 v wi (bv (nb wi (arg : Int))) ∧ Below w2.heap.size w2 w' := by
            rw [show (1 + (wi : Int) - 1) = wi by omega]
            exact ob_any arg wi w2 HWK.out.2 hwc
          go_wp2_with (first
            | (go_at_call 45; with_reducible refine hO.mono ?_; rintro e w3 ⟨v3, rfl, own3, hq3⟩; obtain ⟨g3, c3, rfl, hc3⟩ := own_form own3 hw0)
            | (at_builtin; refine wpList_append_lies _ rfl _ _ 24 rfl w.heap.size 5 i0 (.int .u8 0) 1 1 Tryz.underlying24 hi hz0 hz1 hz2 rfl (by decide) _ _ _ rfl (own_below own2 hq3) ⟨g3, 0, none⟩ wi c3 (bv (nb wi (arg : Int))) rfl ?d6 (own3.cells rfl) ?d7 hw0 ?d8 ?d9 ?d10 _ rfl ?_))
          case d6 => rw [bv_len, nb_len]; omega
          case d7 => intro u hu; simp [bv] at hu; obtain ⟨z, _, rfl⟩ := hu; rfl
          case d8 => unfold maxLen; omega
          case d9 => omega
          case d10 => have := hq3.size; omega
          intro g4 c4 w4 own4 hg4 _ _
          have R4 : Below w.heap.size w w4 := grown_below2 (bt R2 hq3) (bt R2 hq3).size (own_below own2 hq3) hg4
          have own5 : w4.ownsRow w.heap.size 5 1 (.slice (some ⟨g4, 0, none⟩) (E.length + 1 + wi) c4) (E ++ (op : Int) :: nb wi (arg : Int)).length (bv (E ++ (op : Int) :: nb wi (arg : Int))) := by
            have e1 : bv (E ++ (op : Int) :: nb wi (arg : Int)) = bv E ++ Value.int .u8 op :: bv (nb wi (arg : Int)) := by simp [bv]
            have e2 : (E ++ (op : Int) :: nb wi (arg : Int)).length = E.length + 1 + wi := by simp [nb_len]; omega
            rw [e1, e2]; exact own4
          clear own4 hg4 own2 own3 hq3 hO R2 hB2 hcap hca
          go_wp2
          go_roundw
          case rel => exact ⟨k + 1, by omega, by go_num, by rw [HT.out]; exact own5, R4, HO1.out⟩
          case measure => simp [intOf]; omega
    · obtain rfl : k = L.length := by omega
      have HE : Hid (encB L = encF L ∧ encI L = 0 ∧ encX L = 0) := enc_ok L HO.out HL.out
      rw [List.take_length] at hown
      clear HO HL
      go_wp2
      refine bodyPost_ret (results_tmp3 rfl _ _ _) rfl ?_
      obtain ⟨e1, e2, e3⟩ := HE.out
      refine ⟨_, ?_, by rw [e1]; exact hown, hb⟩
      rw [e2, e3]; rfl
end Go.Proofs.YtgbpfejodpplbaaGreatDoor
