import Derived.Test.YtfjnpmbkmoodnaaLMend
import Derived.Deep.LoopGhost
import Derived.WalkMore
namespace Go.Proofs.Ytfjnpmbkmoodnaa
open Go.RowKit
set_option maxRecDepth 100000

theorem Try.infoR : (Try.prog.info? 48).map (fun i => (i.zero, i.size, i.bytes)) = some (some (.agg #[.int .u32 0, .slice none 0 0]), 2, 32) := by kernel_rfl

/-- a run in memory of our own: its place, its slice, its bytes -/
abbrev Tr := Nat × Value × List Int
def trun (t : Tr) : Rn := (t.1, t.2.2)
def tcells (T : List Tr) : List Value := T.flatMap fun t => [.int .u32 (t.1 : Int), t.2.1]
theorem tcells_len (T : List Tr) : (tcells T).length = T.length * 2 := by
  induction T with
  | nil => rfl
  | cons t T ih => simp only [tcells, List.flatMap_cons, List.length_append, List.length_cons, List.length_nil] at *; omega
theorem tcells_snoc (T : List Tr) (t : Tr) : tcells (T ++ [t]) = tcells T ++ [.int .u32 (t.1 : Int), t.2.1] := by simp [tcells]
structure OwnRuns (w : World) (B : Nat) (v : Value) (T : List Tr) : Prop where
  row : w.ownsRow B 48 2 v T.length (tcells T)
  each : ∀ t ∈ T, w.ownsRow B 5 1 t.2.1 t.2.2.length (bv t.2.2)
  ap : T.Pairwise fun s t => s.2.1.ownBlock = none ∨ s.2.1.ownBlock ≠ t.2.1.ownBlock
theorem OwnRuns.kept {w w' : World} {B : Nat} {v : Value} {T : List Tr} (h : OwnRuns w B v T) (hb : Below w.heap.size w w') : OwnRuns w' B v T :=
  ⟨own_below h.row hb, fun t ht => own_below (h.each t ht) hb, h.ap⟩
theorem ap_snocR {T : List Tr} {t : Tr} (h : T.Pairwise fun s t => s.2.1.ownBlock = none ∨ s.2.1.ownBlock ≠ t.2.1.ownBlock) (hn : ∀ s ∈ T, s.2.1.ownBlock = none ∨ s.2.1.ownBlock ≠ t.2.1.ownBlock) : (T ++ [t]).Pairwise fun s t => s.2.1.ownBlock = none ∨ s.2.1.ownBlock ≠ t.2.1.ownBlock := by
  rw [List.pairwise_append]
  exact ⟨h, by simp, fun a ha b hb => by rw [List.mem_singleton] at hb; subst hb; exact hn a ha⟩
theorem later_ap {w w' : World} {B B2 n m e s e' s' : Nat} {v v' : Value} {xs xs' : List Value} (h : w.ownsRow B e s v n xs) (h' : w'.ownsRow B2 e' s' v' m xs') (hlt : w.heap.size ≤ B2) : v.ownBlock = none ∨ v.ownBlock ≠ v'.ownBlock := by
  cases hv : v.ownBlock with
  | none => exact .inl rfl
  | some b =>
    right
    intro e1
    have := (h.lt b hv).2
    have := (h'.lt b e1.symm).1
    omega
theorem rows_apart {w : World} {B B' n n' : Nat} {v v' : Value} {xs xs' : List Value} (h : w.ownsRow B 5 1 v n xs) (h' : w.ownsRow B' 48 2 v' n' xs') : v.ownBlock = none ∨ v.ownBlock ≠ v'.ownBlock := by
  rcases h.2 with ⟨rfl, _⟩ | ⟨g, cap, cur, rfl, _, hg, _⟩
  · exact .inl rfl
  · right
    rcases h'.2 with ⟨rfl, _⟩ | ⟨g', cap', cur', rfl, _, hg', _⟩
    · simp [Value.ownBlock]
    · intro e
      simp only [Value.ownBlock, Option.some.injEq] at e
      subst e
      rw [hg] at hg'
      simp at hg'

theorem getD_drop_cons (xs : List Int) (k : Nat) (h : k < xs.length) : xs.drop k = xs.getD k 0 :: xs.drop (k + 1) := by
  rw [List.drop_eq_getElem_cons h]
  simp [List.getD, List.getElem?_eq_getElem h]
theorem rnx_skip (k : Nat) (xs ys : List Int) (h : k < xs.length) (h2 : k < ys.length) (he : xs.getD k 0 = ys.getD k 0) : rnx k (xs.drop k) (ys.drop k) = rnx (k + 1) (xs.drop (k + 1)) (ys.drop (k + 1)) := by
  rw [getD_drop_cons xs k h, getD_drop_cons ys k h2, he, rnx_eq]
theorem dif_skip (k : Nat) (xs ys : List Int) (h : k < xs.length) (h2 : k < ys.length) (he : xs.getD k 0 = ys.getD k 0) : dif (xs.drop k) (ys.drop k) = 0 := by
  rw [getD_drop_cons xs k h, getD_drop_cons ys k h2, he]; simp [dif]
theorem dif_step (k : Nat) (xs ys : List Int) (h : k < xs.length) (h2 : k < ys.length) (he : ¬ xs.getD k 0 = ys.getD k 0) : dif (xs.drop k) (ys.drop k) = dif (xs.drop (k + 1)) (ys.drop (k + 1)) + 1 := by
  rw [getD_drop_cons xs k h, getD_drop_cons ys k h2]; simp only [dif, if_neg he]
theorem rnx_take (k d : Nat) (xs ys : List Int) (h : k < xs.length) (h2 : k < ys.length) (he : ¬ xs.getD k 0 = ys.getD k 0) (hd : dif (xs.drop k) (ys.drop k) = d) :
    rnx k (xs.drop k) (ys.drop k) = (k, (ys.drop k).take d) :: rnx (k + d) (xs.drop (k + d)) (ys.drop (k + d)) := by
  have e1 := getD_drop_cons xs k h
  have e2 := getD_drop_cons ys k h2
  have := rnx_ne k (xs.getD k 0) (ys.getD k 0) (xs.drop (k + 1)) (ys.drop (k + 1)) he
  rw [← e1, ← e2, hd, List.drop_drop, List.drop_drop] at this
  exact this

theorem clone_n (n : Nat) (ao : Option Addr) (cap : Nat) (zs : List Int) (w : World) (hz : zs.length = n) (hn : n ≤ 140737488355328) (hnil : ao = none → zs = []) (hr : Reads w ao zs w.heap.size) :
    Calls Try.prog 22 #[.slice ao n cap] w fun e w' => ∃ v, e = .returned v ∧ w'.ownsRow w.heap.size 5 1 v zs.length (bv zs) ∧ Below w.heap.size w w' := by
  subst hz; exact clone_any ao cap zs w hn hnil hr

set_option maxRecDepth 100000 in
set_option maxHeartbeats 4000000 in
theorem runs_any (ao bo : Option Addr) (ca cb : Nat) (xs ys : List Int) (w : World) (n : Nat) (hx : xs.length = n) (hy : ys.length = n) (hn : n ≤ 4294967296) (hcb : n ≤ cb) (hrx : Reads w ao xs w.heap.size) (hry : Reads w bo ys w.heap.size) :
    Calls Try.prog 11 #[.slice ao n ca, .slice bo n cb] w fun e w' => ∃ v T, e = .returned (.tuple #[v, .int .i64 0]) ∧ OwnRuns w' w.heap.size v T ∧ T.map trun = rnx 0 xs ys ∧ T.length ≤ n ∧ Below w.heap.size w w' := by
  obtain ⟨i0, hi, hz0, hz1, hz2⟩ := info_parts Try.infoR
  have HX : Hid (xs.length = n) := hx
  have HY : Hid (ys.length = n) := hy
  go_enter Try.func11, Try.ntmps11
  go_wp2
  go_step3
  go_wp2
  go_step3
  go_wp2
  go_loopg [6, 7] n (fun gh v i wr => ∃ (k : Nat) (T : List Tr), gh = n - k ∧ k ≤ n ∧ i = .int .i64 k ∧ OwnRuns wr w.heap.size v T ∧ T.map trun ++ rnx k (xs.drop k) (ys.drop k) = rnx 0 xs ys ∧ T.length ≤ k ∧ Below w.heap.size w wr)
  case atStart => exact ⟨0, [], rfl, Nat.zero_le _, rfl, ⟨World.ownsRow_nil _ _ _ _, by simp, List.Pairwise.nil⟩, rfl, Nat.zero_le _, Below.refl _ _⟩
  case round =>
    obtain ⟨k, T, hgk, hk, rfl, hown, hrn, hTk, hb⟩ := hrel
    have HR : Hid (T.map trun ++ rnx k (xs.drop k) (ys.drop k) = rnx 0 xs ys) := hrn
    clear hrn
    have hB := hb.size
    by_cases hlt : k < n
    · have hltI : (k : Int) < (n : Int) := by omega
      clear hx hy
      generalize u6 = v0 at *
      generalize wr = wo at *
      generalize gk = g0 at *
      go_wp2_with fail
      go_loopg [6, 7] (n - k) (fun gh v2 i wi => ∃ (e m : Nat), gh = n - e ∧ v2 = v0 ∧ k ≤ e ∧ e < n ∧ i = .int .i64 e ∧ wi = wo.drewN m ∧ (e = k ∨ ¬ xs.getD e 0 = ys.getD e 0) ∧ dif (xs.drop k) (ys.drop k) = (e - k) + dif (xs.drop e) (ys.drop e))
      case atStart => exact ⟨k, 0, rfl, rfl, Nat.le_refl _, hlt, rfl, rfl, .inl rfl, by omega⟩
      case round =>
        obtain ⟨e, m, hge, rfl, hke, hen, rfl, hw2, hor, hdf⟩ := hrel
        obtain ⟨b, off, hao, hbl, hc⟩ := (hrx.below hb) (by rw [HX.out]; omega)
        obtain ⟨b2, off2, hbo, hbl2, hc2⟩ := (hry.below hb) (by rw [HY.out]; omega)
        subst hao
        subst hbo
        have hck : wr.cell? ⟨b, off + e, none⟩ = some (.int .u8 (xs.getD e 0)) := by rw [hw2]; exact hc e (by rw [HX.out]; omega)
        have hck2 : wr.cell? ⟨b2, off2 + e, none⟩ = some (.int .u8 (ys.getD e 0)) := by rw [hw2]; exact hc2 e (by rw [HY.out]; omega)
        have henI : (e : Int) < (n : Int) := by omega
        by_cases hee : xs.getD e 0 = ys.getD e 0
        · have hek : e = k := by
            rcases hor with h | h
            · exact h
            · exact absurd hee h
          subst hek
          have HN : Hid (T.map trun ++ rnx (e + 1) (xs.drop (e + 1)) (ys.drop (e + 1)) = rnx 0 xs ys) := by rw [← rnx_skip e xs ys (by rw [HX.out]; omega) (by rw [HY.out]; omega) hee]; exact HR.out
          rw [hee] at hck
          generalize ys.getD e 0 = c at hck hck2
          have HW2 : Hid (wr = wo.drewN m) := hw2
          have hbq : Below wo.heap.size wo wr := by rw [hw2]; exact below_drewN (Below.refl _ _) m
          have hown2 := hown.kept hbq
          have hb2 := hb.trans (hbq.mono hB)
          clear hee hdf hor hc hc2 HR hw2 hown hbq
          go_wp2_with fail
          go_quiet (fail)
          go_wp2_with fail
          go_roundg (n - (e + 1))
          case measure => omega
          case rel => exact ⟨e + 1, T, rfl, by omega, by go_num, hown2.kept (below_drewN (Below.refl _ _) nq), HN.out, by omega, below_drewN hb2 nq⟩
        · have hda := dif_step e xs ys (by rw [HX.out]; omega) (by rw [HY.out]; omega) hee
          have hee2 : (xs.getD e 0 != ys.getD e 0) = true := by simpa using hee
          have hkk : ¬ xs.getD k 0 = ys.getD k 0 := by
            rcases hor with h | h
            · rw [← h]; exact hee
            · intro hh
              have := dif_skip k xs ys (by rw [HX.out]; omega) (by rw [HY.out]; omega) hh
              omega
          have hbq : Below wo.heap.size wo wr := by rw [hw2]; exact below_drewN (Below.refl _ _) m
          have hown2 := hown.kept hbq
          have hb2 := hb.trans (hbq.mono hB)
          have HKK : Hid (¬ xs.getD k 0 = ys.getD k 0) := hkk
          have hzs : ((ys.drop k).take (e + 1 - k)).length = e + 1 - k := by simp only [List.length_take, List.length_drop]; rw [HY.out]; omega
          have hrk : ∀ W' : World, Below w.heap.size w W' → Reads W' (some ⟨b2, off2 + k, none⟩) ((ys.drop k).take (e + 1 - k)) W'.heap.size := by
            intro W' hW' _
            obtain ⟨b', off', e', hlt', hc'⟩ := (hry.below hW') (by rw [HY.out]; omega)
            simp only [Option.some.injEq, Addr.mk.injEq, and_true] at e'
            obtain ⟨rfl, rfl⟩ := e'
            refine ⟨_, _, rfl, Nat.lt_of_lt_of_le hlt' hW'.size, fun j hj => ?_⟩
            rw [hzs] at hj
            rw [Nat.add_assoc, hc' (k + j) (by rw [HY.out]; omega)]
            simp [List.getD, hj]
          have HRK : Hid (∀ W' : World, Below w.heap.size w W' → Reads W' (some ⟨b2, off2 + k, none⟩) ((ys.drop k).take (e + 1 - k)) W'.heap.size) := hrk
          have HZS : Hid (((ys.drop k).take (e + 1 - k)).length = e + 1 - k) := hzs
          have HOR : Hid (dif (xs.drop k) (ys.drop k) = (e - k) + (dif (xs.drop (e + 1)) (ys.drop (e + 1)) + 1)) := by rw [hdf, hda]; exact rfl
          have HW2 : Hid (wr = wo.drewN m) := hw2
          have hkn : ¬ k = cb := by omega
          have hkn2 : ¬ cb = k := by omega
          have hke1 : (k : Int) ≤ (e : Int) + 1 := by omega
          have hecb : (e : Int) + 1 ≤ (cb : Int) := by omega
          have HC : Hid (∀ j, j < xs.length → wo.cell? ⟨b, off + j, none⟩ = some (.int .u8 (xs.getD j 0))) := hc
          have HC2 : Hid (∀ j, j < ys.length → wo.cell? ⟨b2, off2 + j, none⟩ = some (.int .u8 (ys.getD j 0))) := hc2
          have HWE : Hid (∀ a, wr.cell? a = wo.cell? a) := fun a => by rw [hw2]; rfl
          have HO : Hid (∀ q, OwnRuns (wr.drewN q) w.heap.size u6 T ∧ Below w.heap.size w (wr.drewN q)) := fun q => ⟨hown2.kept (below_drewN (Below.refl _ _) q), below_drewN hb2 q⟩
          clear hw2 hown hbq hor hdf hda hc hc2 hkk hrk hzs hown2 hb2
          generalize hx1 : xs.getD e 0 = x1 at *
          generalize hy1 : ys.getD e 0 = y1 at *
          clear hx1 hy1
          by_cases hend : e + 1 = n
          · have HD0 : Hid (dif (xs.drop (e + 1)) (ys.drop (e + 1)) = 0) := by rw [List.drop_of_length_le (show xs.length ≤ e + 1 by rw [HX.out]; omega)]; exact rfl
            have dg : (((e : Int) + 1) == (n : Int)) = true := by simp; omega
            have HEN : Hid (e + 1 = n) := hend
            clear hend
            go_wp2_with fail
            go_quiet (fail)
            go_wp2_with fail
            go_quiet (fail)
            have HDD : Hid (dif (xs.drop k) (ys.drop k) = e + 1 - k) := by have := HOR.out; rw [HD0.out] at this; rw [this]; show e - k + (0 + 1) = e + 1 - k; omega
            go_wp2_with fail
            refine (clone_n (e + 1 - k) (some ⟨b2, off2 + k, none⟩) (cb - k) ((ys.drop k).take (e + 1 - k)) _ HZS.out (by omega) (by simp) (HRK.out _ (HO.out _).2)).mono ?_
            rintro e' w2 ⟨v3, rfl, own3, hbc⟩
            have hO2 : OwnRuns w2 w.heap.size u6 T := (HO.out _).1.kept hbc
            have HAp : Hid (∀ s ∈ T, s.2.1.ownBlock = none ∨ s.2.1.ownBlock ≠ v3.ownBlock) := fun s hs => later_ap ((HO.out _).1.each s hs) own3 (Nat.le_refl _)
            have hb4 : Below w.heap.size w w2 := (HO.out _).2.trans (hbc.mono (HO.out _).2.size)
            have own4 : w2.ownsRow w.heap.size 5 1 v3 _ _ := own_mono own3 (HO.out _).2.size
            have hB4 := hb4.size
            have hform : ∃ a2 c2, v3 = .slice a2 (e + 1 - k) c2 := by
              rcases own4.2 with ⟨rfl, hz⟩ | ⟨g, cap, cur, rfl, _⟩
              · rw [HZS.out] at hz; omega
              · exact ⟨_, _, by rw [HZS.out]⟩
            obtain ⟨a3, c3, rfl⟩ := hform
            have HRn : Hid ((T ++ [(k, Value.slice a3 (e + 1 - k) c3, (ys.drop k).take (e + 1 - k))]).map trun ++ rnx (e + 1) (xs.drop (e + 1)) (ys.drop (e + 1)) = rnx 0 xs ys) := by
              rw [List.map_append, List.append_assoc]
              show T.map trun ++ ((k, (ys.drop k).take (e + 1 - k)) :: rnx (e + 1) (xs.drop (e + 1)) (ys.drop (e + 1))) = _
              have := rnx_take k (e + 1 - k) xs ys (by rw [HX.out]; omega) (by rw [HY.out]; omega) HKK.out HDD.out
              rw [show k + (e + 1 - k) = e + 1 by omega] at this
              rw [← this]; exact HR.out
            clear own3 hbc HO HR
            go_wp2_with (at_builtin; refine wpList_append_own _ rfl _ _ 27 rfl w.heap.size 48 i0 (.agg #[.int .u32 0, .slice none 0 0]) 2 32 Try.underlying27 hi hz0 hz1 hz2 rfl (by decide) _ T.length (tcells T) rfl (hO2.row.alloc _) ⟨_, 0, none⟩ 1 1 [.int .u32 (k : Int), .slice a3 (e + 1 - k) c3] rfl rfl ?c1 ?c2 ?c3 ?c4 ?c5 ?_)
            case c1 =>
              intro j u hj
              match j, hj with
              | 0, hj => simp at hj; subst hj; simp [Addr.add]
              | 1, hj => simp at hj; subst hj; simp [Addr.add]
              | (j + 2), hj => simp at hj
            case c2 => intro u hu; simp at hu; rcases hu with rfl | rfl <;> rfl
            case c3 => unfold maxLen; omega
            case c4 => omega
            case c5 => simp; omega
            intro v' w5 hown' hgrow _
            have R1 : OwnRuns w5 w.heap.size v' (T ++ [(k, Value.slice a3 (e + 1 - k) c3, (ys.drop k).take (e + 1 - k))]) := by
              refine ⟨by rw [List.length_append, tcells_snoc]; exact hown', fun t ht => ?_, ap_snocR hO2.ap HAp.out⟩
              rcases List.mem_append.1 ht with ht | ht
              · exact ((hO2.each t ht).alloc _).kept hgrow (rows_apart (hO2.each t ht) hO2.row)
              · rw [List.mem_singleton] at ht
                subst ht
                exact (own4.alloc _).kept hgrow (rows_apart own4 hO2.row)
            have R2 := grown_below hb4 hB4 hO2.row hgrow
            clear hown' hgrow hO2 own4
            go_wp2_with fail
            go_roundg (n - (e + 1))
            case measure => omega
            case rel => exact ⟨e + 1, _, rfl, by omega, by go_num, R1, HRn.out, by simp; omega, R2⟩
          · have dg : (((e : Int) + 1) == (n : Int)) = false := by simp; omega
            have hck3 : wr.cell? ⟨b, off + (e + 1), none⟩ = some (.int .u8 (xs.getD (e + 1) 0)) := by rw [HWE.out]; exact HC.out (e + 1) (by rw [HX.out]; omega)
            have hck4 : wr.cell? ⟨b2, off2 + (e + 1), none⟩ = some (.int .u8 (ys.getD (e + 1) 0)) := by rw [HWE.out]; exact HC2.out (e + 1) (by rw [HY.out]; omega)
            have he1I : (e : Int) + 1 < (n : Int) := by omega
            by_cases hne : xs.getD (e + 1) 0 = ys.getD (e + 1) 0
            · have HD0 : Hid (dif (xs.drop (e + 1)) (ys.drop (e + 1)) = 0) := dif_skip (e + 1) xs ys (by rw [HX.out]; omega) (by rw [HY.out]; omega) hne
              rw [hne] at hck3
              generalize ys.getD (e + 1) 0 = c at hck3 hck4
              clear hne
              go_wp2_with fail
              go_quiet (fail)
              go_wp2_with fail
              go_quiet (fail)
              have HDD : Hid (dif (xs.drop k) (ys.drop k) = e + 1 - k) := by have := HOR.out; rw [HD0.out] at this; rw [this]; show e - k + (0 + 1) = e + 1 - k; omega
              go_wp2_with fail
              refine (clone_n (e + 1 - k) (some ⟨b2, off2 + k, none⟩) (cb - k) ((ys.drop k).take (e + 1 - k)) _ HZS.out (by omega) (by simp) (HRK.out _ (HO.out _).2)).mono ?_
              rintro e' w2 ⟨v3, rfl, own3, hbc⟩
              have hO2 : OwnRuns w2 w.heap.size u6 T := (HO.out _).1.kept hbc
              have HAp : Hid (∀ s ∈ T, s.2.1.ownBlock = none ∨ s.2.1.ownBlock ≠ v3.ownBlock) := fun s hs => later_ap ((HO.out _).1.each s hs) own3 (Nat.le_refl _)
              have hb4 : Below w.heap.size w w2 := (HO.out _).2.trans (hbc.mono (HO.out _).2.size)
              have own4 : w2.ownsRow w.heap.size 5 1 v3 _ _ := own_mono own3 (HO.out _).2.size
              have hB4 := hb4.size
              have hform : ∃ a2 c2, v3 = .slice a2 (e + 1 - k) c2 := by
                rcases own4.2 with ⟨rfl, hz⟩ | ⟨g, cap, cur, rfl, _⟩
                · rw [HZS.out] at hz; omega
                · exact ⟨_, _, by rw [HZS.out]⟩
              obtain ⟨a3, c3, rfl⟩ := hform
              have HRn : Hid ((T ++ [(k, Value.slice a3 (e + 1 - k) c3, (ys.drop k).take (e + 1 - k))]).map trun ++ rnx (e + 1) (xs.drop (e + 1)) (ys.drop (e + 1)) = rnx 0 xs ys) := by
                rw [List.map_append, List.append_assoc]
                show T.map trun ++ ((k, (ys.drop k).take (e + 1 - k)) :: rnx (e + 1) (xs.drop (e + 1)) (ys.drop (e + 1))) = _
                have := rnx_take k (e + 1 - k) xs ys (by rw [HX.out]; omega) (by rw [HY.out]; omega) HKK.out HDD.out
                rw [show k + (e + 1 - k) = e + 1 by omega] at this
                rw [← this]; exact HR.out
              clear own3 hbc HO HR
              go_wp2_with (at_builtin; refine wpList_append_own _ rfl _ _ 27 rfl w.heap.size 48 i0 (.agg #[.int .u32 0, .slice none 0 0]) 2 32 Try.underlying27 hi hz0 hz1 hz2 rfl (by decide) _ T.length (tcells T) rfl (hO2.row.alloc _) ⟨_, 0, none⟩ 1 1 [.int .u32 (k : Int), .slice a3 (e + 1 - k) c3] rfl rfl ?c1 ?c2 ?c3 ?c4 ?c5 ?_)
              case c1 =>
                intro j u hj
                match j, hj with
                | 0, hj => simp at hj; subst hj; simp [Addr.add]
                | 1, hj => simp at hj; subst hj; simp [Addr.add]
                | (j + 2), hj => simp at hj
              case c2 => intro u hu; simp at hu; rcases hu with rfl | rfl <;> rfl
              case c3 => unfold maxLen; omega
              case c4 => omega
              case c5 => simp; omega
              intro v' w5 hown' hgrow _
              have R1 : OwnRuns w5 w.heap.size v' (T ++ [(k, Value.slice a3 (e + 1 - k) c3, (ys.drop k).take (e + 1 - k))]) := by
                refine ⟨by rw [List.length_append, tcells_snoc]; exact hown', fun t ht => ?_, ap_snocR hO2.ap HAp.out⟩
                rcases List.mem_append.1 ht with ht | ht
                · exact ((hO2.each t ht).alloc _).kept hgrow (rows_apart (hO2.each t ht) hO2.row)
                · rw [List.mem_singleton] at ht
                  subst ht
                  exact (own4.alloc _).kept hgrow (rows_apart own4 hO2.row)
              have R2 := grown_below hb4 hB4 hO2.row hgrow
              clear hown' hgrow hO2 own4
              go_wp2_with fail
              go_roundg (n - (e + 1))
              case measure => omega
              case rel => exact ⟨e + 1, _, rfl, by omega, by go_num, R1, HRn.out, by simp; omega, R2⟩
            · have HNE : Hid (¬ xs.getD (e + 1) 0 = ys.getD (e + 1) 0) := hne
              have dn : (xs.getD (e + 1) 0 == ys.getD (e + 1) 0) = false := by simpa using hne
              generalize ys.getD (e + 1) 0 = c at hck4 dn
              generalize xs.getD (e + 1) 0 = c' at hck3 dn
              clear hne
              go_wp2_with fail
              go_quiet (fail)
              go_wp2_with fail
              go_quiet (fail)
              go_wp2_with fail
              go_roundg (n - (e + 1))
              case measure => omega
              case rel => exact ⟨e + 1, _, rfl, rfl, by omega, by omega, by go_num, by rw [HW2.out, World.drewN_drewN, World.drewN_drewN], .inr HNE.out, by rw [HOR.out]; omega⟩
    · have HF : Hid (T.map trun = rnx 0 xs ys) := by
        have := HR.out
        rw [List.drop_of_length_le (show xs.length ≤ k by rw [HX.out]; omega), rnx_nil, List.append_nil] at this
        exact this
      go_wp2_with fail
      try rw [Exit.noGoto_ret]
      go_ret2
      exact ⟨_, T, rfl, hown, HF.out, by omega, hb⟩
end Go.Proofs.Ytfjnpmbkmoodnaa
