import Derived.Test.YtahghghobibgdaaDoorFGo
import Derived.Test.YtahghghobibgdaaDoorCPSm
namespace Go.Proofs.YtahghghobibgdaaDoor
open Go.RowKit Go.WideShapes Go.Shelf
set_option maxRecDepth 100000
theorem goes_any (ao aj : Option Addr) (cap capj : Nat) (L : List (Nat × Nat)) (J : List Nat) (w0 w : World) (hb0 : Below w0.heap.size w0 w) (hn : L.length ≤ 9223372036854775807) (hJn : J.length ≤ 9223372036854775807) (hwf : Wfc L) (hJ : ∀ z ∈ J, z < 4294967296)
    (hr : CRd w0 ao L w0.heap.size) (hrJ : JRd w0 aj J w0.heap.size) (hT : TabW w0) (hp : 0 < w0.heap.size) (hGd : FdG L J []) (D N : List Int) (hK : DpK L J D N (bgs L).length) (i k : Nat) (hk : k < (bgs L).length) (h1 : bAt L k ≤ i) (h2 : i < bAt L (k + 1)) (gd cp : Nat)
    (hgd : gd < w.heap.size) (hcd : ∀ j, j < D.length → w.cell? ⟨gd, j, none⟩ = some (.int .i64 (D.getD j (-1)))) (hd0 : 0 ≤ D.getD i (-1)) :
    Calls Tryd.prog 11 #[.agg #[.slice ao L.length cap, .slice aj J.length capj], .slice (some ⟨gd, 0, none⟩) D.length cp, .int .i64 (N.getD k 0), .int .i64 i] w fun e w' => e = .returned (.bool true) ∧ Below w.heap.size w w' := by
  have hl : L.length ≤ 16384 := encX_len hGd.enc
  have hi : i < L.length := Nat.lt_of_lt_of_le h2 (bAt_le _)
  have hop : opL L i < 256 := (hwf.at hi).1
  have his : isOp (opL L i) = true := enc_each hGd.enc hi
  have hf := hK.fin k hk
  obtain ⟨htk, hnx⟩ := hf.sol.ok i h1 h2 hd0
  obtain ⟨t1, t2, t3, t4⟩ := tk_ok htk
  obtain ⟨l1, l2⟩ := hf.le i h1 h2 hd0
  have hs := op_small _ hop
  have hin : ∀ j ∈ nxt L J i, j < L.length := fun j hj => Nat.lt_of_lt_of_le (nxt_in hGd hk h1 h2 hj).2 (bAt_le _)
  have hmem : ∀ q, q < (nxt L J i).length → (nxt L J i).getD q 0 ∈ nxt L J i := fun q hq => by
    rw [List.getD_eq_getElem?_getD, List.getElem?_eq_getElem hq]
    exact List.getElem_mem hq
  obtain ⟨b, off, hao, hlt, hc⟩ := hr (by omega)
  refine goes_core ao aj cap capj b off L.length i (opL L i) gd cp J.length D.length (D.getD i (-1)) (N.getD k 0) (opTa (opL L i)) (opGi (opL L i)) (opKi (opL L i)) (opWi (opL L i)) (opMo (opL L i)) (opWd (opL L i)) (isOp (opL L i)) (nxt L J i) w hao hi hl hK.len
    (fun q hq => hin _ (hmem q hq)) (nxt_len hl i) (hf.bd i h1 h2) hf.nd ⟨by omega, by omega⟩ ⟨by omega, by omega⟩ t1 l1 l2 ?_ (opKi_lt _ hop) (hidS fun W hW => ?_)
  · by_cases hz : nxt L J i = []
    · rcases nxt_none hop his hz with e | e | e
      · exact .inl ⟨e, t4 e, hz⟩
      · exact .inr (.inl ⟨e, hz⟩)
      · exact .inr (.inr (.inl ⟨e, hz⟩))
    · exact .inr (.inr (.inr ⟨fun e => hz (nxt_seven e), hz⟩))
  · have hbW := btP hb0 hW
    refine ⟨(hbW.cell (p := ⟨b, off + i * 2, none⟩) hlt).trans (hc i hi).1, (hW.cell (p := ⟨gd, i, none⟩) hgd).trans (hcd i (by rw [hK.len]; exact hi)), fun q hq => ?_, info_any (opL L i) W hop, fnext_any ao aj cap capj L J W hn hJn hwf hJ ((hr.below hbW).mono hbW.size) ((hrJ.below hbW).mono hbW.size) (hT.below hbW hp) (Nat.lt_of_lt_of_le hp hbW.size) hGd i hi⟩
    rw [hW.cell (p := ⟨gd, (nxt L J i).getD q 0, none⟩) hgd, hcd _ (by rw [hK.len]; exact hin _ (hmem q hq)), hnx _ (hmem q hq)]
    rfl
end Go.Proofs.YtahghghobibgdaaDoor
namespace Go.Proofs.YtahghghobibgdaaDoor
open Go.RowKit Go.WideShapes Go.Shelf
set_option maxRecDepth 100000

theorem ckR_det {L : List (Nat × Nat)} {Ps : List (Nat × Nat × Nat)} {i x i' x' : Nat} (h : CkR L Ps i x) (h' : CkR L Ps i' x') : i = i' ∧ x = x' := by
  rcases h with ⟨a1, a2, a3⟩ | ⟨a1, k, a2, a3, a4, a5, a6, a7⟩
  · rcases h' with ⟨b1, b2, b3⟩ | ⟨b1, k', b2, b3, b4, b5, b6, b7⟩
    · exact ⟨by omega, by omega⟩
    · exact absurd ((b5.symm.trans (a3 k' b2 i' b3 b4))) b1
  · rcases h' with ⟨b1, b2, b3⟩ | ⟨b1, k', b2, b3, b4, b5, b6, b7⟩
    · exact absurd ((a5.symm.trans (b3 k a2 i a3 a4))) a1
    · rcases Nat.lt_trichotomy k k' with h | h | h
      · exact absurd (a5.symm.trans (b7 k h i a3 a4)) a1
      · subst h
        rcases Nat.lt_trichotomy i i' with h | h | h
        · exact absurd (a5.symm.trans (b6 i a3 h)) a1
        · subst h
          exact ⟨rfl, a5.symm.trans b5⟩
        · exact absurd (b5.symm.trans (a6 i' b3 h)) b1
      · exact absurd (b5.symm.trans (a7 k' h i' b3 b4)) b1
theorem jmR_det {L : List (Nat × Nat)} {J : List Nat} {i x i' x' : Nat} (h : JmR L J i x) (h' : JmR L J i' x') : i = i' ∧ x = x' := by
  rcases h with ⟨a1, a2, a3⟩ | ⟨a1, a2, a3, a4⟩
  · rcases h' with ⟨b1, b2, b3⟩ | ⟨b1, b2, b3, b4⟩
    · exact ⟨by omega, by omega⟩
    · rw [a3 i' b2] at b3
      cases b3
  · rcases h' with ⟨b1, b2, b3⟩ | ⟨b1, b2, b3, b4⟩
    · rw [b3 i a2] at a3
      cases a3
    · rcases Nat.lt_trichotomy i i' with h | h | h
      · rw [b4 i h] at a3
        cases a3
      · exact ⟨h, by omega⟩
      · rw [a4 i' h] at b3
        cases b3
theorem nmR_det {L : List (Nat × Nat)} {M : List (ByteArray × Nat)} {i x i' x' : Nat} (h : NmR L M i x) (h' : NmR L M i' x') : i = i' ∧ x = x' := by
  rcases h with ⟨a1, a2, a3⟩ | ⟨a1, a2, a3, a4⟩
  · rcases h' with ⟨b1, b2, b3⟩ | ⟨b1, b2, b3, b4⟩
    · exact ⟨by omega, by omega⟩
    · rw [a3 i' b2] at b3
      cases b3
  · rcases h' with ⟨b1, b2, b3⟩ | ⟨b1, b2, b3, b4⟩
    · rw [b3 i a2] at a3
      cases a3
    · rcases Nat.lt_trichotomy i i' with h | h | h
      · rw [b4 i h] at a3
        cases a3
      · exact ⟨h, by omega⟩
      · rw [a4 i' h] at b3
        cases b3
/-- there is one first fault -/
theorem fdB_det {L : List (Nat × Nat)} {J : List Nat} {M : List (ByteArray × Nat)} {i x i' x' : Nat} (h : FdB L J M i x) (hx : x ≠ 0) (h' : FdB L J M i' x') (hx' : x' ≠ 0) : i = i' ∧ x = x' := by
  rcases h with ⟨a1, a2, a3⟩ | ⟨a1, a2, a3, a4⟩ | ⟨a1, a2, a3⟩ | ⟨a1, a2, a3, a4⟩ | ⟨a1, a2, a3, a4, a5⟩
  · rcases h' with ⟨b1, b2, b3⟩ | ⟨b1, _⟩ | ⟨b1, _⟩ | ⟨b1, _⟩ | ⟨b1, _⟩
    · exact ⟨by omega, by omega⟩
    all_goals exact absurd b1 a1
  · rcases h' with ⟨b1, _⟩ | ⟨b1, b2, b3, b4⟩ | ⟨_, b2, _⟩ | ⟨_, b2, _⟩ | ⟨_, b2, _⟩
    · exact absurd a1 b1
    · exact ⟨by omega, by omega⟩
    all_goals rw [a2] at b2; cases b2
  · rcases h' with ⟨b1, _⟩ | ⟨_, b2, _⟩ | ⟨_, _, b3⟩ | ⟨_, _, b3, _⟩ | ⟨_, _, b3, _⟩
    · exact absurd a1 b1
    · rw [a2] at b2; cases b2
    · exact ckR_det a3 b3
    all_goals exact absurd (ckR_det a3 b3).2 hx
  · rcases h' with ⟨b1, _⟩ | ⟨_, b2, _⟩ | ⟨_, _, b3⟩ | ⟨_, _, b3, b4⟩ | ⟨_, _, b3, b4, _⟩
    · exact absurd a1 b1
    · rw [a2] at b2; cases b2
    · exact absurd (ckR_det b3 a3).2 hx'
    · exact jmR_det a4 b4
    · exact absurd (jmR_det a4 b4).2 hx
  · rcases h' with ⟨b1, _⟩ | ⟨_, b2, _⟩ | ⟨_, _, b3⟩ | ⟨_, _, b3, b4⟩ | ⟨_, _, b3, b4, b5⟩
    · exact absurd a1 b1
    · rw [a2] at b2; cases b2
    · exact absurd (ckR_det b3 a3).2 hx'
    · exact absurd (jmR_det b4 a4).2 hx'
    · exact nmR_det a5 b5
end Go.Proofs.YtahghghobibgdaaDoor
