import Derived.Test.YtdpghhkimnifjaaCZLn
namespace Go.Proofs.Ytdpghhkimnifjaa
open Go.RowKit Go.WideShapes Go.Shelf
set_option maxRecDepth 100000

theorem shIdx_lit (c0 c1 c2 c3 c4 c5 c6 c7 c8 c9 c10 c11 c12 c13 c14 c15 : Value) (w : World) : ∀ k : Nat, k < 16 → (Instr.index 78 (.agg #[c0, c1, c2, c3, c4, c5, c6, c7, c8, c9, c10, c11, c12, c13, c14, c15]) (.int .u8 (k : Int))).run Try.prog w = .ok (#[c0, c1, c2, c3, c4, c5, c6, c7, c8, c9, c10, c11, c12, c13, c14, c15].getD k .nilFunc) w
  | 0, _ => by kernel_rfl
  | 1, _ => by kernel_rfl
  | 2, _ => by kernel_rfl
  | 3, _ => by kernel_rfl
  | 4, _ => by kernel_rfl
  | 5, _ => by kernel_rfl
  | 6, _ => by kernel_rfl
  | 7, _ => by kernel_rfl
  | 8, _ => by kernel_rfl
  | 9, _ => by kernel_rfl
  | 10, _ => by kernel_rfl
  | 11, _ => by kernel_rfl
  | 12, _ => by kernel_rfl
  | 13, _ => by kernel_rfl
  | 14, _ => by kernel_rfl
  | 15, _ => by kernel_rfl
  | k + 16, h => absurd h (by omega)
theorem shIdx (cs : Array Value) (w : World) (k : Nat) (hs : cs.size = 16) (hk : k < 16) : (Instr.index 78 (.agg cs) (.int .u8 (k : Int))).run Try.prog w = .ok (cs.getD k .nilFunc) w := by
  obtain ⟨l⟩ := cs
  obtain _ | ⟨c0, l⟩ := l
  · simp at hs
  obtain _ | ⟨c1, l⟩ := l
  · simp at hs
  obtain _ | ⟨c2, l⟩ := l
  · simp at hs
  obtain _ | ⟨c3, l⟩ := l
  · simp at hs
  obtain _ | ⟨c4, l⟩ := l
  · simp at hs
  obtain _ | ⟨c5, l⟩ := l
  · simp at hs
  obtain _ | ⟨c6, l⟩ := l
  · simp at hs
  obtain _ | ⟨c7, l⟩ := l
  · simp at hs
  obtain _ | ⟨c8, l⟩ := l
  · simp at hs
  obtain _ | ⟨c9, l⟩ := l
  · simp at hs
  obtain _ | ⟨c10, l⟩ := l
  · simp at hs
  obtain _ | ⟨c11, l⟩ := l
  · simp at hs
  obtain _ | ⟨c12, l⟩ := l
  · simp at hs
  obtain _ | ⟨c13, l⟩ := l
  · simp at hs
  obtain _ | ⟨c14, l⟩ := l
  · simp at hs
  obtain _ | ⟨c15, l⟩ := l
  · simp at hs
  obtain _ | ⟨c16, l⟩ := l
  · exact shIdx_lit _ _ _ _ _ _ _ _ _ _ _ _ _ _ _ _ w k hk
  · simp at hs
/-- what Fits answers -/
def ftV (L : List (Nat × Nat)) (a e k : Nat) : Fz × Bool := if (a < e ∧ e ≤ L.length) ∧ 1 ≤ k ∧ k ≤ 15 then fkV ((L.drop a).take (e - a)) a k else (fz0, false)
set_option maxHeartbeats 8000000 in
theorem fits_any (ao : Option Addr) (cap a e k : Nat) (L : List (Nat × Nat)) (w : World) (hn : L.length ≤ 9223372036854775807) (hcap : L.length ≤ cap) (ha : a < 4294967296) (he : e < 4294967296) (hwf : Wfc L) (hr : CRd w ao L w.heap.size) :
    Calls Try.prog 17 #[.slice ao L.length cap, .int .u32 (a : Int), .int .u32 (e : Int), .int .u8 (k : Int)] w fun en w' => en = .returned (.tuple #[.agg (fzA (ftV L a e k).1), .bool (ftV L a e k).2]) ∧ Below w.heap.size w w' := by
  have HL := dhid (fun W => lies_any ao cap L.length a e W hn ha he)
  have hS := setRow_heap (w.alloc (.cells (fzA fz0) 30)) w.heap.size _ (fzA fz0) _ _ (heap_alloc_new w _)
  have hBf : Below w.heap.size w ((w.alloc (.cells (fzA fz0) 30)).setRow w.heap.size (fzA fz0)) := (bel1 w _).trans ((KpSetRow (S := fun i => i = w.heap.size) _ _ _ rfl).below (by simp) (fun i e => by omega))
  by_cases hl : a < e ∧ e ≤ L.length
  · rw [show liB L.length a e = true from decide_eq_true hl] at HL
    by_cases hk1 : 1 ≤ k
    · by_cases hk2 : k ≤ 15
      · have hV : ftV L a e k = fkV ((L.drop a).take (e - a)) a k := if_pos ⟨hl, hk1, hk2⟩
        rw [hV]
        obtain ⟨S, hS⟩ : ∃ S, S = (L.drop a).take (e - a) := ⟨_, rfl⟩
        have hSl : S.length = e - a := by rw [hS, List.length_take, List.length_drop]; omega
        rw [← hS]
        have hr' := hr
        obtain ⟨b, off, rfl, hbl, -⟩ := hr (by omega)
        have HSR := dhid (show CRd w (some ⟨b, off + a * 2, none⟩) S w.heap.size by rw [hS]; exact crd_takeZ (crd_drop hr' a) _)
        have HWS := dhid (show Wfc S by rw [hS]; exact wfc_takeZ (wfc_drop hwf a) _)
        have HFT := dhid (fun (w2 : World) (hb : Below w.heap.size w w2) (B : Nat) (fv : Value) (hv : ShS B w2 fv (shK k)) => fit_any (B := B) fv (shK k) k a (some ⟨b, off + a * 2, none⟩) (cap - a) S w2 w2 hv (Fr.of (Below.refl _ _)) (by omega) (by omega) (by omega) HWS.out ((HSR.out.below hb).mono hb.size))
        rw [hSl] at HFT
        have HFK := dhid (show fkV S a k = fitV (shK k) k S a from rfl)
        rw [← HFK.out] at HFT
        generalize fkV S a k = fk at HFT ⊢
        obtain ⟨⟨f0, f1, f2, f3, f4, f5⟩, ok⟩ := fk
        simp only [fzA] at HFT
        have hac : ¬ a = cap := by omega
        have hac' : ¬ cap = a := by omega
        have haeI : (a : Int) ≤ (e : Int) := by omega
        have hecI : (e : Int) ≤ (cap : Int) := by omega
        have g1 : ¬ (k : Int) < 1 := by omega
        have g2 : ¬ (15 : Int) < (k : Int) := by omega
        have HSP := dhid (fun W => shapes_any W)
        clear hS hSl hr' hr hV HFK HSR HWS
        go_enter Try.func17, Try.ntmps17
        go_wp2_with (go_at_call 18; refine (HL.out _).mono ?_; rintro en w1 ⟨rfl, hw1⟩; subst hw1)
        go_region_held3 (fun _ => True) (trivial)
          (first
            | (with_reducible refine (HSP.out _).mono ?_; rintro en w2 ⟨cs, rfl, hcs, hsh, hone, hb2⟩
               obtain ⟨fv, hfv⟩ : ∃ fv, cs.getD k .nilFunc = fv := ⟨_, rfl⟩
               have hix := shIdx cs w2 k hcs (by omega)
               rw [hfv] at hix
               have HV := dhid (hfv ▸ hsh k hk1 hk2)
               have HB2 := dhid hb2
               have D2 := dhid (show Below w.heap.size w w2 from (bel1 w (.cells #[.int .u32 0, .int .u32 0, .int .u8 0, .int .u8 0, .int .u32 0, .int .u32 0] 30)).trans ((show Below (w.alloc (.cells #[.int .u32 0, .int .u32 0, .int .u8 0, .int .u8 0, .int .u32 0, .int .u32 0] 30)).heap.size (w.alloc (.cells #[.int .u32 0, .int .u32 0, .int .u8 0, .int .u8 0, .int .u32 0, .int .u32 0] 30)) w2 from ⟨hb2.os, hb2.tape, hb2.output, hb2.size, hb2.block⟩).mono (by simp)))
               have O2 := dhid (show w2.heap[w.heap.size]? = some (.cells (fzA fz0) 30) from (hb2.block w.heap.size (by show w.heap.size < (w.alloc _).heap.size; simp)).trans (heap_alloc_new w (.cells #[.int .u32 0, .int .u32 0, .int .u8 0, .int .u8 0, .int .u32 0, .int .u32 0] 30)))
               clear hsh hone hb2 hfv)
            | (with_reducible refine (HFT.out _ D2.out _ _ HV.out).mono ?_; rintro en w3 ⟨rfl, hb3⟩
               have o3 := dhid ((hb3.block w.heap.size (Array.getElem?_eq_some_iff.1 O2.out).1).trans O2.out)
               obtain ⟨z0, z1, z2, z3, z4, z5⟩ := fz_cells (f := fz0) o3.out
               obtain ⟨v0, v1, v2, v3, v4, v5⟩ := fz_frozen (f := fz0) o3.out
               have P2 := dhid (put6_any (f := fz0) (f' := ⟨f0, f1, f2, f3, f4, f5⟩) o3.out)
               have D3 := dhid (D2.out.trans (hb3.mono D2.out.size))
               clear HFT HV D2 O2 HSP))
        generalize hFW : (((((w3.setCell ⟨w.heap.size, 0, none⟩ (.int .u32 (f0 : Int))).setCell ⟨w.heap.size, 1, none⟩ (.int .u32 (f1 : Int))).setCell ⟨w.heap.size, 2, none⟩ (.int .u8 (f2 : Int))).setCell ⟨w.heap.size, 3, none⟩ (.int .u8 (f3 : Int))).setCell ⟨w.heap.size, 4, none⟩ (.int .u32 (f4 : Int))).setCell ⟨w.heap.size, 5, none⟩ (.int .u32 (f5 : Int)) = FW
        have hP : FW.heap[w.heap.size]? = some (.cells (fzA ⟨f0, f1, f2, f3, f4, f5⟩) 30) ∧ Kp (fun i => i = w.heap.size) w3 FW := by rw [← hFW]; exact P2.out
        clear hFW z0 z1 z2 z3 z4 z5 v0 v1 v2 v3 v4 v5 P2
        go_wp2_with fail
        exact bodyPost_ret (resFzB (p := 8) (u := 9) (by kernel_rfl) _ _ w.heap.size _ rfl hP.1 _ rfl rfl) rfl ⟨rfl, D3.out.trans (hP.2.below D3.out.size (fun i e => by omega))⟩
      · have g1 : ¬ (k : Int) < 1 := by omega
        have g2 : (15 : Int) < (k : Int) := by omega
        rw [show ftV L a e k = (fz0, false) from if_neg (fun q => hk2 q.2.2)]
        go_enter Try.func17, Try.ntmps17
        go_wp2_with (first
          | (go_at_call 18; refine (HL.out _).mono ?_; rintro en w1 ⟨rfl, hw1⟩; subst hw1)
          | (refine wpList_storeF rfl _ _ rfl w.heap.size fz0 fz0 rfl rfl (heap_alloc_new w _) ?_))
        exact bodyPost_ret (resFzB (p := 8) (u := 9) (by kernel_rfl) _ _ w.heap.size _ rfl hS _ rfl rfl) rfl ⟨rfl, hBf⟩
    · have g1 : (k : Int) < 1 := by omega
      rw [show ftV L a e k = (fz0, false) from if_neg (fun q => hk1 q.2.1)]
      go_enter Try.func17, Try.ntmps17
      go_wp2_with (first
        | (go_at_call 18; refine (HL.out _).mono ?_; rintro en w1 ⟨rfl, hw1⟩; subst hw1)
        | (refine wpList_storeF rfl _ _ rfl w.heap.size fz0 fz0 rfl rfl (heap_alloc_new w _) ?_))
      exact bodyPost_ret (resFzB (p := 8) (u := 9) (by kernel_rfl) _ _ w.heap.size _ rfl hS _ rfl rfl) rfl ⟨rfl, hBf⟩
  · rw [show liB L.length a e = false from decide_eq_false hl] at HL
    rw [show ftV L a e k = (fz0, false) from if_neg (fun q => hl q.1)]
    go_enter Try.func17, Try.ntmps17
    go_wp2_with (first
      | (go_at_call 18; refine (HL.out _).mono ?_; rintro en w1 ⟨rfl, hw1⟩; subst hw1)
      | (refine wpList_storeF rfl _ _ rfl w.heap.size fz0 fz0 rfl rfl (heap_alloc_new w _) ?_))
    exact bodyPost_ret (resFzB (p := 8) (u := 9) (by kernel_rfl) _ _ w.heap.size _ rfl hS _ rfl rfl) rfl ⟨rfl, hBf⟩
end Go.Proofs.Ytdpghhkimnifjaa
