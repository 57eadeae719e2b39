import Derived.Test.YtcmfephbhbgoiaaDoorJKw
namespace Go.Proofs.YtcmfephbhbgoiaaDoor
open Go.RowKit Go.WideShapes
set_option maxRecDepth 100000
theorem kst_b {w0 : World} {B gg a : Nat} {bs : List Int} {W W' : World} (h : Hid (KS w0 B gg a bs W)) (hb : Below W.heap.size W W') : Hid (KS w0 B gg a bs W') := h.out.below hb
theorem kst_g {w0 : World} {B gg a : Nat} {bs : List Int} {W : World} (h : Hid (KS w0 B gg a bs W)) : GtS W gg f7 := h.out.gate
set_option maxHeartbeats 4000000 in
theorem gate_known (w : World) (hT : Tab w) (h1 : 1 < w.heap.size) :
    Calls Tryd.prog 5 #[] w fun e w' => e = .returned (.bool true) ∧ Below w.heap.size w w' := by
  have hN := new7 w
  go_enter Tryd.func5, Tryd.ntmps5
  go_wp2_with (go_at_call 6; with_reducible refine hN.mono ?_; rintro e w1 ⟨gg, rfl, hG, hb1⟩)
  have hM8 := new8s_any w1
  clear hN
  go_wp2_with (go_at_call 7; with_reducible refine hM8.mono ?_; rintro e w2 ⟨a, rfl, hS, hb2⟩)
  have HK : Hid (KS w w1.heap.size gg a (List.replicate 256 0) w2) := ⟨hG.toB.below hb2, hS, (hT.below hb1 h1).below hb2 (by have := hb1.size; omega), hb2.size, gbt hb2 hb1, by have := hb1.size; omega, hb1.size⟩
  clear hM8 hG hb1 hS hb2
  go_wp2_with (first
    | (go_at_call 19; with_reducible refine (st16 HK).mono ?_; rintro e wq ⟨rfl, hq⟩; replace HK := hq; clear hq)
    | (go_at_call 19; with_reducible refine (st20 HK).mono ?_; rintro e wq ⟨rfl, hq⟩; replace HK := hq; clear hq)
    | (go_at_call 19; with_reducible refine (st24 HK).mono ?_; rintro e wq ⟨rfl, hq⟩; replace HK := hq; clear hq)
    | (go_at_call 19; with_reducible refine (st252 HK).mono ?_; rintro e wq ⟨rfl, hq⟩; replace HK := hq; clear hq)
    | (go_at_call 9; with_reducible refine (words12 HK).mono ?_; rintro e w3 ⟨rfl, hq, c0, c1⟩; replace HK := hq; clear hq)
    | (go_at_call 9; with_reducible refine (words288 HK).mono ?_; rintro e w4 ⟨rfl, hq, d0, d1⟩; replace HK := hq; clear hq)
    | (go_at_call 10; with_reducible refine (ev_lit _ gg (kst_g HK)).mono ?_; rintro e w5 ⟨ea, ec, rfl, hq⟩; replace HK := kst_b HK hq; clear hq))
  have hbE := alloc_k w5 (.cells #[.int .u32 3, .int .u32 7, .slice ea 2 ec, .int .u32 9] 50)
  replace HK := kst_b HK hbE
  have hsE : w5.heap.size + 1 = (w5.alloc (.cells #[.int .u32 3, .int .u32 7, .slice ea 2 ec, .int .u32 9] 50)).heap.size := by simp
  rw [hsE]
  clear hbE hsE c0 c1 d0 d1
  generalize w5.alloc (.cells #[.int .u32 3, .int .u32 7, .slice ea 2 ec, .int .u32 9] 50) = V at *
  refine (ev_shape V gg (kst_g HK)).mono ?_
  rintro e w6 ⟨rfl, hq⟩
  replace HK := kst_b HK hq
  clear hq
  go_wp2_with (first
    | (go_at_call 14; with_reducible refine (ap_lit HK).mono ?_; rintro e w7 ⟨rfl, hq⟩; replace HK := hq; clear hq)
    | (go_at_call 20; with_reducible refine (ld254 HK).mono ?_; rintro e w8 ⟨rfl, hq⟩; replace HK := hq; clear hq)
    | (go_at_call 6; with_reducible refine (new77 _).mono ?_; rintro e w9 ⟨rfl, hq⟩; replace HK := kst_b HK hq; clear hq)
    | (go_at_call 6; with_reducible refine (newbig _).mono ?_; rintro e w10 ⟨rfl, hq⟩; replace HK := kst_b HK hq; clear hq)
    | (go_at_call 11; with_reducible refine (less73 _ gg (kst_g HK)).mono ?_; rintro e w11 ⟨gl, rfl, hGl, hq⟩; replace HK := kst_b HK hq; clear hq)
    | (go_at_call 15; with_reducible refine (within_true gl gg _ _ _ hGl (kst_g HK) within73).mono ?_; rintro e w12 ⟨rfl, hq⟩; replace HK := kst_b HK hq; replace hGl := hGl.kept hq rfl; clear hq)
    | (go_at_call 15; with_reducible refine (within_false gg gl _ _ _ (kst_g HK) hGl nwithin73).mono ?_; rintro e w13 ⟨rfl, hq⟩; replace HK := kst_b HK hq; replace hGl := hGl.kept hq rfl; clear hq)
    | (go_at_call 12; with_reducible refine (glen73 gl _ hGl).mono ?_; rintro e w14 ⟨ag, cg, rfl, hq⟩; replace HK := kst_b HK hq; clear hq))
  go_ret
  exact ⟨rfl, HK.out.bel⟩
end Go.Proofs.YtcmfephbhbgoiaaDoor
