import Derived.Test.YtcmfephbhbgoiaaDoorJNo
import Derived.Test.YtcmfephbhbgoiaaDoorJWd
import Derived.Test.YtcmfephbhbgoiaaDoorJWr
import Derived.BigQuiet
import Derived.Deep.RegionHeld3
namespace Go.Proofs.YtcmfephbhbgoiaaDoor
open Go.RowKit Go.WideShapes
set_option maxRecDepth 100000
theorem four_blk (w : World) (o1 o2 o3 o4 : Obj) : ((((w.alloc o1).alloc o2).alloc o3).alloc o4).heap[w.heap.size]? = some o1 ∧ ((((w.alloc o1).alloc o2).alloc o3).alloc o4).heap[w.heap.size + 1]? = some o2 ∧ ((((w.alloc o1).alloc o2).alloc o3).alloc o4).heap[w.heap.size + 1 + 1]? = some o3
    ∧ ((((w.alloc o1).alloc o2).alloc o3).alloc o4).heap[w.heap.size + 1 + 1 + 1]? = some o4 ∧ ((((w.alloc o1).alloc o2).alloc o3).alloc o4).heap.size = w.heap.size + 1 + 1 + 1 + 1 ∧ Below w.heap.size w ((((w.alloc o1).alloc o2).alloc o3).alloc o4) := by
  have hb : Below w.heap.size w ((((w.alloc o1).alloc o2).alloc o3).alloc o4) := ((((Below.refl w.heap.size w).alloc (Nat.le_refl _) o1).alloc (by simp) o2).alloc (by simp; omega) o3).alloc (by simp; omega) o4
  refine ⟨?_, ?_, ?_, ?_, by simp, hb⟩
  · rw [Below.heap_alloc _ _ _ (by simp; omega), Below.heap_alloc _ _ _ (by simp; omega), Below.heap_alloc _ _ _ (by simp)]
    exact (MapKept.heap_alloc w o1).1
  · rw [Below.heap_alloc _ _ _ (by simp), Below.heap_alloc _ _ _ (by simp)]
    have := (MapKept.heap_alloc (w.alloc o1) o2).1
    simpa using this
  · rw [Below.heap_alloc _ _ _ (by simp)]
    have := (MapKept.heap_alloc ((w.alloc o1).alloc o2) o3).1
    simpa using this
  · have := (MapKept.heap_alloc (((w.alloc o1).alloc o2).alloc o3) o4).1
    simpa using this
/-- what abides in the law GateNone -/
def NSt (w : World) (v : Int) (ao : Option Addr) (lo co gg a g cap : Nat) (W : World) : Prop :=
  Below w.heap.size w W ∧ W.heap[w.heap.size]? = some (.cells #[.int .u32 v, .slice ao lo co] 27) ∧ NoG W (.pointer (some ⟨w.heap.size + 1, 0, none⟩)) ∧ NoM W (.pointer (some ⟨w.heap.size + 1 + 1, 0, none⟩)) ∧ GtS W gg (ofL [(5, 1)]) ∧ MemS W a g cap (List.replicate 256 0) false (.slice none 0 0) [] ∧ Tab W ∧ w.heap.size + 1 + 1 < W.heap.size ∧ w.heap.size ≤ a ∧ w.heap.size ≤ g
theorem NSt.below {w : World} {v : Int} {ao : Option Addr} {lo co gg a g cap : Nat} {W W' : World} (h : NSt w v ao lo co gg a g cap W) (h1 : 1 < w.heap.size) (hb : Below W.heap.size W W') : NSt w v ao lo co gg a g cap W' := by
  obtain ⟨b1, b2, b3, b4, b5, b6, b7, b8, b9⟩ := h
  have hs := hb.size
  exact ⟨gbt hb b1, (hb.block _ (by omega)).trans b2, b3.below hb, b4.below hb, b5.kept hb rfl, b6.kept (S := fun _ => False) (Kp.ofBelow hb) (fun _ _ h => h), b7.below hb (by omega), by omega, b9⟩
theorem NSt.d0 {w : World} {v : Int} {ao : Option Addr} {lo co gg a g cap : Nat} {W : World} (h : NSt w v ao lo co gg a g cap W) : W.cell? ⟨w.heap.size, 0, none⟩ = some (.int .u32 v) ∧ W.cell? ⟨w.heap.size, 1, none⟩ = some (.slice ao lo co) ∧ w.heap.size < W.heap.size := by
  obtain ⟨b1, b2, b3, b4, b5, b6, b7, b8, b9⟩ := h
  exact ⟨gobj_cell b2 0, gobj_cell b2 1, by omega⟩
theorem okG51 : okG [(5, 1)] := ⟨by decide, fun k hk => by have : k = 0 := by simp at hk; omega
                                                           subst this; decide⟩
theorem new51 (W : World) (b : Nat) (hb : b < W.heap.size) (c0 : W.cell? ⟨b, 0, none⟩ = some (.int .u32 5)) (c1 : W.cell? ⟨b, 1, none⟩ = some (.int .i64 1)) :
    Calls Tryd.prog 6 #[.slice (some ⟨b, 0, none⟩) 1 1] W fun e w' => ∃ g, e = .returned (.tuple #[.pointer (some ⟨g, 0, none⟩), .int .i64 0]) ∧ Below W.heap.size W w' ∧ GtS w' g (ofL [(5, 1)]) :=
  (new_any (some ⟨b, 0, none⟩) 1 [(5, 1)] W (by simp) (fun _ => ⟨b, 0, rfl, hb, fun j hj => by
    have : j = 0 := by simp at hj; omega
    subst this
    exact ⟨c0, c1⟩⟩)).mono fun e w' h => by
    obtain ⟨hb, g, he, hg, hG⟩ := newp_ok h okG51
    exact ⟨g, he, hb, hG⟩
/-- a list of two pointers, nil and another, that is gone through -/
def TwoP (b x : Nat) (W : World) : Prop := b < W.heap.size ∧ W.cell? ⟨b, 0, none⟩ = some (.pointer none) ∧ W.cell? ⟨b, 1, none⟩ = some (.pointer (some ⟨x, 0, none⟩))
theorem TwoP.below {b x : Nat} {W W' : World} (h : TwoP b x W) (hb : Below W.heap.size W W') : TwoP b x W' := by
  obtain ⟨h1, h2, h3⟩ := h
  have := hb.size
  exact ⟨by omega, (hb.cell (p := ⟨b, 0, none⟩) h1).trans h2, (hb.cell (p := ⟨b, 1, none⟩) h1).trans h3⟩
theorem TwoP.at {b x : Nat} {W : World} (h : TwoP b x W) {k : Nat} (hk : k < 2) : ∃ p, W.cell? ⟨b, k, none⟩ = some p ∧ (p = .pointer none ∨ p = .pointer (some ⟨x, 0, none⟩)) := by
  rcases (show k = 0 ∨ k = 1 by omega) with rfl | rfl
  · exact ⟨_, h.2.1, .inl rfl⟩
  · exact ⟨_, h.2.2, .inr rfl⟩
theorem nst_b {w : World} {v : Int} {ao : Option Addr} {lo co gg a g cap : Nat} {W W' : World} (h1 : 1 < w.heap.size) (h : Hid (NSt w v ao lo co gg a g cap W)) (hb : Below W.heap.size W W') : Hid (NSt w v ao lo co gg a g cap W') := h.out.below h1 hb
theorem two_b {b x : Nat} {W W' : World} (h : Hid (TwoP b x W)) (hb : Below W.heap.size W W') : Hid (TwoP b x W') := h.out.below hb
theorem nog_b {W W' : World} {p : Value} (h : Hid (NoG W p)) (hb : Below W.heap.size W W') : Hid (NoG W' p) := h.out.below hb
theorem nst_g {w : World} {v : Int} {ao : Option Addr} {lo co gg a g cap : Nat} {W : World} (h : Hid (NSt w v ao lo co gg a g cap W)) : GtS W gg (ofL [(5, 1)]) := h.out.2.2.2.2.1
theorem nom_b {W W' : World} {p : Value} (h : Hid (NoM W p)) (hb : Below W.heap.size W W') : Hid (NoM W' p) := h.out.below hb
theorem alloc_b (W : World) (o : Obj) : Below W.heap.size W (W.alloc o) := (Below.refl _ _).alloc (Nat.le_refl _) o
theorem nwordsm5 (g : Nat) (m : Value) (s : Int) (w : World) (hG : GtS w g (ofL [(5, 1)])) (h : NoM w m) : Calls Tryd.prog 9 #[.pointer (some ⟨g, 0, none⟩), m, .int .u32 s, .int .u32 5] w fun e w' => e = .returned (.tuple #[.slice none 0 0, .bool false]) ∧ w' = w :=
  nwordsm g (ofL [(5, 1)]) m s 5 w hG h (by decide)
theorem words5 (gg a g cap : Nat) (w : World) (hG : GtS w gg (ofL [(5, 1)])) (h : MemS w a g cap (List.replicate 256 0) false (.slice none 0 0) []) (hT : Tab w) :
    Calls Tryd.prog 9 #[.pointer (some ⟨gg, 0, none⟩), .pointer (some ⟨a, 0, none⟩), .int .u32 0, .int .u32 5] w fun e w' => e = .returned (.tuple #[.slice (some ⟨w.heap.size, 0, none⟩) 1 1, .bool true]) ∧ w'.cell? ⟨w.heap.size, 0, none⟩ = some (.int .u32 0) ∧ GtS w' gg (ofL [(5, 1)]) ∧ Kp (fun k => k = a ∨ k = g) w w' :=
  (words_any gg (ofL [(5, 1)]) a g cap 0 5 1 (List.replicate 256 0) (.slice none 0 0) [] w hG h (by simp) hT (by decide) (by decide) (by decide)).mono fun e w' ⟨he, ⟨tv', h1, h2, h3⟩, h4⟩ => by
    refine ⟨he, ?_, hG.kp h h3, h3.mono (fun i _ e => ?_)⟩
    · have := h4.cellAt 0 (by decide)
      rw [this]
      rfl
    · rcases e with e | e | e
      · exact .inl e
      · exact .inr e
      · simp [Value.ownBlock] at e
set_option maxHeartbeats 4000000 in
theorem gate_none (a0 a2 ao : Option Addr) (l0 c0 l2 c2 lo co : Nat) (n1 : Nat) (v : Int) (w : World) (hT : Tab w) (h1 : 1 < w.heap.size) :
    Calls Tryd.prog 3 #[.slice a0 l0 c0, .int .u32 n1, .slice a2 l2 c2, .agg #[.int .u32 v, .slice ao lo co]] w fun e w' => e = .returned (.bool true) ∧ Below w.heap.size w w' := by
  go_enter Tryd.func3, Tryd.ntmps3
  go_wp2_with fail
  obtain ⟨f1, f2, f3, f4, f5, f6⟩ := four_blk w (.cells #[.int .u32 v, .slice ao lo co] 27) (.cells #[.pointer none, .map none] 31) (.cells #[.pointer none, .slice none 0 0, .bool false, .slice none 0 0] 36) (.cells #[.int .u32 5, .int .i64 1] 41)
  generalize hW4 : (((w.alloc (.cells #[.int .u32 v, .slice ao lo co] 27)).alloc (.cells #[.pointer none, .map none] 31)).alloc (.cells #[.pointer none, .slice none 0 0, .bool false, .slice none 0 0] 36)).alloc (.cells #[.int .u32 5, .int .i64 1] 41) = W4 at *
  clear hW4
  refine (new51 W4 _ (by omega) (gobj_cell f4 0) (gobj_cell f4 1)).mono ?_
  rintro e w5 ⟨gg, rfl, hb5, hG5⟩
  have hM8 := new8_any w5
  have hb5s := hb5.size
  go_wp2_with (go_at_call 7; with_reducible refine hM8.mono ?_; rintro e w6 ⟨a, g, cap, rfl, hMs, hb6, hla, hlg⟩)
  have hSt : NSt w v ao lo co gg a g cap w6 := by
    have hb6s := hb6.size
    have hbb := gbt hb6 hb5
    exact ⟨gbt hbb f6, (hbb.block _ (by omega)).trans f1, .inr ⟨_, rfl, by omega, (hbb.cell (p := ⟨w.heap.size + 1, 0, none⟩) (by show w.heap.size + 1 < _; omega)).trans (gobj_cell f2 0)⟩, .inr ⟨_, rfl, by omega, (hbb.cell (p := ⟨w.heap.size + 1 + 1, 0, none⟩) (by show w.heap.size + 1 + 1 < _; omega)).trans (gobj_cell f3 0)⟩,
      hG5.kept hb6 rfl, hMs, (hT.below f6 h1).below hbb (by omega), by omega, by omega, by omega⟩
  clear f1 f2 f3 f4 f5 f6 hb5 hG5 hM8 hMs hb6 hla hlg hb5s
  have hb7 := fun o => (Below.refl w6.heap.size w6).alloc (Nat.le_refl _) o
  have hTw : TwoP w6.heap.size (w.heap.size + 1) (w6.alloc (.cells #[.pointer none, .pointer (some ⟨w.heap.size + 1, 0, none⟩)] 28)) := ⟨by simp, new_cell w6 _ _ 0, new_cell w6 _ _ 1⟩
  go_loopw [16] (fun i wr => ∃ k : Nat, i = .int .i64 k ∧ k ≤ 2 ∧ NSt w v ao lo co gg a g cap wr ∧ TwoP w6.heap.size (w.heap.size + 1) wr) (fun i _ => 2 - (intOf i).toNat)
  case atStart => exact ⟨0, rfl, Nat.zero_le _, hSt.below h1 (hb7 _), hTw⟩
  case round =>
    obtain ⟨k, rfl, hk, hS, hTp⟩ := hrel
    clear hSt hb7 hTw
    by_cases hk2 : k < 2
    · have hd : decide ((k : Int) < 2) = true := by simp; omega
      obtain ⟨p, hp, hpp⟩ := hTp.at hk2
      have hNo : NoG wr p := by
        rcases hpp with rfl | rfl
        · exact .inl rfl
        · exact hS.2.2.1
      clear hpp
      obtain ⟨d0, d1, dz⟩ := hS.d0
      have HS := fjhid hS
      have HT := fjhid hTp
      have HN := fjhid hNo
      clear hS hTp hNo
      go_wp2_with (first
        | (go_at_call 8; with_reducible refine (ngranted p _ _ HN.out).mono ?_; rintro e wq ⟨rfl, hq⟩; subst wq)
        | (go_at_call 9; with_reducible refine (nwords p _ _ _ _ HN.out).mono ?_; rintro e wq ⟨rfl, hq⟩; subst wq)
        | (go_at_call 10; with_reducible refine (nevent p _ _ _ _ _ _ HN.out).mono ?_; rintro e wq ⟨rfl, hq⟩; replace HS := nst_b h1 HS hq; replace HT := two_b HT hq; replace HN := nog_b HN hq; obtain ⟨d0, d1, dz⟩ := HS.out.d0))
      have hbA := alloc_b wq (.cells #[.int .u32 0, .int .u32 0, .slice none 0 0, .int .u32 0] 50)
      replace HS := nst_b h1 HS hbA
      replace HT := two_b HT hbA
      replace HN := nog_b HN hbA
      go_wp2_with (first
        | (go_at_call 11; with_reducible refine (nless p _ _ HN.out).mono ?_; rintro e wq2 ⟨rfl, hq⟩; subst wq2)
        | (go_at_call 12; with_reducible refine (ngrants p _ HN.out).mono ?_; rintro e wq2 ⟨rfl, hq⟩; subst wq2)
        | (go_at_call 13; with_reducible refine (samee_nil _).mono ?_; rintro e w9 ⟨rfl, hq⟩; replace HS := nst_b h1 HS hq; replace HT := two_b HT hq; replace HN := nog_b HN hq; obtain ⟨d0, d1, dz⟩ := HS.out.d0)
        | (go_at_call 14; with_reducible refine (napply p _ _ _ _ HN.out).mono ?_; rintro e w10 ⟨rfl, hq⟩; replace HS := nst_b h1 HS hq; replace HT := two_b HT hq; replace HN := nog_b HN hq; obtain ⟨d0, d1, dz⟩ := HS.out.d0)
        | (go_at_call 15; with_reducible refine (nwithin1 p _ _ HN.out).mono ?_; rintro e wq2 ⟨rfl, hq⟩; subst wq2)
        | (go_at_call 15; with_reducible refine (nwithin2 gg (ofL [(5, 1)]) p _ (nst_g HS) HN.out).mono ?_; rintro e wq2 ⟨rfl, hq⟩; subst wq2))
      go_roundw
      case rel => exact ⟨k + 1, by go_num, hk2, HS.out, HT.out⟩
      case measure => simp [intOf]; omega
    · have hd : decide ((k : Int) < 2) = false := by simp; omega
      clear hTp
      rename World => V
      have hTw : TwoP V.heap.size (w.heap.size + 1 + 1) (V.alloc (.cells #[.pointer none, .pointer (some ⟨w.heap.size + 1 + 1, 0, none⟩)] 32)) := ⟨by simp, new_cell V _ _ 0, new_cell V _ _ 1⟩
      have hSt := hS.below h1 (alloc_b V (.cells #[.pointer none, .pointer (some ⟨w.heap.size + 1 + 1, 0, none⟩)] 32))
      clear hS
      go_wp2
      go_loopw [27] (fun i wr => ∃ m : Nat, i = .int .i64 m ∧ m ≤ 2 ∧ NSt w v ao lo co gg a g cap wr ∧ TwoP V.heap.size (w.heap.size + 1 + 1) wr) (fun i _ => 2 - (intOf i).toNat)
      case atStart => exact ⟨0, rfl, Nat.zero_le _, hSt, hTw⟩
      case round =>
        obtain ⟨m, rfl, hm, hS, hTp⟩ := hrel
        clear hSt hTw
        by_cases hm2 : m < 2
        · have hd2 : decide ((m : Int) < 2) = true := by simp; omega
          obtain ⟨p, hp, hpp⟩ := hTp.at hm2
          have hNo : NoM wr p := by
            rcases hpp with rfl | rfl
            · exact .inl rfl
            · exact hS.2.2.2.1
          clear hpp
          obtain ⟨d0, d1, dz⟩ := hS.d0
          have HS := fjhid hS
          have HT := fjhid hTp
          have HN := fjhid hNo
          clear hS hTp hNo
          go_wp2_with (go_at_call 9; with_reducible refine (nwordsm5 gg p _ _ (nst_g HS) HN.out).mono ?_; rintro e wq ⟨rfl, hq⟩; subst wq)
          have hbV := HT.out.1
          have HC : Hid (∀ W, Below wr.heap.size wr W → W.cell? ⟨V.heap.size, m, none⟩ = some p ∧ W.cell? ⟨w.heap.size, 0, none⟩ = some (.int .u32 v) ∧ W.cell? ⟨w.heap.size, 1, none⟩ = some (.slice ao lo co)) := fun W hW => ⟨(hW.cell (p := ⟨V.heap.size, m, none⟩) hbV).trans hp, (hW.cell (p := ⟨w.heap.size, 0, none⟩) dz).trans d0, (hW.cell (p := ⟨w.heap.size, 1, none⟩) dz).trans d1⟩
          have HA : Hid (∀ W, Below wr.heap.size wr W → Calls Tryd.prog 14 #[.pointer (some ⟨gg, 0, none⟩), p, .agg #[.int .u32 v, .slice ao lo co]] W fun e w' => e = .returned (.int .i64 1) ∧ Below W.heap.size W w') := fun W hW => napplym gg (ofL [(5, 1)]) p v (.slice ao lo co) W ((nst_g HS).kept hW rfl) (HN.out.below hW)
          have HB : Hid (Below wr.heap.size wr wr) := Below.refl _ _
          have HBd : Hid (Below wr.heap.size wr wr.drew) := drew_belowW wr 1
          clear d0 d1 hp
          have hmI : (m : Int) < 2 := by omega
          go_region_held3 (fun U => U.cell? ⟨V.heap.size, m, none⟩ = some p ∧ U.cell? ⟨w.heap.size, 0, none⟩ = some (.int .u32 v) ∧ U.cell? ⟨w.heap.size, 1, none⟩ = some (.slice ao lo co)) (first | exact HC.out _ HBd.out | exact HC.out _ HB.out | exact HC.out _ (gbt hb2 HBd.out)) (first
            | (go_at_call 14; with_reducible refine (HA.out _ HBd.out).mono ?_; rintro e w2 ⟨rfl, hb2⟩))
          go_wp2
          go_roundw
          case rel => exact ⟨m + 1, by go_num, hm2, HS.out.below h1 (gbt hb2 HBd.out), HT.out.below (gbt hb2 HBd.out)⟩
          case measure => simp [intOf]; omega
        · have hd2 : decide ((m : Int) < 2) = false := by simp; omega
          have hX := hS.1
          have hW5 := words5 gg a g cap wr hS.2.2.2.2.1 hS.2.2.2.2.2.1 hS.2.2.2.2.2.2.1
          have hbs := hX.size
          have hft := hS.2.2.2.2.2.2.2.2
          clear hS hTp
          go_wp2_with (go_at_call 9; with_reducible refine hW5.mono ?_; rintro e w2 ⟨rfl, hc2, hG2, hk2⟩)
          have hX2 : Below w.heap.size w w2 := hX.trans (hk2.below hbs (fun i e => by rcases e with e | e <;> omega))
          have hWi := within_any gg gg (ofL [(5, 1)]) (ofL [(5, 1)]) w2 hG2 hG2
          have hWi2 : Calls Tryd.prog 15 #[.pointer (some ⟨gg, 0, none⟩), .pointer (some ⟨gg, 0, none⟩)] w2 fun e w' => e = .returned (.bool true) ∧ Below w2.heap.size w2 w' := hWi.mono fun e w' ⟨t, he, ht, hb⟩ => by
            rw [ht.2 (fun _ _ h => h)] at he; exact ⟨he, hb⟩
          clear hWi hW5 hG2 hk2
          go_wp2_with (go_at_call 15; with_reducible refine hWi2.mono ?_; rintro e w3 ⟨rfl, hb3⟩)
          go_ret
          exact ⟨rfl, gbt hb3 hX2⟩
end Go.Proofs.YtcmfephbhbgoiaaDoor
