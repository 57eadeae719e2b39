import Derived.Test.YtgbpfejodpplbaaGreatDoorCPNk
import Derived.Test.YtgbpfejodpplbaaGreatDoorCPQb
import Derived.Test.YtgbpfejodpplbaaGreatDoorCPCu
import Derived.Test.YtgbpfejodpplbaaGreatDoorCIOb
namespace Go.Proofs.YtgbpfejodpplbaaGreatDoor
open Go.RowKit Go.WideShapes Go.Shelf
set_option maxRecDepth 100000

abbrev prL (L : List (Nat × Nat)) : List (Nat × Nat × Nat) := prs L (bgs L)
/-- code, jumps and names that may be -/
structure FdG (L : List (Nat × Nat)) (J : List Nat) (M : List (ByteArray × Nat)) : Prop where
  enc : encX L = 0
  fst : isEn L 0 = true
  ck : ∀ k, k < (prL L).length → OkP L (prL L) k
  jm : ∀ j, j < J.length → okJ L J j = true
  nm : ∀ j, j < M.length → okN L M j = true
/-- the first fault and its place -/
def FdB (L : List (Nat × Nat)) (J : List Nat) (M : List (ByteArray × Nat)) (i x : Nat) : Prop :=
  (encX L ≠ 0 ∧ i = encI L ∧ x = encX L) ∨ (encX L = 0 ∧ isEn L 0 = false ∧ i = 0 ∧ x = 130) ∨
  (encX L = 0 ∧ isEn L 0 = true ∧ CkR L (prL L) i x) ∨ (encX L = 0 ∧ isEn L 0 = true ∧ CkR L (prL L) 0 0 ∧ JmR L J i x) ∨
  (encX L = 0 ∧ isEn L 0 = true ∧ CkR L (prL L) 0 0 ∧ JmR L J 0 0 ∧ NmR L M i x)
theorem encX_len {L : List (Nat × Nat)} (h : encX L = 0) : L.length ≤ 16384 := by
  unfold encX at h
  by_cases hl : 16384 < L.length
  · rw [if_pos hl] at h
    cases h
  · omega
theorem ckR0 {L : List (Nat × Nat)} {Ps : List (Nat × Nat × Nat)} {i : Nat} (h : CkR L Ps i 0) : i = 0 ∧ ∀ k, k < Ps.length → OkP L Ps k := by
  rcases h with ⟨h1, _, h2⟩ | ⟨h1, _⟩
  · exact ⟨h1, h2⟩
  · exact absurd rfl h1
theorem jmR0 {L : List (Nat × Nat)} {J : List Nat} {i : Nat} (h : JmR L J i 0) : i = 0 ∧ ∀ k, k < J.length → okJ L J k = true := by
  rcases h with ⟨h1, _, h2⟩ | ⟨h1, _⟩
  · exact ⟨h1, h2⟩
  · cases h1
theorem nmR0 {L : List (Nat × Nat)} {M : List (ByteArray × Nat)} {i : Nat} (h : NmR L M i 0) : i = 0 ∧ ∀ k, k < M.length → okN L M k = true := by
  rcases h with ⟨h1, _, h2⟩ | ⟨h1, _⟩
  · exact ⟨h1, h2⟩
  · cases h1
/-- what Find leaves -/
def FdP (w : World) (L : List (Nat × Nat)) (J : List Nat) (M : List (ByteArray × Nat)) (e : Ending) (w' : World) : Prop :=
  Below w.heap.size w w' ∧ ((∃ i x : Nat, e = .returned (.tuple #[.pointer none, .int .i64 i, .int .i64 x]) ∧ x ≠ 0 ∧ FdB L J M i x) ∨
    (∃ (B pp p1 g1 p2 g2 : Nat) (lv : Value) (A C : List Nat), e = .returned (.tuple #[.pointer (some ⟨pp, 0, none⟩), .int .i64 0, .int .i64 0]) ∧ PrS w' B pp p1 g1 p2 g2 L.length lv (prL L) A C ∧ (∀ y, hasW A y = isEn L y) ∧ (∀ y, hasW C y = decide (y ∈ J)) ∧ (∀ k ∈ [pp, p1, g1, p2, g2], w.heap.size ≤ k) ∧ w.heap.size ≤ B ∧ FdG L J M))
set_option maxHeartbeats 4000000 in
theorem find_any (ao aj an : Option Addr) (cap capj capn : Nat) (L : List (Nat × Nat)) (J : List Nat) (M : List (ByteArray × Nat)) (w : World) (hn : L.length ≤ 9223372036854775807) (hJn : J.length ≤ 9223372036854775807) (hMn : M.length ≤ 9223372036854775807) (hwf : Wfc L) (hJ : ∀ z ∈ J, z < 4294967296) (hM : ∀ j, j < M.length → (M.getD j (.empty, 0)).2 < 4294967296)
    (hr : CRd w ao L w.heap.size) (hrJ : JRd w aj J w.heap.size) (hrN : NRd w an M w.heap.size) (hT : TabW w) (hp : 0 < w.heap.size) :
    Calls Tryz.prog 11 #[.slice ao L.length cap, .slice aj J.length capj, .slice an M.length capn] w (FdP w L J M) := by
  have hEn : Calls Tryz.prog 23 #[.slice ao L.length cap] w fun e w' => (∃ v, e = .returned (.tuple #[v, .int .i64 (encI L : Nat), .int .i64 (encX L : Nat)])) ∧ Below w.heap.size w w' := (encode_any ao cap L w hn hwf hr).mono (by rintro e w' ⟨v, rfl, _, hb⟩; exact ⟨⟨v, rfl⟩, hb⟩)
  have HR := hidS hr
  clear hr
  by_cases hx : encX L = 0
  · have hl := encX_len hx
    have HX := hidS hx
    rw [hx, show ((0 : Nat) : Int) = 0 from rfl] at hEn
    generalize ((encI L : Nat) : Int) = ei at hEn
    clear hx
    cases hE : isEn L 0 with
    | false =>
      have HF : Hid (FdB L J M 0 130) := hidS (.inr (.inl ⟨HX.out, hE, rfl, rfl⟩))
      by_cases hz : L.length = 0
      · rw [hz] at hEn ⊢
        clear hz hn hl
        go_enter Tryz.func11, Tryz.ntmps11
        go_wp2_with (go_at_call 23; with_reducible refine hEn.mono ?_; rintro e w1 ⟨⟨v, rfl⟩, hb1⟩)
        refine bodyPost_ret (results_tmp3 rfl _ _ _) rfl ?_
        exact ⟨hb1, .inl ⟨0, 130, rfl, by decide, HF.out⟩⟩
      · have hLI : ¬ (L.length : Int) = 0 := by omega
        obtain ⟨b, off, rfl, hb, hc⟩ := HR.out (by omega)
        have v0 := (hc 0 (by omega)).1
        simp only [Nat.zero_mul, Nat.add_zero] at v0
        have hop : ¬ (((L.getD 0 (0, 0)).1 : Nat) : Int) = 3 := by
          intro q
          have : (L.getD 0 (0, 0)).1 = 3 := by omega
          have h2 : isEn L 0 = true := by
            unfold isEn
            rw [this, decide_eq_true (by omega : 0 < L.length)]
            rfl
          rw [h2] at hE
          cases hE
        generalize (L.getD 0 (0, 0)).1 = op at v0 hop
        have hopB : ((op : Int) != 3) = true := by simp [hop]
        have hLB : ((L.length : Int) == 0) = false := beq_eq_false_iff_ne.2 hLI
        have HV0 : Hid (∀ W, Below w.heap.size w W → W.cell? ⟨b, off, none⟩ = some (.int .u8 (op : Int))) := hidS (fun W hW => (hW.cell (p := ⟨b, off, none⟩) hb).trans v0)
        clear hc v0
        have h0I : (0 : Int) < (L.length : Int) := by omega
        go_enter Tryz.func11, Tryz.ntmps11
        go_wp2_with (go_at_call 23; with_reducible refine hEn.mono ?_; rintro e w1 ⟨⟨v, rfl⟩, hb1⟩; have v0 := HV0.out w1 hb1)
        refine bodyPost_ret (results_tmp3 rfl _ _ _) rfl ?_
        exact ⟨hb1, .inl ⟨0, 130, rfl, by decide, HF.out⟩⟩
    | true =>
      have hpos : 0 < L.length := by
        unfold isEn at hE
        simp at hE
        exact hE.1
      have hop : (L.getD 0 (0, 0)).1 = 3 := by
        unfold isEn at hE
        simp at hE
        simp [hE.2]
      have hLI : ¬ (L.length : Int) = 0 := by omega
      have hLB : ((L.length : Int) == 0) = false := beq_eq_false_iff_ne.2 hLI
      have h0I : (0 : Int) < (L.length : Int) := by omega
      have HV0 : Hid (∃ b off, ao = some ⟨b, off, none⟩ ∧ ∀ W, Below w.heap.size w W → W.cell? ⟨b, off, none⟩ = some (.int .u8 3)) := hidS (by
        obtain ⟨b, off, e, hb, hc⟩ := HR.out hpos
        refine ⟨b, off, e, fun W hW => (hW.cell (p := ⟨b, off, none⟩) hb).trans ?_⟩
        have := (hc 0 hpos).1
        rw [hop] at this
        simpa using this)
      have HCut : Hid (∀ W, Below w.heap.size w W → Calls Tryz.prog 24 #[.slice ao L.length cap] W fun e w' => ∃ (B pp p1 g1 p2 g2 : Nat) (lv : Value) (A : List Nat), e = .returned (.pointer (some ⟨pp, 0, none⟩)) ∧ PrS w' B pp p1 g1 p2 g2 L.length lv (prL L) A (List.replicate ((L.length + 63) / 64) 0) ∧ (∀ x, hasW A x = isEn L x) ∧ (∀ k ∈ [pp, p1, g1, p2, g2], W.heap.size ≤ k) ∧ W.heap.size ≤ B ∧ Below W.heap.size W w') := hidS (fun W hW => cut_any ao cap L W hl (Cde.mono (Cde.below HR.out hW) hW.size) (hT.below hW hp) (Nat.lt_of_lt_of_le hp hW.size))
      have HCd : Hid (∀ W, Below w.heap.size w W → Cde W ao L W.heap.size) := hidS (fun W hW => Cde.mono (Cde.below HR.out hW) hW.size)
      obtain ⟨b, off, rfl, HVc⟩ := HV0.out
      have HVC := hidS HVc
      clear HVc HV0 HR
      go_enter Tryz.func11, Tryz.ntmps11
      go_wp2_with (first
        | (go_at_call 23; with_reducible refine hEn.mono ?_; rintro e w1 ⟨⟨v, rfl⟩, hb1⟩; have v0 := HVC.out w1 hb1)
        | (go_at_call 24; refine (HCut.out _ hb1).mono ?_; rintro e w2 ⟨B, pp, p1, g1, p2, g2, lv, A, rfl, hP2, hA2, hk2, hB2, hb2⟩))
      have hb12 : Below w.heap.size w w2 := btP hb1 hb2
      have hz12 := hb1.size
      have hPl : (prL L).length ≤ 16384 := by rw [prs_len]; exact Nat.le_trans (els_le _ _) hl
      refine (checkc_any (some ⟨b, off, none⟩) cap L w2 hl (fun j hj => hwf.at hj) (HCd.out w2 hb12) hPl (fun k hk => by rw [prs_get L _ k (by rw [← prs_len L]; exact hk)]; exact bgs_end _) hP2).mono ?_
      rintro e w3 ⟨i3, x3, rfl, hck, hb3⟩
      have hP3 := hP2.below hb3
      have hb13 := btP hb12 hb3
      by_cases hx3 : x3 = 0
      · subst hx3
        obtain ⟨rfl, hck0⟩ := ckR0 hck
        rw [show ((0 : Nat) : Int) = 0 from rfl]
        have HTJ := takej_any w.heap.size aj capj J w3 hl hE hA2 hJn hJ (hrJ.below hb13) hb13.size (fun k hk => by have := hk2 k hk; omega) hP3
        clear v0
        go_wp2_with fail
        refine HTJ.mono ?_
        rintro e w4 ⟨i4, x4, rfl, hjm, hb4, C, hP4, hC4⟩
        have hb14 := hb13.trans hb4
        by_cases hx4 : x4 = 0
        · subst hx4
          obtain ⟨rfl, hjm0⟩ := jmR0 hjm
          rw [show ((0 : Nat) : Int) = 0 from rfl]
          have HNM := checkn_any (L := L) an capn M w4 hA2 hMn hM (fun hp => by obtain ⟨b, off, e1, e2, e3⟩ := (hrN.below hb14) hp; exact ⟨b, off, e1, Nat.lt_of_lt_of_le e2 hb14.size, e3⟩) hP4
          go_wp2_with fail
          refine HNM.mono ?_
          rintro e w5 ⟨i5, x5, rfl, hnm, hb5⟩
          have hP5 := hP4.below hb5
          have hb15 := btP hb14 hb5
          by_cases hx5 : x5 = 0
          · subst hx5
            obtain ⟨rfl, hnm0⟩ := nmR0 hnm
            rw [show ((0 : Nat) : Int) = 0 from rfl]
            have HF : Hid (FdP w L J M (.returned (.tuple #[.pointer (some ⟨pp, 0, none⟩), .int .i64 0, .int .i64 0])) w5) := hidS ⟨hb15, .inr ⟨B, pp, p1, g1, p2, g2, lv, A, C, rfl, hP5, hA2, hC4 (by trivial), fun k hk => Nat.le_trans hz12 (hk2 k hk), Nat.le_trans hz12 hB2, ⟨HX.out, hE, hck0, hjm0, hnm0⟩⟩⟩
            clear hP5 hP4 hP3 hP2 hA2 hC4 hk2 hck hjm hnm hck0 hjm0 hnm0 hb1 hb2 hb3 hb4 hb5 hb12 hb13 hb14 hb15
            go_wp2_with fail
            refine bodyPost_ret (results_tmp3 rfl _ _ _) rfl ?_
            exact HF.out
          · have hxI : ¬ (x5 : Int) = 0 := by omega
            have HF : Hid (FdP w L J M (.returned (.tuple #[.pointer none, .int .i64 i5, .int .i64 x5])) w5) := hidS ⟨hb15, .inl ⟨i5, x5, rfl, hx5, .inr (.inr (.inr (.inr ⟨HX.out, hE, hck, hjm, hnm⟩)))⟩⟩
            clear hP5 hP4 hP3 hP2 hA2 hC4 hk2 hck hjm hnm hck0 hjm0 hb1 hb2 hb3 hb4 hb5 hb12 hb13 hb14 hb15
            go_wp2_with fail
            refine bodyPost_ret (results_tmp3 rfl _ _ _) rfl ?_
            exact HF.out
        · have hxI : ¬ (x4 : Int) = 0 := by omega
          have HF : Hid (FdP w L J M (.returned (.tuple #[.pointer none, .int .i64 i4, .int .i64 x4])) w4) := hidS ⟨hb14, .inl ⟨i4, x4, rfl, hx4, .inr (.inr (.inr (.inl ⟨HX.out, hE, hck, hjm⟩)))⟩⟩
          clear hP4 hP3 hP2 hA2 hC4 hk2 hck hjm hck0 hb1 hb2 hb3 hb4 hb12 hb13 hb14
          go_wp2_with fail
          refine bodyPost_ret (results_tmp3 rfl _ _ _) rfl ?_
          exact HF.out
      · have hxI : ¬ (x3 : Int) = 0 := by omega
        have HF : Hid (FdP w L J M (.returned (.tuple #[.pointer none, .int .i64 i3, .int .i64 x3])) w3) := hidS ⟨hb13, .inl ⟨i3, x3, rfl, hx3, .inr (.inr (.inl ⟨HX.out, hE, hck⟩))⟩⟩
        clear hP3 hP2 hA2 hk2 hck hb1 hb2 hb3 hb12 hb13 v0
        go_wp2_with fail
        refine bodyPost_ret (results_tmp3 rfl _ _ _) rfl ?_
        exact HF.out
  · have hxI : ¬ ((encX L : Nat) : Int) = 0 := by omega
    have hfin : FdB L J M (encI L) (encX L) := .inl ⟨hx, rfl, rfl⟩
    obtain ⟨ex, hex⟩ : ∃ ex, encX L = ex := ⟨_, rfl⟩
    obtain ⟨ei, hei⟩ : ∃ ei, encI L = ei := ⟨_, rfl⟩
    rw [hex] at hEn hx hxI hfin
    rw [hei] at hEn hfin
    have HF := hidS hfin
    clear hex hei hfin
    go_enter Tryz.func11, Tryz.ntmps11
    go_wp2_with (go_at_call 23; with_reducible refine hEn.mono ?_; rintro e w1 ⟨⟨v, rfl⟩, hb1⟩)
    refine bodyPost_ret (results_tmp3 rfl _ _ _) rfl ?_
    exact ⟨hb1, .inl ⟨ei, ex, rfl, hx, HF.out⟩⟩
end Go.Proofs.YtgbpfejodpplbaaGreatDoor
