import Derived.Test.YtbaigjckimpkmaaNLay
import Derived.Test.YtbaigjckimpkmaaLKept
namespace Go.Proofs.Ytbaigjckimpkmaa
open Go.RowKit Go.WideShapes Go.Sort
set_option maxRecDepth 100000

set_option maxHeartbeats 1000000 in
theorem dend_any (a b : Nat) (w : World) (ha : a < 4294967296) (hb : b < 4294967296) :
    Calls Try.prog 35 #[.agg #[.int .u32 a, .int .u32 b]] w fun e w' => e = .returned (.int .u64 ((a : Int) + (b : Int))) ∧ ∃ q os', w' = grow (w.drewN q) os' := by
  have haI : (a : Int) < 4294967296 := by omega
  have hbI : (b : Int) < 4294967296 := by omega
  clear ha hb
  go_enter Try.func35, Try.ntmps35
  go_wp2
  go_ret
  exact ⟨rfl, 0, _, by rw [alloc_eq_grow]; rfl⟩
def wiB (a : Nat × Nat) (t : Nat) : Bool := decide (a.1 + a.2 ≤ t)
set_option maxHeartbeats 1000000 in
theorem within_any (a : Nat × Nat) (t : Nat) (w : World) (ha : a.1 < 4294967296 ∧ a.2 < 4294967296) (ht : t < 4294967296) :
    Calls Try.prog 6 #[.agg #[.int .u32 a.1, .int .u32 a.2], .int .u32 t] w fun e w' => e = .returned (.bool (wiB a t)) ∧ Below w.heap.size w w' := by
  have hE := fun W => end_any a.1 a.2 W ha.1 ha.2
  have hW : wiB a t = decide ((a.1 : Int) + (a.2 : Int) ≤ (t : Int)) := by unfold wiB; apply decide_eq_decide.2; omega
  rw [hW]
  have htI : (t : Int) < 4294967296 := by omega
  generalize (a.1 : Int) = a1 at *
  generalize (a.2 : Int) = a2 at *
  clear ha
  go_enter Try.func6, Try.ntmps6
  go_wp2_with (go_at_call 34; with_reducible refine (hE _).mono ?_; rintro e wq ⟨rfl, q, os, hq⟩)
  go_ret
  exact ⟨rfl, by exact btS (belS (Below.refl _ _)) (below_grow _ _ _)⟩
set_option maxHeartbeats 1000000 in
theorem dwithin_any (a : Nat × Nat) (t : Nat) (w : World) (ha : a.1 < 4294967296 ∧ a.2 < 4294967296) (ht : t < 4294967296) :
    Calls Try.prog 7 #[.agg #[.int .u32 a.1, .int .u32 a.2], .int .u32 t] w fun e w' => e = .returned (.bool (wiB a t)) ∧ Below w.heap.size w w' := by
  have hE := fun W => dend_any a.1 a.2 W ha.1 ha.2
  have hW : wiB a t = decide ((a.1 : Int) + (a.2 : Int) ≤ (t : Int)) := by unfold wiB; apply decide_eq_decide.2; omega
  rw [hW]
  have htI : (t : Int) < 4294967296 := by omega
  generalize (a.1 : Int) = a1 at *
  generalize (a.2 : Int) = a2 at *
  clear ha
  go_enter Try.func7, Try.ntmps7
  go_wp2_with (go_at_call 35; with_reducible refine (hE _).mono ?_; rintro e wq ⟨rfl, q, os, hq⟩)
  go_ret
  exact ⟨rfl, by exact btS (belS (Below.refl _ _)) (below_grow _ _ _)⟩
set_option maxHeartbeats 2000000 in
theorem dlap_any (a b : Nat × Nat) (w : World) (ha : a.1 < 4294967296 ∧ a.2 < 4294967296) (hb : b.1 < 4294967296 ∧ b.2 < 4294967296) :
    Calls Try.prog 9 #[.agg #[.int .u32 a.1, .int .u32 a.2], .agg #[.int .u32 b.1, .int .u32 b.2]] w fun e w' => e = .returned (.bool (lapB a b)) ∧ ∃ q os', w' = grow (w.drewN q) os' := by
  have hA := fun W => dend_any a.1 a.2 W ha.1 ha.2
  have hB := fun W => dend_any b.1 b.2 W hb.1 hb.2
  rw [lapB_int]
  have k1 : (0 : Int) ≤ (a.1 : Int) ∧ (a.1 : Int) < 4294967296 := by omega
  have k2 : (0 : Int) ≤ (a.2 : Int) ∧ (a.2 : Int) < 4294967296 := by omega
  have k3 : (0 : Int) ≤ (b.1 : Int) ∧ (b.1 : Int) < 4294967296 := by omega
  have k4 : (0 : Int) ≤ (b.2 : Int) ∧ (b.2 : Int) < 4294967296 := by omega
  clear ha hb
  generalize (a.1 : Int) = a1 at *
  generalize (a.2 : Int) = a2 at *
  generalize (b.1 : Int) = b1 at *
  generalize (b.2 : Int) = b2 at *
  obtain ⟨k1, k1'⟩ := k1
  obtain ⟨k2, k2'⟩ := k2
  obtain ⟨k3, k3'⟩ := k3
  obtain ⟨k4, k4'⟩ := k4
  have mixed : Try.prog.follows .mixedOrders = true := by kernel_rfl
  have q1 : IntKind.u64.wrap a1 = a1 := by rw [IntKind.wrap_u64]; omega
  have q2 : IntKind.u64.wrap b1 = b1 := by rw [IntKind.wrap_u64]; omega
  by_cases h1 : 0 < a2
  · by_cases h2 : 0 < b2
    · by_cases h3 : a1 < b1 + b2
      · have e : (decide (0 < a2) && decide (0 < b2) && decide (a1 < b1 + b2) && decide (b1 < a1 + a2)) = decide (b1 < a1 + a2) := by simp [h1, h2, h3]
        rw [e]
        clear e
        go_enter Try.func9, Try.ntmps9
        go_wp2_with fail
        obtain ⟨W0, hW0⟩ : ∃ W0, (w.alloc (.cells #[.int .u32 a1, .int .u32 a2] 27)).alloc (.cells #[.int .u32 b1, .int .u32 b2] 27) = W0 := ⟨_, rfl⟩
        rw [hW0]
        obtain ⟨c0, c1, c2, c3, hfin⟩ := lapW hW0
        have HF := hidS hfin
        clear hW0 hfin
        go_quiet_grown (first | (with_reducible refine Calls.grown_of (hA _)) | (with_reducible refine Calls.grown_of (hB _)))
        go_wp2_with fail
        go_ret
        exact ⟨rfl, HF.out _ _⟩
      · have e : (decide (0 < a2) && decide (0 < b2) && decide (a1 < b1 + b2) && decide (b1 < a1 + a2)) = false := by simp [h3]
        rw [e]
        clear e
        have d3 : decide (a1 < b1 + b2) = false := by simp [h3]
        go_enter Try.func9, Try.ntmps9
        go_wp2_with fail
        obtain ⟨W0, hW0⟩ : ∃ W0, (w.alloc (.cells #[.int .u32 a1, .int .u32 a2] 27)).alloc (.cells #[.int .u32 b1, .int .u32 b2] 27) = W0 := ⟨_, rfl⟩
        rw [hW0]
        obtain ⟨c0, c1, c2, c3, hfin⟩ := lapW hW0
        have HF := hidS hfin
        clear hW0 hfin
        go_quiet_grown (first | (with_reducible refine Calls.grown_of (hA _)) | (with_reducible refine Calls.grown_of (hB _)))
        go_wp2_with fail
        go_ret
        exact ⟨rfl, HF.out _ _⟩
    · have e : (decide (0 < a2) && decide (0 < b2) && decide (a1 < b1 + b2) && decide (b1 < a1 + a2)) = false := by simp [h2]
      rw [e]
      clear e
      have d3 : decide (0 < b2) = false := by simp [h2]
      go_enter Try.func9, Try.ntmps9
      go_wp2_with fail
      obtain ⟨W0, hW0⟩ : ∃ W0, (w.alloc (.cells #[.int .u32 a1, .int .u32 a2] 27)).alloc (.cells #[.int .u32 b1, .int .u32 b2] 27) = W0 := ⟨_, rfl⟩
      rw [hW0]
      obtain ⟨c0, c1, c2, c3, hfin⟩ := lapW hW0
      have HF := hidS hfin
      clear hW0 hfin
      go_quiet_grown (first | (with_reducible refine Calls.grown_of (hA _)) | (with_reducible refine Calls.grown_of (hB _)))
      go_wp2_with fail
      go_ret
      exact ⟨rfl, HF.out _ _⟩
  · have e : (decide (0 < a2) && decide (0 < b2) && decide (a1 < b1 + b2) && decide (b1 < a1 + a2)) = false := by simp [h1]
    rw [e]
    clear e
    have d3 : decide (0 < a2) = false := by simp [h1]
    go_enter Try.func9, Try.ntmps9
    go_wp2_with fail
    obtain ⟨W0, hW0⟩ : ∃ W0, (w.alloc (.cells #[.int .u32 a1, .int .u32 a2] 27)).alloc (.cells #[.int .u32 b1, .int .u32 b2] 27) = W0 := ⟨_, rfl⟩
    rw [hW0]
    obtain ⟨c0, c1, c2, c3, hfin⟩ := lapW hW0
    have HF := hidS hfin
    clear hW0 hfin
    go_quiet_grown (first | (with_reducible refine Calls.grown_of (hA _)) | (with_reducible refine Calls.grown_of (hB _)))
    go_wp2_with fail
    go_ret
    exact ⟨rfl, HF.out _ _⟩
set_option maxHeartbeats 2000000 in
theorem dapart_any (ao : Option Addr) (cap : Nat) (L : List (Nat × Nat)) (w : World) (hn : L.length ≤ 1048576) (hw : Wfs L) (hr : SRd w ao L w.heap.size) (R : Ending → Prop)
    (hok : Ap L → R (.returned (.tuple #[.int .i64 0, .int .i64 0, .bool true]))) (hbad : ∀ i j : Nat, Fst L i j → R (.returned (.tuple #[.int .i64 i, .int .i64 j, .bool false]))) :
    Calls Try.prog 37 #[.slice ao L.length cap] w fun e w' => R e ∧ Below w.heap.size w w' := by
  have HW := hidS hw
  have HR := hidS hr
  have HO := hidS hok
  have HBd := hidS hbad
  clear hw hr hok hbad
  go_enter Try.func37, Try.ntmps37
  go_wp2_with fail
  go_loopw [5] (fun i wr => ∃ k : Nat, k ≤ L.length ∧ i = .int .i64 k ∧ Below w.heap.size w wr ∧ Ap (L.take k)) (fun i _ => L.length - (intOf i).toNat)
  case atStart => exact ⟨0, Nat.zero_le _, rfl, Below.refl _ _, by simp [Ap]⟩
  case round =>
    obtain ⟨k, hk, rfl, hb, hap⟩ := hrel
    have HA := hidS hap
    clear hap
    by_cases hlt : k < L.length
    · have hltI : (k : Int) < (L.length : Int) := by omega
      go_wp2_with fail
      go_loopw [6] (fun i wi => ∃ j : Nat, j ≤ k ∧ i = .int .i64 j ∧ Below w.heap.size w wi ∧ ∀ m, m < j → lapB (L.getD m (0, 0)) (L.getD k (0, 0)) = false) (fun i _ => k - (intOf i).toNat)
      case atStart => exact ⟨0, Nat.zero_le _, rfl, hb, fun m hm => absurd hm (Nat.not_lt_zero _)⟩
      case round =>
        clear hb
        obtain ⟨j, hj, rfl, hb, hno⟩ := hrel
        have HN := hidS hno
        clear hno
        by_cases hlt2 : j < k
        · have hjI : (j : Int) < (k : Int) := by omega
          obtain ⟨b, off, rfl, hbl, hc⟩ := HR.out (by omega)
          have x0 := (hb.cell (p := ⟨b, off + k * 2, none⟩) hbl).trans (hc k hlt).1
          have x1 := (hb.cell (p := ⟨b, off + k * 2 + 1, none⟩) hbl).trans (hc k hlt).2
          have y0 := (hb.cell (p := ⟨b, off + j * 2, none⟩) hbl).trans (hc j (by omega)).1
          have y1 := (hb.cell (p := ⟨b, off + j * 2 + 1, none⟩) hbl).trans (hc j (by omega)).2
          have hwk := HW.out _ (getD_memS hlt)
          have hwj := HW.out _ (getD_memS (L := L) (k := j) (by omega))
          have HL := fun W => dlap_any (L.getD k (0, 0)) (L.getD j (0, 0)) W hwk hwj
          rw [lapB_comm] at HL
          have hbw : b < wr.heap.size := by have := hb.size; omega
          replace x0 := cell_grown (a := ⟨b, off + k * 2, none⟩) hbw x0
          replace x1 := cell_grown (a := ⟨b, off + k * 2 + 1, none⟩) hbw x1
          replace y0 := cell_grown (a := ⟨b, off + j * 2, none⟩) hbw y0
          replace y1 := cell_grown (a := ⟨b, off + j * 2 + 1, none⟩) hbw y1
          have hjl : (j : Int) < (L.length : Int) := by omega
          cases hl : lapB (L.getD j (0, 0)) (L.getD k (0, 0))
          · rw [hl] at HL
            have HN2 : Hid (∀ m, m < j + 1 → lapB (L.getD m (0, 0)) (L.getD k (0, 0)) = false) := fun m hm => by
              by_cases h : m = j
              · rw [h]; exact hl
              · exact HN.out m (by omega)
            obtain ⟨c, hcE⟩ : ∃ c, c = L.getD k (0, 0) := ⟨_, rfl⟩
            obtain ⟨d, hdE⟩ : ∃ d, d = L.getD j (0, 0) := ⟨_, rfl⟩
            rw [← hcE] at x0 x1 HL
            rw [← hdE] at y0 y1 HL
            clear hc hwk hwj hl hcE hdE
            have mixed : Try.prog.follows .mixedOrders = true := by kernel_rfl
            have HB1 := hidS hb
            clear hb
            go_wp2_with fail
            go_quiet_grown (first | (with_reducible refine Calls.grown_of (HL _)) | fail)
            go_wp2_with fail
            go_roundw
            case rel => exact ⟨j + 1, by omega, by go_num, btS HB1.out (below_grow _ _ _), HN2.out⟩
            case measure => simp [intOf]; omega
          · rw [hl] at HL
            have HF : Hid (Fst L k j) := ⟨hlt, hlt2, HA.out, hl, HN.out⟩
            obtain ⟨c, hcE⟩ : ∃ c, c = L.getD k (0, 0) := ⟨_, rfl⟩
            obtain ⟨d, hdE⟩ : ∃ d, d = L.getD j (0, 0) := ⟨_, rfl⟩
            rw [← hcE] at x0 x1 HL
            rw [← hdE] at y0 y1 HL
            clear hc hwk hwj hl hcE hdE
            have mixed : Try.prog.follows .mixedOrders = true := by kernel_rfl
            have HB1 := hidS hb
            clear hb
            go_wp2_with fail
            go_quiet_grown (first | (with_reducible refine Calls.grown_of (HL _)) | fail)
            go_wp2_with fail
            refine bodyPost_ret (results_tmp3 rfl _ _ _) rfl ?_
            exact ⟨HBd.out k j HF.out, btS HB1.out (below_grow _ _ _)⟩
        · have hjk : j = k := by omega
          subst hjk
          have hjI : ¬ (j : Int) < (j : Int) := by omega
          have HA2 := hidS (ap_snoc hlt HA.out HN.out)
          go_wp2_with fail
          go_roundw
          case rel => exact ⟨j + 1, by omega, by go_num, hb, HA2.out⟩
          case measure => simp [intOf]; omega
    · have hkk : k = L.length := by omega
      subst hkk
      have hltI : ¬ (L.length : Int) < (L.length : Int) := by omega
      have HA2 : Hid (Ap L) := by have := HA.out; rwa [List.take_length] at this
      go_wp2_with fail
      refine bodyPost_ret (results_tmp3 rfl _ _ _) rfl ?_
      exact ⟨HO.out HA2.out, hb⟩
set_option maxHeartbeats 2000000 in
theorem dlay_any (f : Nat) (ao : Option Addr) (cap : Nat) (zs : List Int) (w : World) (hf : f < 4294967296) (hn : zs.length ≤ 1048576) (hw : ∀ z ∈ zs, 0 ≤ z ∧ z < 4294967296) (hr : ReadsK w .u32 ao zs w.heap.size) :
    Calls Try.prog 12 #[.int .u32 f, .slice ao zs.length cap] w fun e w' => LayPost f zs w e w' ∧ Below w.heap.size w w' := by
  obtain ⟨i0, hi, hz0, hz1, hz2⟩ := info_parts Try.infoS
  have HW := hidS hw
  have HR := hidS hr
  have hfI : (f : Int) < 4294967296 := by omega
  clear hw hr
  go_enter Try.func12, Try.ntmps12
  go_wp2_with fail
  go_loopw [6, 7, 8] (fun v x i wr => ∃ k : Nat, k ≤ zs.length ∧ i = .int .i64 k ∧ x = .int .u64 ((sumS f ((nz zs).take k) : Nat) : Int) ∧ wr.ownsRow w.heap.size 27 2 v k (sv (layS f ((nz zs).take k))) ∧ sumS f ((nz zs).take k) ≤ 4294967295 ∧ Below w.heap.size w wr)
    (fun _ _ i _ => zs.length - (intOf i).toNat)
  case atStart => exact ⟨0, Nat.zero_le _, rfl, by simp [sumS], by simpa [layS, sv] using World.ownsRow_nil w w.heap.size 27 2, by simp [sumS]; omega, Below.refl _ _⟩
  case round =>
    obtain ⟨k, hk, rfl, rfl, hown, hsum, hb⟩ := hrel
    by_cases hlt : k < zs.length
    · have hltI : (k : Int) < (zs.length : Int) := by omega
      obtain ⟨b, off, rfl, hbl, hc⟩ := (HR.out.below hb) (by omega)
      have hck := hc k hlt
      obtain ⟨ez, hzl⟩ := nz_get HW.out hlt
      rw [ez] at hck
      have HCW : Hid (∀ W, Below w.heap.size w W → W.cell? ⟨b, off + k, none⟩ = some (.int .u32 (((nz zs).getD k 0 : Nat) : Int))) := fun W hW => by
        obtain ⟨b2, off2, e2, _, hc2⟩ := (HR.out.below hW) (by omega)
        cases e2
        rw [hc2 k hlt, ez]
      have hts := ptakeS 0 (nz zs) k (by rw [nz_len]; exact hlt)
      have HS1 := hidS (layS_snoc ((nz zs).take k) ((nz zs).getD k 0) f)
      have HS2 := hidS (sumS_snoc f ((nz zs).take k) ((nz zs).getD k 0))
      rw [← hts] at HS1 HS2
      have HLE := hidS (sumS_take f (nz zs) (k + 1))
      have hE : f + ((nz zs).take k).sum = sumS f ((nz zs).take k) := rfl
      rw [hE] at HS1
      clear hc hts ez hE
      generalize sumS f ((nz zs).take k) = S at *
      generalize (nz zs).getD k 0 = z at *
      have hw1 : IntKind.u32.wrap (S : Int) = (S : Int) := by rw [IntKind.wrap_u32]; omega
      have hw2 : IntKind.u64.wrap (z : Int) = (z : Int) := by rw [IntKind.wrap_u64]; omega
      have hw3 : IntKind.u64.wrap ((S : Int) + (z : Int)) = (S : Int) + (z : Int) := by rw [IntKind.wrap_u64]; omega
      have hBs := hb.size
      go_wp2_with (at_builtin; refine wpList_append_own _ rfl _ _ 30 rfl w.heap.size 27 i0 (.agg #[.int .u32 0, .int .u32 0]) 2 8 Try.underlying30 hi hz0 hz1 hz2 rfl (by decide) _ _ _ rfl (hown.alloc _) ⟨_, 0, none⟩ 1 1 [.int .u32 (S : Int), .int .u32 (z : Int)] rfl rfl ?c1 ?c2 ?c3 ?c4 ?c5 ?_)
      case c1 =>
        intro j u hj
        match j, hj with
        | 0, hj => simp at hj; subst hj; simp [Addr.add]
        | 1, hj => simp at hj; subst hj; simp [Addr.add]
      case c2 => intro u hu; simp at hu; rcases hu with rfl | rfl <;> rfl
      case c3 => unfold maxLen; omega
      case c4 => omega
      case c5 => simp; omega
      intro v' w5 hown' hgrow _
      have R1 : w5.ownsRow w.heap.size 27 2 v' (k + 1) (sv (layS f ((nz zs).take (k + 1)))) := by rw [HS1.out, sv_append]; exact hown'
      have R2 : Below w.heap.size w w5 := (hb.alloc hBs _).grown hgrow (by simp; omega) (fun j e => (hown.lt j e).1)
      have hck5 := HCW.out _ R2
      clear hown' hgrow hown hck
      by_cases hov : 4294967295 < S + z
      · have hovI : (4294967295 : Int) < (S : Int) + (z : Int) := by omega
        have HOV := hidS hov
        have HSU := hidS hsum
        clear hov hsum hzl
        go_wp2_with fail
        refine bodyPost_ret (results_tmp2 rfl _ _ _) rfl ?_
        refine ⟨?_, R2⟩
        have := HLE.out
        rw [HS2.out] at this
        have h8 := HOV.out
        have hng : okB f zs = false := decide_eq_false (by omega)
        exact .inr ⟨hng, rfl⟩
      · have hovI : ¬ (4294967295 : Int) < (S : Int) + (z : Int) := by omega
        have HOV := hidS hov
        clear hov hsum hzl
        go_wp2_with fail
        go_roundw
        case rel => exact ⟨k + 1, by omega, by go_num, by rw [HS2.out]; go_num, R1, by rw [HS2.out]; have := HOV.out; omega, R2⟩
        case measure => simp [intOf]; omega
    · obtain rfl : k = zs.length := by omega
      have hltI : ¬ (zs.length : Int) < (zs.length : Int) := by omega
      have hfull : (nz zs).take zs.length = nz zs := by rw [← nz_len, List.take_length]
      rw [hfull] at hown hsum
      have HSM : Hid (okB f zs = true) := decide_eq_true hsum
      go_wp2_with fail
      refine bodyPost_ret (results_tmp2 rfl _ _ _) rfl ?_
      exact ⟨by exact .inl ⟨HSM.out, _, rfl, hown⟩, hb⟩
end Go.Proofs.Ytbaigjckimpkmaa
