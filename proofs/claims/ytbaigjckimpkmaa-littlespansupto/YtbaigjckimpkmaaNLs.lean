import Derived.Test.YtbaigjckimpkmaaNDc
import Derived.BigQuiet
namespace Go.Proofs.Ytbaigjckimpkmaa
open Go.RowKit Go.WideShapes Go.Sort
set_option maxRecDepth 100000

theorem take_negS {xs ys : List (Nat × Nat)} {k : Nat} (h : ¬ xs.getD k (0, 0) = ys.getD k (0, 0)) : ¬ xs = ys := by
  intro e; subst e; exact h rfl
set_option maxRecDepth 100000 in
set_option maxHeartbeats 2000000 in
theorem sameS_any (ao bo : Option Addr) (ca cb : Nat) (xs ys : List (Nat × Nat)) (w : World) (hn : xs.length ≤ 140737488355328) (ha : SRd w ao xs w.heap.size) (hr : SRd w bo ys w.heap.size) :
    Calls Try.prog 20 #[.slice ao xs.length ca, .slice bo ys.length cb] w fun e w' => e = .returned (.bool (decide (xs = ys))) ∧ ∃ m, w' = w.drewN m := by
  by_cases hl : xs.length = ys.length
  · have hlI : (xs.length : Int) = (ys.length : Int) := by omega
    go_enter Try.func20, Try.ntmps20
    go_wp2
    go_loopw [5] (fun i wr => ∃ k m : Nat, k ≤ xs.length ∧ i = .int .i64 k ∧ wr = w.drewN m ∧ xs.take k = ys.take k)
      (fun i _ => xs.length - (intOf i).toNat)
    case atStart => exact ⟨0, 0, Nat.zero_le _, rfl, rfl, rfl⟩
    case round =>
      obtain ⟨k, m, hk, rfl, hw2, hpre⟩ := hrel
      have HP : Hid (xs.take k = ys.take k) := hpre
      clear hpre
      by_cases hlt : k < xs.length
      · obtain ⟨b, off, rfl, hbl, hc⟩ := hr (by omega)
        obtain ⟨b2, off2, rfl, hbl2, hc2⟩ := ha (by omega)
        obtain ⟨ck0, ck1⟩ := hc k (by omega)
        obtain ⟨dk0, dk1⟩ := hc2 k hlt
        have x0 : wr.cell? ⟨b, off + k * 2, none⟩ = some (.int .u32 (ys.getD k (0, 0)).1) := by rw [hw2]; exact ck0
        have x1 : wr.cell? ⟨b, off + k * 2 + 1, none⟩ = some (.int .u32 (ys.getD k (0, 0)).2) := by rw [hw2]; exact ck1
        have y0 : wr.cell? ⟨b2, off2 + k * 2, none⟩ = some (.int .u32 (xs.getD k (0, 0)).1) := by rw [hw2]; exact dk0
        have y1 : wr.cell? ⟨b2, off2 + k * 2 + 1, none⟩ = some (.int .u32 (xs.getD k (0, 0)).2) := by rw [hw2]; exact dk1
        clear hc hc2 ck0 ck1 dk0 dk1
        have HW2 : Hid (wr = w.drewN m) := hw2
        clear hw2
        have hlt' : (k : Int) < (xs.length : Int) := by omega
        have hlt'' : (k : Int) < (ys.length : Int) := by omega
        have HT1 : Hid (xs.take (k + 1) = xs.take k ++ [xs.getD k (0, 0)]) := ptakeS (0, 0) xs k hlt
        have HT2 : Hid (ys.take (k + 1) = ys.take k ++ [ys.getD k (0, 0)]) := ptakeS (0, 0) ys k (by omega)
        by_cases hcc : xs.getD k (0, 0) = ys.getD k (0, 0)
        · rw [hcc] at y0 y1 HT1
          generalize ys.getD k (0, 0) = c at x0 x1 y0 y1 HT1 HT2
          clear hcc
          go_wp2
          go_quiet (fail)
          go_wp2
          go_roundw
          case rel => exact ⟨k + 1, _, by omega, by go_num, by rw [HW2.out, World.drewN_drewN], by rw [HT1.out, HT2.out, HP.out]⟩
          case measure => simp [intOf]; omega
        · have HN : Hid (decide (xs = ys) = false) := decide_eq_false (take_negS hcc)
          clear HT1 HT2 HP
          generalize ys.getD k (0, 0) = c at x0 x1 hcc
          generalize xs.getD k (0, 0) = c2 at y0 y1 hcc
          obtain ⟨c0, c1⟩ := c
          obtain ⟨d0, d1⟩ := c2
          simp only [] at x0 x1 y0 y1
          by_cases h0 : d0 = c0
          · subst h0
            have h1 : ¬ d1 = c1 := fun e => hcc (by rw [e])
            have hbe : ((d1 : Int) == (c1 : Int)) = false := by rw [beq_eq_false_iff_ne]; omega
            have hbi : ¬ (d1 : Int) = (c1 : Int) := by omega
            clear hcc h1
            go_wp2
            go_quiet (fail)
            go_wp2
            go_ret
            exact ⟨by rw [HN.out]; rfl, _, by rw [HW2.out, World.drewN_drewN]⟩
          · have hbe : ((d0 : Int) == (c0 : Int)) = false := by rw [beq_eq_false_iff_ne]; omega
            have hbi : ¬ (d0 : Int) = (c0 : Int) := by omega
            clear hcc h0
            go_wp2
            go_quiet (fail)
            go_wp2
            go_ret
            exact ⟨by rw [HN.out]; rfl, _, by rw [HW2.out, World.drewN_drewN]⟩
      · have HN : Hid (decide (xs = ys) = true) := by
          have e1 := HP.out
          rw [List.take_of_length_le (by omega), List.take_of_length_le (by omega)] at e1
          exact decide_eq_true e1
        have HW2 : Hid (wr = w.drewN m) := hw2
        clear hw2 HP
        go_wp2
        go_ret
        exact ⟨by rw [HN.out]; rfl, _, HW2.out⟩
  · have HN : Hid (decide (xs = ys) = false) := decide_eq_false (fun e => hl (by rw [e]))
    have hlI : ¬ (xs.length : Int) = (ys.length : Int) := by omega
    clear hl ha hr
    go_enter Try.func20, Try.ntmps20
    go_wp2
    go_ret
    exact ⟨by rw [HN.out]; rfl, 0, rfl⟩
def mkS (k i : Nat) : Nat × Nat := ((1000003 * (k + 1) + i) % 4294967296, 77 + k)
theorem mkS_wf (k i : Nat) (hk : k ≤ 16777216) : (mkS k i).1 < 4294967296 ∧ (mkS k i).2 < 4294967296 := by
  refine ⟨Nat.mod_lt _ (by decide), ?_⟩
  show 77 + k < _
  omega
set_option maxHeartbeats 1000000 in
theorem markS_any (k i : Nat) (w : World) (hk : k ≤ 16777216) (hi : i ≤ 134217728) :
    Calls Try.prog 43 #[.int .i64 ((k : Nat) : Int), .int .i64 ((i : Nat) : Int)] w fun e w' => e = .returned (.agg #[.int .u32 ((mkS k i).1 : Nat), .int .u32 ((mkS k i).2 : Nat)]) ∧ w' = w.alloc (.cells #[.int .u32 ((mkS k i).1 : Nat), .int .u32 ((mkS k i).2 : Nat)] 27) := by
  have e1 : (((mkS k i).1 : Nat) : Int) = (1000003 * ((k : Int) + 1) + (i : Int)) % 4294967296 := by
    have : (mkS k i).1 = (1000003 * (k + 1) + i) % 4294967296 := rfl
    rw [this]; omega
  have e2 : (((mkS k i).2 : Nat) : Int) = 77 + (k : Int) := by simp [mkS]
  rw [e1, e2]
  have hkI : (k : Int) ≤ 16777216 := by omega
  have hk0 : (0 : Int) ≤ (k : Int) := by omega
  have hiI : (i : Int) ≤ 134217728 := by omega
  have hi0 : (0 : Int) ≤ (i : Int) := by omega
  clear hk hi e1 e2
  generalize (k : Int) = kk at *
  generalize (i : Int) = ii at *
  go_enter Try.func43, Try.ntmps43
  go_wp2
  obtain ⟨fs, hu⟩ := undS2
  exact bodyPost_ret (results_cell_row (p := 4) (ty := 27) (by kernel_rfl) _ _ w.heap.size 27 #[.int .u32 ((1000003 * (kk + 1) + ii) % 4294967296), .int .u32 (77 + kk)] (0, 0) _ rfl (heap_alloc_last w _) hu rfl (by rw [infoS2]; rfl)) rfl ⟨rfl, rfl⟩
def mkr (n m : Nat) : List (Nat × Nat) := (List.range m).map fun j => mkS 0 (n + j)
theorem mkr_len (n m : Nat) : (mkr n m).length = m := by simp [mkr]
theorem mkr_get (n m j : Nat) (h : j < m) : (mkr n m).getD j (0, 0) = mkS 0 (n + j) := by simp [mkr, List.getD_eq_getElem?_getD, h]
theorem s_two {w : World} {a b : Value} {ty : Nat} : ∀ (j : Nat) (u : Value), [a, b][j]? = some u → (w.alloc (.cells #[a, b] ty)).cell? ((⟨w.heap.size, 0, none⟩ : Addr).add j) = some u := by
  intro j u hj
  match j, hj with
  | 0, hj => simp at hj; subst hj; simp [Addr.add]
  | 1, hj => simp at hj; subst hj; simp [Addr.add]
theorem s_two1 {a b : Int} {k l : IntKind} : ∀ u ∈ [Value.int k a, Value.int l b], u.oneCell' = true := by
  intro u hu
  simp at hu
  rcases hu with rfl | rfl <;> rfl
theorem s_two2 {w : World} {o : Obj} {a b : Value} {ty : Nat} : ∀ (j : Nat) (u : Value), [a, b][j]? = some u → ((w.alloc o).alloc (.cells #[a, b] ty)).cell? ((⟨w.heap.size + 1, 0, none⟩ : Addr).add j) = some u := by
  intro j u hj
  have := s_two (w := w.alloc o) (a := a) (b := b) (ty := ty) j u hj
  rwa [show (w.alloc o).heap.size = w.heap.size + 1 by simp] at this
def lnt (L : List (Nat × Nat)) : List (Nat × Nat) := L ++ mkr L.length 64
theorem lnt_len (L : List (Nat × Nat)) : (lnt L).length = L.length + 64 := by simp [lnt, mkr_len]
theorem lnt_lo (L : List (Nat × Nat)) (k : Nat) (h : k < L.length) : (lnt L).getD k (0, 0) = L.getD k (0, 0) := by simp [lnt, List.getD_eq_getElem?_getD, List.getElem?_append_left h]
theorem lnt_hi (L : List (Nat × Nat)) (k : Nat) (h : L.length ≤ k) (h2 : k < L.length + 64) : (lnt L).getD k (0, 0) = mkS 0 k := by
  have : (lnt L).getD k (0, 0) = (mkr L.length 64).getD (k - L.length) (0, 0) := by
    simp only [lnt, List.getD_eq_getElem?_getD]
    rw [List.getElem?_append_right h]
  rw [this, mkr_get _ _ _ (by omega), show L.length + (k - L.length) = k by omega]
set_option maxHeartbeats 2000000 in
theorem lentS_any (ao : Option Addr) (cap : Nat) (L : List (Nat × Nat)) (w : World) (hn : L.length ≤ 1048576) (hr : SRd w ao L w.heap.size) :
    Calls Try.prog 36 #[.slice ao L.length cap] w fun e w' => ∃ v, e = .returned v ∧ w'.ownsRow w.heap.size 27 2 v (L.length + 64) (sv (lnt L)) ∧ Below w.heap.size w w' := by
  obtain ⟨i0, hi, hz0, hz1, hz2⟩ := info_parts Try.infoS
  have HR := hidS hr
  clear hr
  go_enter Try.func36, Try.ntmps36
  go_wp2
  go_loopw [3, 4] (fun v i wr => ∃ k : Nat, k ≤ L.length + 64 ∧ i = .int .i64 k ∧ wr.ownsRow w.heap.size 27 2 v k (sv ((lnt L).take k)) ∧ Below w.heap.size w wr)
    (fun _ i _ => L.length + 64 - (intOf i).toNat)
  case atStart => exact ⟨0, Nat.zero_le _, rfl, World.ownsRow_nil _ _ _ _, Below.refl _ _⟩
  case round =>
    obtain ⟨k, hk, rfl, hown, hb⟩ := hrel
    have HO := hidS hown
    have HB := hidS hb
    have hB := hb.size
    by_cases hlt : k < L.length + 64
    · have HT := hidS (ptakeS (0, 0) (lnt L) k (by rw [lnt_len]; exact hlt))
      have hltI : (k : Int) < (L.length : Int) + 64 := by omega
      by_cases hlo : k < L.length
      · obtain ⟨b, off, rfl, hbl, hc⟩ := HR.out (by omega)
        have x0 := (hb.cell (p := ⟨b, off + k * 2, none⟩) hbl).trans (hc k hlo).1
        have x1 := (hb.cell (p := ⟨b, off + k * 2 + 1, none⟩) hbl).trans (hc k hlo).2
        rw [lnt_lo L k hlo] at HT
        have hloI : (k : Int) < (L.length : Int) := by omega
        generalize L.getD k (0, 0) = c at *
        clear hown hb hc
        go_wp2_with (at_builtin; (refine wpList_append_own _ rfl _ _ 30 rfl w.heap.size 27 i0 (.agg #[.int .u32 0, .int .u32 0]) 2 8 Try.underlying30 hi hz0 hz1 hz2 rfl (by decide) _ _ _ rfl (HO.out.alloc _) ⟨_, 0, none⟩ 1 1 [.int .u32 (c.1 : Int), .int .u32 (c.2 : Int)] rfl rfl s_two s_two1 (by unfold maxLen; omega) (by omega) (by simp; omega) ?_; intro v3 w3 own3 hg3 _))
        have HR3 := hidS (And.intro own3 ((HB.out.alloc hB _).grown hg3 (by simp; omega) (fun q e => (HO.out.lt q e).1)))
        clear own3 hg3
        go_wp2
        go_roundw
        case rel => exact ⟨k + 1, by omega, by go_num, by rw [HT.out, sv_append]; exact HR3.out.1, HR3.out.2⟩
        case measure => simp [intOf]; omega
      · have hloI : ¬ (k : Int) < (L.length : Int) := by omega
        rw [lnt_hi L k (by omega) hlt] at HT
        have HM : Hid (∀ W : World, Calls Try.prog 43 #[.int .i64 0, .int .i64 (k : Int)] W fun e w' => e = .returned (.agg #[.int .u32 ((mkS 0 k).1 : Nat), .int .u32 ((mkS 0 k).2 : Nat)]) ∧ w' = W.alloc (.cells #[.int .u32 ((mkS 0 k).1 : Nat), .int .u32 ((mkS 0 k).2 : Nat)] 27)) := fun W => markS_any 0 k W (by omega) (by omega)
        generalize mkS 0 k = c at *
        clear hown hb
        go_wp2_with (first
          | (go_at_call 43; with_reducible refine (HM.out _).mono ?_; rintro e wq ⟨rfl, hq⟩; subst wq)
          | (at_builtin; (refine wpList_append_own _ rfl _ _ 30 rfl w.heap.size 27 i0 (.agg #[.int .u32 0, .int .u32 0]) 2 8 Try.underlying30 hi hz0 hz1 hz2 rfl (by decide) _ _ _ rfl ((HO.out.alloc _).alloc _) ⟨_, 0, none⟩ 1 1 [.int .u32 (c.1 : Int), .int .u32 (c.2 : Int)] rfl rfl s_two2 s_two1 (by unfold maxLen; omega) (by omega) (by simp; omega) ?_; intro v3 w3 own3 hg3 _)))
        have HR3 := hidS (And.intro own3 (((HB.out.alloc hB _).alloc (by simp; omega) _).grown hg3 (by simp; omega) (fun q e => (HO.out.lt q e).1)))
        clear own3 hg3
        go_wp2
        go_roundw
        case rel => exact ⟨k + 1, by omega, by go_num, by rw [HT.out, sv_append]; exact HR3.out.1, HR3.out.2⟩
        case measure => simp [intOf]; omega
    · have hkk : k = L.length + 64 := by omega
      subst hkk
      have e : (lnt L).take (L.length + 64) = lnt L := by rw [← lnt_len, List.take_length]
      rw [e] at HO
      have hltI : ¬ ((L.length + 64 : Nat) : Int) < (L.length : Int) + 64 := by omega
      clear hown hb
      go_wp2
      go_ret
      exact ⟨_, rfl, HO.out, HB.out⟩
theorem sameS_n (n m : Nat) (ao bo : Option Addr) (ca cb : Nat) (xs ys : List (Nat × Nat)) (w : World) (h1 : xs.length = n) (h2 : ys.length = m) (hn : xs.length ≤ 140737488355328) (ha : SRd w ao xs w.heap.size) (hr : SRd w bo ys w.heap.size) :
    Calls Try.prog 20 #[.slice ao n ca, .slice bo m cb] w fun e w' => e = .returned (.bool (decide (xs = ys))) ∧ ∃ m, w' = w.drewN m := by
  subst h1 h2; exact sameS_any ao bo ca cb xs ys w hn ha hr
set_option maxHeartbeats 1000000 in
theorem keptS_any (ao fo : Option Addr) (cap cf : Nat) (L : List (Nat × Nat)) (w : World) (hn : L.length ≤ 1048576) (hr : SRd w ao L w.heap.size) (hf : SRd w fo (lnt L) w.heap.size) :
    Calls Try.prog 39 #[.slice fo (L.length + 64 : Nat) cf, .slice ao L.length cap] w fun e w' => e = .returned (.bool true) ∧ Below w.heap.size w w' := by
  have HL := hidS (lentS_any ao cap L w hn hr)
  have HF := hidS hf
  clear hr hf
  go_enter Try.func39, Try.ntmps39
  go_wp2_with (go_at_call 36; with_reducible refine HL.out.mono ?_; rintro e wq ⟨v, rfl, ho, hq⟩)
  have ho' : wq.ownsRow w.heap.size 27 2 v (lnt L).length (sv (lnt L)) := by rw [lnt_len]; exact ho
  obtain ⟨a2, c2, rfl, hr2⟩ := own_srd ho'
  have HS := hidS (sameS_n (L.length + 64) (L.length + 64) fo a2 cf c2 (lnt L) (lnt L) wq (lnt_len L) (lnt_len L) (by rw [lnt_len]; omega) ((HF.out.below hq).mono hq.size) hr2)
  have HQ := hidS hq
  rw [lnt_len]
  clear ho ho' hq hr2
  go_wp2_with (go_at_call 20; with_reducible refine HS.out.mono ?_; rintro e wz ⟨rfl, m, hz⟩; subst wz)
  go_ret
  exact ⟨rfl, below_drewN HQ.out m⟩
end Go.Proofs.Ytbaigjckimpkmaa
