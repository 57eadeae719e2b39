import Derived.Test.YtfkjapkbpdbpmaaIPl
namespace Go.Proofs.Ytfkjapkbpdbpmaa
open Go.RowKit

theorem kD0 (W : World) : Calls Try.prog 23 #[.slice (some ⟨W.heap.size, 0, none⟩) 6 6] (W.alloc (.cells #[.int .u8 3, .int .u8 8, .int .u8 0, .int .u8 4, .int .u8 8, .int .u8 0] 5)) fun e w' => ∃ g c, e = .returned (.tuple #[.slice (some ⟨g, 0, none⟩) 2 c, .int .i64 0, .int .i64 0]) ∧ w'.cell? ⟨g, 0, none⟩ = some (.int .u8 3) ∧ w'.cell? ⟨g, 3, none⟩ = some (.int .u32 8) ∧ Below W.heap.size W w' := by
  have own := World.ownsRow_lit (size := 1) (base := W.heap.size) (e := 5) W #[.int .u8 3, .int .u8 8, .int .u8 0, .int .u8 4, .int .u8 8, .int .u8 0] 6 (Nat.le_refl _) (by decide) rfl
  have rd := reads_own (zs := [3, 8, 0, 4, 8, 0]) (L := [3, 8, 0, 4, 8, 0]) own (by decide)
  refine (decode_any _ 6 [3, 8, 0, 4, 8, 0] _ (by decide) (by decide) (by decide) rd).mono ?_
  have hB : dcB [3, 8, 0, 4, 8, 0] = [(3, 8), (4, 8)] := by decide +kernel
  have hI : dcI [3, 8, 0, 4, 8, 0] = 0 := by decide +kernel
  have hX : dcX [3, 8, 0, 4, 8, 0] = 0 := by decide +kernel
  rintro e w' ⟨v, rfl, h1, h2⟩
  rw [hB] at h1
  obtain ⟨g, c, rfl, _⟩ := own_form h1 (by decide)
  have crd := own_crd2 (L := [(3, 8), (4, 8)]) h1
  obtain ⟨b, off, e, _, hc⟩ := crd (by decide)
  simp only [Option.some.injEq, Addr.mk.injEq] at e
  obtain ⟨rfl, rfl, _⟩ := e
  exact ⟨g, c, by rw [hI, hX]; rfl, (hc 0 (by decide)).1, (hc 1 (by decide)).2, bt (bel (Below.refl _ _)) h2⟩
theorem decode_n (ao : Option Addr) (cap n : Nat) (zs : List Int) (w : World) (hz : zs.length = n) (hn : zs.length ≤ 140737488355328) (hcp : zs.length ≤ cap) (hwf : ∀ z ∈ zs, 0 ≤ z ∧ z ≤ 255) (hr : Reads w ao zs w.heap.size) :
    Calls Try.prog 23 #[.slice ao n cap] w fun e w' => ∃ a m c, e = .returned (.tuple #[.slice a m c, .int .i64 (dcI zs), .int .i64 (dcX zs)]) ∧ Below w.heap.size w w' := by
  subst hz
  refine (decode_any ao cap zs w hn hcp hwf hr).mono ?_
  rintro e w' ⟨v, rfl, h1, h2⟩
  obtain ⟨a, c, rfl⟩ := own_any h1
  exact ⟨a, _, c, rfl, h2⟩
theorem reads_take {w : World} {ao : Option Addr} {zs : List Int} {B : Nat} (h : Reads w ao zs B) (n : Nat) : Reads w ao (zs.take n) B := by
  intro hp
  have hl : (zs.take n).length ≤ zs.length := by rw [List.length_take]; omega
  obtain ⟨b, off, e, hb, hc⟩ := h (by omega)
  refine ⟨b, off, e, hb, fun j hj => ?_⟩
  rw [hc j (by omega)]
  rw [List.length_take] at hj
  simp [List.getD, show j < n by omega]
theorem begF_step (L : List (Nat × Nat)) (n k : Nat) : begF L n (k + 1) = (decide (pl L k = n) || begF L n k) := rfl
theorem lastF_step (L : List (Nat × Nat)) (n k : Nat) : lastF L n (k + 1) = if pl L k ≤ n then pl L k else lastF L n k := rfl
set_option maxRecDepth 100000 in
set_option maxHeartbeats 2000000 in
theorem onewayLaw (ao : Option Addr) (cap : Nat) (zs : List Int) (cut : Int) (w : World) (hn : zs.length ≤ 140737488351232) (hcp : zs.length ≤ cap) (hwf : ∀ z ∈ zs, 0 ≤ z ∧ z ≤ 255) (hr : Reads w ao zs w.heap.size) (t0 : -9223372036854775808 ≤ cut) (t1 : cut ≤ 9223372036854775807) :
    Calls Try.prog 7 #[.slice ao zs.length cap, .int .i64 cut] w fun e w' => e = .returned (.bool true) ∧ Below w.heap.size w w' := by
  have HWF := hid_of hwf
  have HR := hid_of hr
  clear hr
  cases hok : okD zs
  · obtain ⟨e1, e2, e3⟩ := dec_fault zs hok
    have hD : ∀ W, Below w.heap.size w W → Calls Try.prog 23 #[.slice ao zs.length cap] W fun e w' => ∃ a c, e = .returned (.tuple #[.slice a 0 c, .int .i64 (dcI zs), .int .i64 (dcX zs)]) ∧ Below W.heap.size W w' := by
      intro W hW
      refine (decode_any ao cap zs W (by omega) hcp hwf ((HR.out.below hW).mono hW.size)).mono ?_
      rintro e w' ⟨v, rfl, h1, h2⟩
      rw [e1] at h1
      obtain ⟨a, c, rfl⟩ := own_any h1
      exact ⟨a, c, rfl, h2⟩
    generalize dcI zs = at_ at *
    generalize dcX zs = er at *
    have q1 : ¬ (er : Int) = 0 := by omega
    have q2 : (at_ : Int) < (zs.length : Int) := by omega
    have q3 : (0 : Int) ≤ (at_ : Int) := by omega
    clear e1 e2 e3 hok hwf HWF HR
    go_enter Try.func7, Try.ntmps7
    go_wp2_with (first
      | (go_at_call 23; with_reducible refine (kD0 _).mono ?_; rintro e w1 ⟨g, c, rfl, y0, y1, hq1⟩)
      | (go_at_call 23; with_reducible refine (hD _ hq1).mono ?_; rintro e w2 ⟨a2, c2, rfl, hq2⟩))
    go_ret
    exact ⟨rfl, bt hq1 hq2⟩
  · obtain ⟨e1, e2, e3, e4, e5, e6⟩ := dec_back zs hwf hok
    have hD : ∀ W, Below w.heap.size w W → Calls Try.prog 23 #[.slice ao zs.length cap] W fun e w' => ∃ v, e = .returned (.tuple #[v, .int .i64 0, .int .i64 0]) ∧ w'.ownsRow W.heap.size 32 2 v (dcB zs).length (cv (dcB zs)) ∧ Below W.heap.size W w' := by
      intro W hW
      refine (decode_any ao cap zs W (by omega) hcp hwf ((HR.out.below hW).mono hW.size)).mono ?_
      rintro e w' ⟨v, rfl, h1, h2⟩
      rw [e5, e6]
      exact ⟨v, rfl, h1, h2⟩
    generalize dcB zs = L at *
    have HEZ := hid_of e1
    have HLO := hid_of e2
    have HLW := hid_of e3
    clear e1 e2 e3 e5 e6 hok hwf
    have hm0 := Int.emod_nonneg cut (show (zs.length : Int) + 1 ≠ 0 by omega)
    have hm1 := Int.emod_lt_of_pos cut (show 0 < (zs.length : Int) + 1 by omega)
    have hPk := fun w => pick_any cut ((zs.length : Int) + 1) w t0 t1 (by omega) (by omega)
    obtain ⟨n, hnn⟩ := Int.eq_ofNat_of_zero_le hm0
    rw [hnn] at hPk hm1
    have hnz : n ≤ zs.length := by omega
    have HCA := hid_of (cut_all L HLO.out e4 n (by rw [HEZ.out]; exact hnz))
    rw [HEZ.out] at HCA
    clear hm0 hm1 hnn
    go_enter Try.func7, Try.ntmps7
    go_wp2_with (first
      | (go_at_call 23; with_reducible refine (kD0 _).mono ?_; rintro e w1 ⟨g, c, rfl, y0, y1, hq1⟩)
      | (go_at_call 23; with_reducible refine (hD _ hq1).mono ?_; rintro e w2 ⟨v2, rfl, own2, hq2⟩; obtain ⟨a2, c2, rfl, crd2⟩ := own_crd own2; have R2 := bt hq1 hq2; clear y0 y1 own2)
      | (go_at_call 21; with_reducible refine (encode_ok a2 c2 L _ HLW.out crd2 HLO.out e4).mono ?_; rintro e w3 ⟨v3, rfl, own3, hq3⟩; rw [HEZ.out] at own3; replace crd2 := (crd2.below hq3).mono hq3.size; have R3 := bt R2 hq3)
      | (go_at_call 15; with_reducible refine (places_ok a2 c2 L _ HLW.out crd2 HLO.out e4).mono ?_; rintro e w4 ⟨v4, rfl, own4, hq4⟩; obtain ⟨g4, c4, rfl, _⟩ := own_form own4 (by omega); replace own3 := own_below own3 hq4; have R4 := bt R3 hq4; obtain ⟨a3, c3, rfl, rd3⟩ := own_reads5 own3)
      | (go_at_call 25; with_reducible refine (same_any a3 ao c3 cap zs zs _ (by omega) rd3 ((HR.out.below R4).mono R4.size)).mono ?_; rintro e w5 ⟨rfl, m, hm⟩; subst w5; rw [decide_eq_true rfl])
      | (go_at_call 26; with_reducible refine (hPk _).mono ?_; rintro e w6 ⟨rfl, hq6⟩; subst w6))
    have hcell : ∀ k, k < L.length + 1 → w4.cell? ⟨g4, k, none⟩ = some (.int .i64 (pl L k : Int)) := fun k hk => by
      have := own4.cells (g := g4) rfl k _ (plv_get L L.length k hk)
      rw [Go.WideShapes.add_plain] at this
      simpa using this
    have hg4 := (own4.lt g4 rfl).2
    have hpl := pl_le L e4
    have hD2 : ∀ W, Below w.heap.size w W → Calls Try.prog 23 #[.slice ao n cap] W fun e w' => ∃ a m c, e = .returned (.tuple #[.slice a m c, .int .i64 (dcI (zs.take n)), .int .i64 (dcX (zs.take n))]) ∧ Below W.heap.size W w' := by
      intro W hW
      exact decode_n ao cap n (zs.take n) W (by rw [List.length_take]; omega) (by rw [List.length_take]; omega) (by rw [List.length_take]; omega) (fun z hz => HWF.out z (List.mem_of_mem_take hz)) (reads_take ((HR.out.below hW).mono hW.size) n)
    clear own4 own3 rd3 crd2 hD hPk hq1 hq2 hq3 hq4 R2 R3
    have hncap : (n : Int) ≤ (cap : Int) := by omega
    go_loopw [15, 16, 17] (fun bb l i wr => ∃ k : Nat, k ≤ L.length + 1 ∧ bb = .bool (begF L n k) ∧ l = .int .i64 (lastF L n k) ∧ i = .int .i64 k ∧ Below w4.heap.size w4 wr)
      (fun _ _ i _ => L.length + 1 - (intOf i).toNat)
    case atStart => exact ⟨0, Nat.zero_le _, rfl, rfl, rfl, below_drew0 _⟩
    case round =>
      obtain ⟨k, hk, rfl, rfl, rfl, hbr⟩ := hrel
      by_cases hlt : k < L.length + 1
      · have hck : wr.cell? ⟨g4, k, none⟩ = some (.int .i64 (pl L k : Int)) := (hbr.cell (p := ⟨g4, k, none⟩) hg4).trans (hcell k hlt)
        have HBS := hid_of (begF_step L n k)
        have HLS := hid_of (lastF_step L n k)
        have hp := hpl k
        have hltI : (k : Int) < (L.length : Int) + 1 := by omega
        clear hcell hpl hD2 HCA
        generalize begF L n k = bb at *
        generalize lastF L n k = ll at *
        generalize pl L k = pk at *
        by_cases c1 : pk = n
        · subst c1
          have HB1 : Hid (begF L pk (k + 1) = true) := by rw [Hid, HBS.out]; simp
          have HL1 : Hid (lastF L pk (k + 1) = pk) := by rw [Hid, HLS.out]; simp
          clear HBS HLS
          go_wp2
          go_roundw
          case rel => exact ⟨k + 1, by omega, by rw [HB1.out], by rw [HL1.out], by go_num, hbr⟩
          case measure => simp [intOf]; omega
        · have c1I : ¬ (pk : Int) = (n : Int) := by omega
          have c1b : ((pk : Int) == (n : Int)) = false := by rw [beq_eq_false_iff_ne]; exact c1I
          have HB1 : Hid (begF L n (k + 1) = bb) := by rw [Hid, HBS.out]; simp [c1]
          by_cases c2 : pk ≤ n
          · have HL1 : Hid (lastF L n (k + 1) = pk) := by rw [Hid, HLS.out, if_pos c2]
            have c2I : (pk : Int) ≤ (n : Int) := by omega
            clear HBS HLS c1
            go_wp2
            go_roundw
            case rel => exact ⟨k + 1, by omega, by rw [HB1.out], by rw [HL1.out], by go_num, hbr⟩
            case measure => simp [intOf]; omega
          · have HL1 : Hid (lastF L n (k + 1) = ll) := by rw [Hid, HLS.out, if_neg c2]
            have c2I : ¬ (pk : Int) ≤ (n : Int) := by omega
            clear HBS HLS c1
            go_wp2
            go_roundw
            case rel => exact ⟨k + 1, by omega, by rw [HB1.out], by rw [HL1.out], by go_num, hbr⟩
            case measure => simp [intOf]; omega
      · obtain rfl : k = L.length + 1 := by omega
        have hltI : ¬ ((L.length + 1 : Nat) : Int) < (L.length : Int) + 1 := by omega
        have R5 := bt R4 hbr
        have hD3 := hD2 wr R5
        obtain ⟨hcb, hcm⟩ := HCA.out
        clear hD2 hcell hpl HCA
        cases hb : begF L n (L.length + 1)
        · obtain ⟨z1, z2⟩ := hcm hb
          rw [z1, z2] at hD3
          clear hcb hcm
          generalize lastF L n (L.length + 1) = ll at *
          go_wp2_with (go_at_call 23; with_reducible refine hD3.mono ?_; rintro e w7 ⟨a7, m7, c7, rfl, hq7⟩)
          go_ret
          exact ⟨rfl, bt R5 hq7⟩
        · obtain ⟨z1, z2⟩ := hcb hb
          rw [z1, z2] at hD3
          clear hcb hcm
          generalize lastF L n (L.length + 1) = ll at *
          go_wp2_with (go_at_call 23; with_reducible refine hD3.mono ?_; rintro e w7 ⟨a7, m7, c7, rfl, hq7⟩)
          go_ret
          exact ⟨rfl, bt R5 hq7⟩
end Go.Proofs.Ytfkjapkbpdbpmaa
