import Derived.Test.YtpndbbepfjocgaaCKLt
namespace Go.Proofs.Ytpndbbepfjocgaa
open Go.RowKit
set_option maxRecDepth 100000

theorem uplain_any (n : Int) (w : World) : Calls Try.prog 24 #[.int .u8 n] w fun e w' => e = .returned (.bool (plainL n)) ∧ w' = w := by
  by_cases a1 : 65 ≤ n
  · by_cases a2 : n ≤ 90
    · have e : plainL n = true := by simp [plainL, a1, a2]
      rw [e]
      go_enter Try.func24, Try.ntmps24
      go_wp2
      go_ret
      exact ⟨rfl, rfl⟩
    · by_cases a3 : 97 ≤ n
      · by_cases a4 : n ≤ 122
        · have e : plainL n = true := by simp [plainL, a3, a4]
          rw [e]
          go_enter Try.func24, Try.ntmps24
          go_wp2
          go_ret
          exact ⟨rfl, rfl⟩
        · have e : plainL n = false := by simp [plainL, a2, a4]
          rw [e]
          go_enter Try.func24, Try.ntmps24
          go_wp2
          go_ret
          exact ⟨rfl, rfl⟩
      · have e : plainL n = false := by simp [plainL, a2, a3]
        rw [e]
        go_enter Try.func24, Try.ntmps24
        go_wp2
        go_ret
        exact ⟨rfl, rfl⟩
  · have a3 : ¬ 97 ≤ n := by omega
    have e : plainL n = false := by simp [plainL, a1, a3]
    rw [e]
    go_enter Try.func24, Try.ntmps24
    go_wp2
    go_ret
    exact ⟨rfl, rfl⟩
theorem udigit_any (n : Int) (w : World) : Calls Try.prog 23 #[.int .u8 n] w fun e w' => e = .returned (.bool (digitL n)) ∧ w' = w := by
  by_cases a1 : 48 ≤ n
  · by_cases a2 : n ≤ 57
    · have e : digitL n = true := by simp [digitL, a1, a2]
      rw [e]
      go_enter Try.func23, Try.ntmps23
      go_wp2
      go_ret
      exact ⟨rfl, rfl⟩
    · have e : digitL n = false := by simp [digitL, a2]
      rw [e]
      go_enter Try.func23, Try.ntmps23
      go_wp2
      go_ret
      exact ⟨rfl, rfl⟩
  · have e : digitL n = false := by simp [digitL, a1]
    rw [e]
    go_enter Try.func23, Try.ntmps23
    go_wp2
    go_ret
    exact ⟨rfl, rfl⟩

theorem sg_eq : ∀ c : Fin 256, decide (0 ≤ sgI c.val) = (!(decide (c.val ≤ 32) || decide (127 ≤ c.val) || digitL (c.val : Int) || plainL (c.val : Int)) && (decide (c.val ≠ 34) && decide (c.val ≠ 35) && decide (c.val ≠ 39) && decide (c.val ≠ 92) && decide (c.val ≠ 95) && decide (c.val ≠ 96))) := by decide +kernel
theorem sg_eqN (c : Nat) (hc : c < 256) : decide (0 ≤ sgI c) = (!(decide (c ≤ 32) || decide (127 ≤ c) || digitL (c : Int) || plainL (c : Int)) && (decide (c ≠ 34) && decide (c ≠ 35) && decide (c ≠ 39) && decide (c ≠ 92) && decide (c ≠ 95) && decide (c ≠ 96))) := sg_eq ⟨c, hc⟩
set_option maxHeartbeats 4000000 in
theorem usign_any (c : Nat) (w : World) (hc : c < 256) : Calls Try.prog 17 #[.int .u8 c] w fun e w' => e = .returned (.bool (decide (0 ≤ sgI c))) ∧ w' = w := by
  have hD := udigit_any (c : Int) w
  have hP := uplain_any (c : Int) w
  have hE := sg_eqN c hc
  by_cases q34 : c = 34
  · subst q34
    have hE2 : decide (0 ≤ sgI 34) = false := hE
    have hD2 : Calls Try.prog 23 #[.int .u8 34] w fun e w' => e = .returned (.bool false) ∧ w' = w := hD
    have hP2 : Calls Try.prog 24 #[.int .u8 34] w fun e w' => e = .returned (.bool false) ∧ w' = w := hP
    clear hD hP hE
    rw [hE2]
    go_enter Try.func17, Try.ntmps17
    go_wp2_with (first
      | (go_at_call 23; with_reducible refine hD2.mono ?_; rintro e wq ⟨rfl, hq⟩; subst wq)
      | (go_at_call 24; with_reducible refine hP2.mono ?_; rintro e wq ⟨rfl, hq⟩; subst wq)
      | fail)
    go_ret
    exact ⟨rfl, rfl⟩
  by_cases q35 : c = 35
  · subst q35
    have hE2 : decide (0 ≤ sgI 35) = false := hE
    have hD2 : Calls Try.prog 23 #[.int .u8 35] w fun e w' => e = .returned (.bool false) ∧ w' = w := hD
    have hP2 : Calls Try.prog 24 #[.int .u8 35] w fun e w' => e = .returned (.bool false) ∧ w' = w := hP
    clear hD hP hE
    rw [hE2]
    go_enter Try.func17, Try.ntmps17
    go_wp2_with (first
      | (go_at_call 23; with_reducible refine hD2.mono ?_; rintro e wq ⟨rfl, hq⟩; subst wq)
      | (go_at_call 24; with_reducible refine hP2.mono ?_; rintro e wq ⟨rfl, hq⟩; subst wq)
      | fail)
    go_ret
    exact ⟨rfl, rfl⟩
  by_cases q39 : c = 39
  · subst q39
    have hE2 : decide (0 ≤ sgI 39) = false := hE
    have hD2 : Calls Try.prog 23 #[.int .u8 39] w fun e w' => e = .returned (.bool false) ∧ w' = w := hD
    have hP2 : Calls Try.prog 24 #[.int .u8 39] w fun e w' => e = .returned (.bool false) ∧ w' = w := hP
    clear hD hP hE
    rw [hE2]
    go_enter Try.func17, Try.ntmps17
    go_wp2_with (first
      | (go_at_call 23; with_reducible refine hD2.mono ?_; rintro e wq ⟨rfl, hq⟩; subst wq)
      | (go_at_call 24; with_reducible refine hP2.mono ?_; rintro e wq ⟨rfl, hq⟩; subst wq)
      | fail)
    go_ret
    exact ⟨rfl, rfl⟩
  by_cases q92 : c = 92
  · subst q92
    have hE2 : decide (0 ≤ sgI 92) = false := hE
    have hD2 : Calls Try.prog 23 #[.int .u8 92] w fun e w' => e = .returned (.bool false) ∧ w' = w := hD
    have hP2 : Calls Try.prog 24 #[.int .u8 92] w fun e w' => e = .returned (.bool false) ∧ w' = w := hP
    clear hD hP hE
    rw [hE2]
    go_enter Try.func17, Try.ntmps17
    go_wp2_with (first
      | (go_at_call 23; with_reducible refine hD2.mono ?_; rintro e wq ⟨rfl, hq⟩; subst wq)
      | (go_at_call 24; with_reducible refine hP2.mono ?_; rintro e wq ⟨rfl, hq⟩; subst wq)
      | fail)
    go_ret
    exact ⟨rfl, rfl⟩
  by_cases q95 : c = 95
  · subst q95
    have hE2 : decide (0 ≤ sgI 95) = false := hE
    have hD2 : Calls Try.prog 23 #[.int .u8 95] w fun e w' => e = .returned (.bool false) ∧ w' = w := hD
    have hP2 : Calls Try.prog 24 #[.int .u8 95] w fun e w' => e = .returned (.bool false) ∧ w' = w := hP
    clear hD hP hE
    rw [hE2]
    go_enter Try.func17, Try.ntmps17
    go_wp2_with (first
      | (go_at_call 23; with_reducible refine hD2.mono ?_; rintro e wq ⟨rfl, hq⟩; subst wq)
      | (go_at_call 24; with_reducible refine hP2.mono ?_; rintro e wq ⟨rfl, hq⟩; subst wq)
      | fail)
    go_ret
    exact ⟨rfl, rfl⟩
  by_cases q96 : c = 96
  · subst q96
    have hE2 : decide (0 ≤ sgI 96) = false := hE
    have hD2 : Calls Try.prog 23 #[.int .u8 96] w fun e w' => e = .returned (.bool false) ∧ w' = w := hD
    have hP2 : Calls Try.prog 24 #[.int .u8 96] w fun e w' => e = .returned (.bool false) ∧ w' = w := hP
    clear hD hP hE
    rw [hE2]
    go_enter Try.func17, Try.ntmps17
    go_wp2_with (first
      | (go_at_call 23; with_reducible refine hD2.mono ?_; rintro e wq ⟨rfl, hq⟩; subst wq)
      | (go_at_call 24; with_reducible refine hP2.mono ?_; rintro e wq ⟨rfl, hq⟩; subst wq)
      | fail)
    go_ret
    exact ⟨rfl, rfl⟩
  by_cases a1 : c ≤ 32
  · have a1I : (c : Int) ≤ 32 := by omega
    rw [show decide (0 ≤ sgI c) = false by rw [hE]; simp [a1]]
    clear hE
    go_enter Try.func17, Try.ntmps17
    go_wp2_with (first
      | (go_at_call 23; with_reducible refine hD.mono ?_; rintro e wq ⟨rfl, hq⟩; subst wq)
      | (go_at_call 24; with_reducible refine hP.mono ?_; rintro e wq ⟨rfl, hq⟩; subst wq)
      | fail)
    go_ret
    exact ⟨rfl, rfl⟩
  have a1I : ¬ (c : Int) ≤ 32 := by omega
  by_cases a2 : 127 ≤ c
  · have a2I : (127 : Int) ≤ (c : Int) := by omega
    rw [show decide (0 ≤ sgI c) = false by rw [hE]; simp [a2]]
    clear hE
    go_enter Try.func17, Try.ntmps17
    go_wp2_with (first
      | (go_at_call 23; with_reducible refine hD.mono ?_; rintro e wq ⟨rfl, hq⟩; subst wq)
      | (go_at_call 24; with_reducible refine hP.mono ?_; rintro e wq ⟨rfl, hq⟩; subst wq)
      | fail)
    go_ret
    exact ⟨rfl, rfl⟩
  have a2I : ¬ (127 : Int) ≤ (c : Int) := by omega
  cases hd : digitL (c : Int) with
  | true =>
    rw [hd] at hD hE
    rw [show decide (0 ≤ sgI c) = false by rw [hE]; simp]
    clear hE
    go_enter Try.func17, Try.ntmps17
    go_wp2_with (first
      | (go_at_call 23; with_reducible refine hD.mono ?_; rintro e wq ⟨rfl, hq⟩; subst wq)
      | (go_at_call 24; with_reducible refine hP.mono ?_; rintro e wq ⟨rfl, hq⟩; subst wq)
      | fail)
    go_ret
    exact ⟨rfl, rfl⟩
  | false =>
    rw [hd] at hD hE
    cases hp : plainL (c : Int) with
    | true =>
      rw [hp] at hP hE
      rw [show decide (0 ≤ sgI c) = false by rw [hE]; simp]
      clear hE
      go_enter Try.func17, Try.ntmps17
      go_wp2_with (first
        | (go_at_call 23; with_reducible refine hD.mono ?_; rintro e wq ⟨rfl, hq⟩; subst wq)
        | (go_at_call 24; with_reducible refine hP.mono ?_; rintro e wq ⟨rfl, hq⟩; subst wq)
        | fail)
      go_ret
      exact ⟨rfl, rfl⟩
    | false =>
      rw [hp] at hP hE
      rw [show decide (0 ≤ sgI c) = true by rw [hE]; simp; omega]
      clear hE
      have n34 : ((c : Int) != 34) = true := by simp; omega
      have n35 : ((c : Int) != 35) = true := by simp; omega
      have n39 : ((c : Int) != 39) = true := by simp; omega
      have n92 : ((c : Int) != 92) = true := by simp; omega
      have n95 : ((c : Int) != 95) = true := by simp; omega
      have n96 : ((c : Int) != 96) = true := by simp; omega
      go_enter Try.func17, Try.ntmps17
      go_wp2_with (first
        | (go_at_call 23; with_reducible refine hD.mono ?_; rintro e wq ⟨rfl, hq⟩; subst wq)
        | (go_at_call 24; with_reducible refine hP.mono ?_; rintro e wq ⟨rfl, hq⟩; subst wq)
        | fail)
      go_ret
      exact ⟨rfl, rfl⟩
end Go.Proofs.Ytpndbbepfjocgaa
namespace Go.Proofs.Ytpndbbepfjocgaa
open Go.RowKit
set_option maxRecDepth 100000

theorem ba_ne {x y : ByteArray} (h : ¬ y = x) : (y.toList == x.toList) = false := by
  rw [beq_eq_false_iff_ne, Lib.toList_data, Lib.toList_data]
  intro e
  exact h (ByteArray.ext (Array.toList_inj.1 e))
theorem isSg_false {x : ByteArray} {j : Nat} (hj : j < x.size) (h : decide (0 ≤ sgI (bt x j)) = false) : isSg x = false := by
  unfold isSg
  rw [sgA_false x j x.size hj h]
  simp
theorem cont_no {G : List ByteArray} {k : Nat} {x : ByteArray} (h : ∀ i, i < k → G.getD i ByteArray.empty ≠ x) : Lib.containsS (G.take k) x = false := by
  cases hc : Lib.containsS (G.take k) x with
  | false => rfl
  | true =>
    exfalso
    obtain ⟨i, hi, he⟩ := List.getElem_of_mem ((Lib.containsS_iff _ _).1 hc)
    rw [List.length_take] at hi
    rw [List.getElem_take] at he
    refine h i (by omega) ?_
    rw [List.getD_eq_getElem?_getD, List.getElem?_eq_getElem (by omega), Option.getD_some]
    exact he
theorem cont_yes {G : List ByteArray} {k i : Nat} (hi : i < k) (hk : k ≤ G.length) : Lib.containsS (G.take k) (G.getD i ByteArray.empty) = true := by
  rw [Lib.containsS_iff]
  have hi2 : i < (G.take k).length := by rw [List.length_take]; omega
  have : (G.take k)[i] = G.getD i ByteArray.empty := by rw [List.getElem_take, List.getD_eq_getElem?_getD, List.getElem?_eq_getElem (by omega), Option.getD_some]
  rw [← this]
  exact List.getElem_mem hi2
set_option maxHeartbeats 4000000 in
theorem usigns_any (ao : Option Addr) (c : Nat) (G : List ByteArray) (w : World) (_ : G.length ≤ c) (hl : G.length ≤ 9223372036854775807) (hz : ∀ x ∈ G, x.size ≤ 9223372036854775807) (hr : GRd w ao G w.heap.size) :
    Calls Try.prog 11 #[.slice ao G.length c] w fun e w' => e = .returned (.bool (mayB G)) ∧ ∃ m, w' = w.drewN m := by
  by_cases h64 : 64 < G.length
  · have e : mayB G = false := by simp [mayB]; omega
    rw [e]
    have h64I : (64 : Int) < (G.length : Int) := by omega
    go_enter Try.func11, Try.ntmps11
    go_wp2_with fail
    go_ret
    exact ⟨rfl, 0, rfl⟩
  have h64I : ¬ (64 : Int) < (G.length : Int) := by omega
  obtain ⟨R, hR⟩ : ∃ R, mayB G = R := ⟨_, rfl⟩
  have HR : Hid (mayF G G.length = R) := by rw [Hid, ← hR]; simp [mayB]; intro _; omega
  have HG : Hid (GRd w ao G w.heap.size) := hr
  have HZ : Hid (∀ x ∈ G, x.size ≤ 9223372036854775807) := hz
  rw [hR]
  clear hR hr hz
  go_enter Try.func11, Try.ntmps11
  go_wp2_with fail
  go_loopw [3] (fun i wr => ∃ k m : Nat, k ≤ G.length ∧ i = .int .i64 k ∧ Hid (wr = w.drewN m) ∧ Hid (mayF G k = true)) (fun i _ => G.length - (intOf i).toNat)
  case atStart => exact ⟨0, 0, by omega, rfl, rfl, rfl⟩
  case round =>
    obtain ⟨k, m, hk, rfl, HW, HK⟩ := hrel
    by_cases hlt : k < G.length
    · have hltI : (k : Int) < (G.length : Int) := by omega
      obtain ⟨b, off, e, hb, hcell⟩ := HG.out (by omega)
      subst e
      have hck : wr.cell? ⟨b, off + k, none⟩ = some (.string (G.getD k ByteArray.empty)) := by rw [HW.out, World.cell?_drewN]; exact hcell k hlt
      have HC := hidK hcell
      have hxz := HZ.out _ (gmem hlt)
      have HM : Hid (mayF G (k + 1) = (isSg (G.getD k ByteArray.empty) && !Lib.containsS (G.take k) (G.getD k ByteArray.empty))) := by rw [Hid, mayF, HK.out]; rfl
      have HF : Hid ((isSg (G.getD k ByteArray.empty) && !Lib.containsS (G.take k) (G.getD k ByteArray.empty)) = false → R = false) := fun h => by rw [← HR.out]; exact mayF_false G k _ hlt h
      have HX : Hid (∀ i, i < k → G.getD i ByteArray.empty = G.getD k ByteArray.empty → Lib.containsS (G.take k) (G.getD k ByteArray.empty) = true) := fun i hi he => by rw [← he]; exact cont_yes hi hk
      clear hcell HG HK
      obtain ⟨x, hx⟩ : ∃ x, G.getD k ByteArray.empty = x := ⟨_, rfl⟩
      rw [hx] at hck hxz HM HF HX
      have HCk : Hid (w.cell? ⟨b, off + k, none⟩ = some (.string x)) := by rw [Hid, ← hx]; exact HC.out k hlt
      clear hx
      obtain ⟨n, hn⟩ : ∃ n, x.size = n := ⟨_, rfl⟩
      by_cases hn0 : n < 1
      · have hn0I : (n : Int) < 1 := by omega
        have HF2 : Hid (R = false) := HF.out (by unfold isSg; rw [hn]; simp; omega)
        rw [hn] at hxz
        go_wp2_with fail
        go_ret
        exact ⟨by rw [HF2.out]; rfl, _, HW.out⟩
      · have hn0I : ¬ (n : Int) < 1 := by omega
        by_cases hn3 : 3 < n
        · have hn3I : (3 : Int) < (n : Int) := by omega
          have HF2 : Hid (R = false) := HF.out (by unfold isSg; rw [hn]; simp; omega)
          rw [hn] at hxz
          go_wp2_with fail
          go_ret
          exact ⟨by rw [HF2.out]; rfl, _, HW.out⟩
        · have hn3I : ¬ (3 : Int) < (n : Int) := by omega
          have HN := hidK hn
          clear hxz
          go_wp2_with fail
          go_loopw [4] (fun i wq => ∃ j : Nat, j ≤ n ∧ i = .int .i64 j ∧ Hid (wq = w.drewN m) ∧ Hid (sgA x j = true)) (fun i _ => n - (intOf i).toNat)
          case atStart => exact ⟨0, by omega, rfl, HW, rfl⟩
          case round =>
            clear HW
            obtain ⟨j, hj, rfl, HW, HJ⟩ := hrel
            have hck : wr.cell? ⟨b, off + k, none⟩ = some (.string x) := by rw [HW.out, World.cell?_drewN]; exact HCk.out
            by_cases hjl : j < n
            · have hjx : j < x.size := by rw [HN.out]; exact hjl
              have hjI : (j : Int) < (n : Int) := by omega
              have hU := usign_any (bt x j) wr (bt_lt x j)
              have hgx := bt_get x j hjx
              have HFj : Hid (decide (0 ≤ sgI (bt x j)) = false → R = false) := fun h => HF.out (by rw [isSg_false hjx h]; rfl)
              have HTj : Hid (decide (0 ≤ sgI (bt x j)) = true → sgA x (j + 1) = true) := fun h => by rw [Hid] at HJ; rw [sgA, HJ, h]; rfl
              generalize decide (0 ≤ sgI (bt x j)) = r at *
              generalize bt x j = y at *
              clear HJ
              cases r with
              | false =>
                have HF2 : Hid (R = false) := HFj.out rfl
                clear HFj HTj
                go_wp2_with (first
                  | (go_at_call 17; with_reducible refine hU.mono ?_; rintro e wp ⟨rfl, hq⟩; subst wp)
                  | fail)
                go_ret
                exact ⟨by rw [HF2.out]; rfl, _, HW.out⟩
              | true =>
                have HT2 := hidK (HTj.out rfl)
                clear HFj HTj
                go_wp2_with (first
                  | (go_at_call 17; with_reducible refine hU.mono ?_; rintro e wp ⟨rfl, hq⟩; subst wp)
                  | fail)
                go_roundw
                case rel => exact ⟨j + 1, by omega, by go_num, HW, HT2⟩
                case measure => simp [intOf]; omega
            · obtain rfl : j = n := by omega
              have HS : Hid (isSg x = true) := by rw [Hid, isSg, HN.out, HJ.out]; simp; omega
              clear HJ
              go_wp2_with fail
              go_loopw [5] (fun i wp => ∃ j m : Nat, j ≤ k ∧ i = .int .i64 j ∧ Hid (wp = w.drewN m) ∧ Hid (∀ i, i < j → G.getD i ByteArray.empty ≠ x)) (fun i _ => k - (intOf i).toNat)
              case atStart => exact ⟨0, m, by omega, rfl, HW, fun i hi => by omega⟩
              case round =>
                clear HW hck
                obtain ⟨q, m, hq, rfl, HW, HQ⟩ := hrel
                have hck : wr.cell? ⟨b, off + k, none⟩ = some (.string x) := by rw [HW.out, World.cell?_drewN]; exact HCk.out
                by_cases hql : q < k
                · have hqI : (q : Int) < (k : Int) := by omega
                  have hqG : (q : Int) < (G.length : Int) := by omega
                  have hcq : wr.cell? ⟨b, off + q, none⟩ = some (.string (G.getD q ByteArray.empty)) := by rw [HW.out, World.cell?_drewN]; exact HC.out q (by omega)
                  have HXq : Hid (G.getD q ByteArray.empty = x → Lib.containsS (G.take k) x = true) := HX.out q hql
                  have HQq : Hid (G.getD q ByteArray.empty ≠ x → ∀ i, i < q + 1 → G.getD i ByteArray.empty ≠ x) := fun h i hi => by
                    by_cases h2 : i = q
                    · rw [h2]; exact h
                    · exact HQ.out i (by omega)
                  generalize G.getD q ByteArray.empty = y at *
                  by_cases hyx : y = x
                  · subst hyx
                    have HF2 : Hid (R = false) := HF.out (by rw [HXq.out rfl]; simp)
                    clear HXq HQq
                    go_wp2_with fail
                    go_quiet (fail)
                    go_wp2_with fail
                    go_ret
                    exact ⟨by rw [HF2.out]; rfl, _, by rw [HW.out, World.drewN_drewN]⟩
                  · have HQ2 := hidK (HQq.out hyx)
                    have hyx2 := ba_ne hyx
                    clear HXq HQq HQ
                    go_wp2_with fail
                    go_quiet (fail)
                    go_wp2_with fail
                    go_roundw
                    case rel => exact ⟨q + 1, _, by omega, by go_num, by rw [Hid, HW.out, World.drewN_drewN], HQ2⟩
                    case measure => simp [intOf]; omega
                · obtain rfl : q = k := by omega
                  have HM2 : Hid (mayF G (q + 1) = true) := by rw [Hid, HM.out, HS.out, cont_no HQ.out]; rfl
                  clear HQ HM
                  go_wp2_with fail
                  go_roundw
                  case rel => exact ⟨q + 1, m, by omega, by go_num, HW, HM2⟩
                  case measure => simp [intOf]; omega
    · obtain rfl : k = G.length := by omega
      have HE : Hid (R = true) := by rw [Hid, ← HR.out]; exact HK.out
      go_wp2_with fail
      go_ret
      exact ⟨by rw [HE.out]; rfl, _, HW.out⟩
end Go.Proofs.Ytpndbbepfjocgaa
