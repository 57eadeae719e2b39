import Derived.Test.YtfeiigfcihdimaaHRw
namespace Go.Proofs.Ytfeiigfcihdimaa
open Go.RowKit
set_option maxRecDepth 100000
theorem below_own {w w' : World} {B e s n : Nat} {v : Value} {xs : List Value} (h : w.ownsRow B e s v n xs) (hb : Below w.heap.size w w') : w'.ownsRow B e s v n xs := by
  have hl := h.lt
  refine ⟨h.1, ?_⟩
  rcases h.2 with ⟨a, b⟩ | ⟨g, cap, cur, a, b, c, d⟩
  · exact .inl ⟨a, b⟩
  · refine .inr ⟨g, cap, cur, a, b, ?_, d⟩
    rw [hb.block g (hl g (by rw [a]; rfl)).2]; exact c
set_option maxHeartbeats 4000000 in
theorem rargs_any (n : Nat) (w : World) : 16 ≤ n → n ≤ 39 → Calls Try.prog 13 #[.int .u32 (n : Int)] w fun e w' => e = .returned (.int .i64 (hct n)) ∧ Below w.heap.size w w' := fun h1 h2 => by
  have hW := rword_any n w (by omega)
  have : n = 16 ∨ n = 17 ∨ n = 18 ∨ n = 19 ∨ n = 20 ∨ n = 21 ∨ n = 22 ∨ n = 23 ∨ n = 24 ∨ n = 25 ∨ n = 26 ∨ n = 27 ∨ n = 28 ∨ n = 29 ∨ n = 30 ∨ n = 31 ∨ n = 32 ∨ n = 33 ∨ n = 34 ∨ n = 35 ∨ n = 36 ∨ n = 37 ∨ n = 38 ∨ n = 39 := by omega
  rcases this with rfl | rfl | rfl | rfl | rfl | rfl | rfl | rfl | rfl | rfl | rfl | rfl | rfl | rfl | rfl | rfl | rfl | rfl | rfl | rfl | rfl | rfl | rfl | rfl
  · rw [show hwd 16 = ⟨#[112, 114, 105, 110, 116]⟩ from by kernel_rfl] at hW
    rw [show hct 16 = 1 from by kernel_rfl]
    clear h1 h2
    go_enter Try.func13, Try.ntmps13
    go_wp2_with (go_at_call 11; refine hW.mono ?_; rintro e wq ⟨rfl, hb⟩; have HB := ghid hb; clear hb)
    go_ret
    exact ⟨rfl, HB.out⟩
  · rw [show hwd 17 = ⟨#[112, 117, 116]⟩ from by kernel_rfl] at hW
    rw [show hct 17 = 1 from by kernel_rfl]
    clear h1 h2
    go_enter Try.func13, Try.ntmps13
    go_wp2_with (go_at_call 11; refine hW.mono ?_; rintro e wq ⟨rfl, hb⟩; have HB := ghid hb; clear hb)
    go_ret
    exact ⟨rfl, HB.out⟩
  · rw [show hwd 18 = ⟨#[105, 110, 116]⟩ from by kernel_rfl] at hW
    rw [show hct 18 = 1 from by kernel_rfl]
    clear h1 h2
    go_enter Try.func13, Try.ntmps13
    go_wp2_with (go_at_call 11; refine hW.mono ?_; rintro e wq ⟨rfl, hb⟩; have HB := ghid hb; clear hb)
    go_ret
    exact ⟨rfl, HB.out⟩
  · rw [show hwd 19 = ⟨#[104, 101, 120]⟩ from by kernel_rfl] at hW
    rw [show hct 19 = 1 from by kernel_rfl]
    clear h1 h2
    go_enter Try.func13, Try.ntmps13
    go_wp2_with (go_at_call 11; refine hW.mono ?_; rintro e wq ⟨rfl, hb⟩; have HB := ghid hb; clear hb)
    go_ret
    exact ⟨rfl, HB.out⟩
  · rw [show hwd 20 = ⟨#[102, 108, 111, 97, 116]⟩ from by kernel_rfl] at hW
    rw [show hct 20 = 1 from by kernel_rfl]
    clear h1 h2
    go_enter Try.func13, Try.ntmps13
    go_wp2_with (go_at_call 11; refine hW.mono ?_; rintro e wq ⟨rfl, hb⟩; have HB := ghid hb; clear hb)
    go_ret
    exact ⟨rfl, HB.out⟩
  · rw [show hwd 21 = ⟨#[99, 108, 101, 97, 114]⟩ from by kernel_rfl] at hW
    rw [show hct 21 = 0 from by kernel_rfl]
    clear h1 h2
    go_enter Try.func13, Try.ntmps13
    go_wp2_with (go_at_call 11; refine hW.mono ?_; rintro e wq ⟨rfl, hb⟩; have HB := ghid hb; clear hb)
    go_ret
    exact ⟨rfl, HB.out⟩
  · rw [show hwd 22 = ⟨#[108, 101, 110, 103, 116, 104]⟩ from by kernel_rfl] at hW
    rw [show hct 22 = 1 from by kernel_rfl]
    clear h1 h2
    go_enter Try.func13, Try.ntmps13
    go_wp2_with (go_at_call 11; refine hW.mono ?_; rintro e wq ⟨rfl, hb⟩; have HB := ghid hb; clear hb)
    go_ret
    exact ⟨rfl, HB.out⟩
  · rw [show hwd 23 = ⟨#[114, 117, 110, 101, 115]⟩ from by kernel_rfl] at hW
    rw [show hct 23 = 1 from by kernel_rfl]
    clear h1 h2
    go_enter Try.func13, Try.ntmps13
    go_wp2_with (go_at_call 11; refine hW.mono ?_; rintro e wq ⟨rfl, hb⟩; have HB := ghid hb; clear hb)
    go_ret
    exact ⟨rfl, HB.out⟩
  · rw [show hwd 24 = ⟨#[112, 97, 114, 115, 101]⟩ from by kernel_rfl] at hW
    rw [show hct 24 = 2 from by kernel_rfl]
    clear h1 h2
    go_enter Try.func13, Try.ntmps13
    go_wp2_with (go_at_call 11; refine hW.mono ?_; rintro e wq ⟨rfl, hb⟩; have HB := ghid hb; clear hb)
    go_ret
    exact ⟨rfl, HB.out⟩
  · rw [show hwd 25 = ⟨#[112, 97, 114, 115, 101, 102]⟩ from by kernel_rfl] at hW
    rw [show hct 25 = 2 from by kernel_rfl]
    clear h1 h2
    go_enter Try.func13, Try.ntmps13
    go_wp2_with (go_at_call 11; refine hW.mono ?_; rintro e wq ⟨rfl, hb⟩; have HB := ghid hb; clear hb)
    go_ret
    exact ⟨rfl, HB.out⟩
  · rw [show hwd 26 = ⟨#[103, 101, 116]⟩ from by kernel_rfl] at hW
    rw [show hct 26 = 2 from by kernel_rfl]
    clear h1 h2
    go_enter Try.func13, Try.ntmps13
    go_wp2_with (go_at_call 11; refine hW.mono ?_; rintro e wq ⟨rfl, hb⟩; have HB := ghid hb; clear hb)
    go_ret
    exact ⟨rfl, HB.out⟩
  · rw [show hwd 27 = ⟨#[115, 101, 116]⟩ from by kernel_rfl] at hW
    rw [show hct 27 = 2 from by kernel_rfl]
    clear h1 h2
    go_enter Try.func13, Try.ntmps13
    go_wp2_with (go_at_call 11; refine hW.mono ?_; rintro e wq ⟨rfl, hb⟩; have HB := ghid hb; clear hb)
    go_ret
    exact ⟨rfl, HB.out⟩
  · rw [show hwd 28 = ⟨#[115, 101, 101, 100]⟩ from by kernel_rfl] at hW
    rw [show hct 28 = 1 from by kernel_rfl]
    clear h1 h2
    go_enter Try.func13, Try.ntmps13
    go_wp2_with (go_at_call 11; refine hW.mono ?_; rintro e wq ⟨rfl, hb⟩; have HB := ghid hb; clear hb)
    go_ret
    exact ⟨rfl, HB.out⟩
  · rw [show hwd 29 = ⟨#[114, 97, 110, 100, 111, 109]⟩ from by kernel_rfl] at hW
    rw [show hct 29 = 1 from by kernel_rfl]
    clear h1 h2
    go_enter Try.func13, Try.ntmps13
    go_wp2_with (go_at_call 11; refine hW.mono ?_; rintro e wq ⟨rfl, hb⟩; have HB := ghid hb; clear hb)
    go_ret
    exact ⟨rfl, HB.out⟩
  · rw [show hwd 30 = ⟨#[99, 108, 111, 99, 107]⟩ from by kernel_rfl] at hW
    rw [show hct 30 = 0 from by kernel_rfl]
    clear h1 h2
    go_enter Try.func13, Try.ntmps13
    go_wp2_with (go_at_call 11; refine hW.mono ?_; rintro e wq ⟨rfl, hb⟩; have HB := ghid hb; clear hb)
    go_ret
    exact ⟨rfl, HB.out⟩
  · rw [show hwd 31 = ⟨#[115, 113, 114, 116]⟩ from by kernel_rfl] at hW
    rw [show hct 31 = 1 from by kernel_rfl]
    clear h1 h2
    go_enter Try.func13, Try.ntmps13
    go_wp2_with (go_at_call 11; refine hW.mono ?_; rintro e wq ⟨rfl, hb⟩; have HB := ghid hb; clear hb)
    go_ret
    exact ⟨rfl, HB.out⟩
  · rw [show hwd 32 = ⟨#[102, 108, 111, 111, 114]⟩ from by kernel_rfl] at hW
    rw [show hct 32 = 1 from by kernel_rfl]
    clear h1 h2
    go_enter Try.func13, Try.ntmps13
    go_wp2_with (go_at_call 11; refine hW.mono ?_; rintro e wq ⟨rfl, hb⟩; have HB := ghid hb; clear hb)
    go_ret
    exact ⟨rfl, HB.out⟩
  · rw [show hwd 33 = ⟨#[97, 98, 115]⟩ from by kernel_rfl] at hW
    rw [show hct 33 = 1 from by kernel_rfl]
    clear h1 h2
    go_enter Try.func13, Try.ntmps13
    go_wp2_with (go_at_call 11; refine hW.mono ?_; rintro e wq ⟨rfl, hb⟩; have HB := ghid hb; clear hb)
    go_ret
    exact ⟨rfl, HB.out⟩
  · rw [show hwd 34 = ⟨#[97, 100, 100]⟩ from by kernel_rfl] at hW
    rw [show hct 34 = 3 from by kernel_rfl]
    clear h1 h2
    go_enter Try.func13, Try.ntmps13
    go_wp2_with (go_at_call 11; refine hW.mono ?_; rintro e wq ⟨rfl, hb⟩; have HB := ghid hb; clear hb)
    go_ret
    exact ⟨rfl, HB.out⟩
  · rw [show hwd 35 = ⟨#[109, 117, 108]⟩ from by kernel_rfl] at hW
    rw [show hct 35 = 3 from by kernel_rfl]
    clear h1 h2
    go_enter Try.func13, Try.ntmps13
    go_wp2_with (go_at_call 11; refine hW.mono ?_; rintro e wq ⟨rfl, hb⟩; have HB := ghid hb; clear hb)
    go_ret
    exact ⟨rfl, HB.out⟩
  · rw [show hwd 36 = ⟨#[100, 105, 118]⟩ from by kernel_rfl] at hW
    rw [show hct 36 = 3 from by kernel_rfl]
    clear h1 h2
    go_enter Try.func13, Try.ntmps13
    go_wp2_with (go_at_call 11; refine hW.mono ?_; rintro e wq ⟨rfl, hb⟩; have HB := ghid hb; clear hb)
    go_ret
    exact ⟨rfl, HB.out⟩
  · rw [show hwd 37 = ⟨#[116, 117, 114, 110]⟩ from by kernel_rfl] at hW
    rw [show hct 37 = 3 from by kernel_rfl]
    clear h1 h2
    go_enter Try.func13, Try.ntmps13
    go_wp2_with (go_at_call 11; refine hW.mono ?_; rintro e wq ⟨rfl, hb⟩; have HB := ghid hb; clear hb)
    go_ret
    exact ⟨rfl, HB.out⟩
  · rw [show hwd 38 = ⟨#[102, 97, 114]⟩ from by kernel_rfl] at hW
    rw [show hct 38 = 1 from by kernel_rfl]
    clear h1 h2
    go_enter Try.func13, Try.ntmps13
    go_wp2_with (go_at_call 11; refine hW.mono ?_; rintro e wq ⟨rfl, hb⟩; have HB := ghid hb; clear hb)
    go_ret
    exact ⟨rfl, HB.out⟩
  · rw [show hwd 39 = ⟨#[119, 97, 118, 101]⟩ from by kernel_rfl] at hW
    rw [show hct 39 = 3 from by kernel_rfl]
    clear h1 h2
    go_enter Try.func13, Try.ntmps13
    go_wp2_with (go_at_call 11; refine hW.mono ?_; rintro e wq ⟨rfl, hb⟩; have HB := ghid hb; clear hb)
    go_ret
    exact ⟨rfl, HB.out⟩
set_option maxHeartbeats 4000000 in
theorem rgrants_any (w : World) : Calls Try.prog 5 #[] w fun e w' => ∃ v, e = .returned v ∧ w'.ownsRow w.heap.size 37 2 v 24 (gv (hgs 24)) ∧ Below w.heap.size w w' := by
  obtain ⟨i0, hi, hz0, hz1, hz2⟩ := info_parts Try.infoG
  go_enter Try.func5, Try.ntmps5
  go_wp2
  go_loopw [1, 2] (fun v i wr => ∃ k : Nat, i = .int .u32 ((16 + k : Nat) : Int) ∧ k ≤ 24 ∧ wr.ownsRow w.heap.size 37 2 v k (gv (hgs k)) ∧ Below w.heap.size w wr) (fun _ i _ => 40 - (intOf i).toNat)
  case atStart => exact ⟨0, rfl, by omega, World.ownsRow_nil _ _ _ _, Below.refl _ _⟩
  case round =>
    obtain ⟨k, rfl, hk, hown, hb⟩ := hrel
    have HO := ghid hown
    have HB := ghid hb
    have hB := hb.size
    by_cases hlt : k < 24
    · have hA := rargs_any (16 + k) wr (by omega) (by omega)
      have HS := ghid (hgs_snoc k)
      have hd : ((16 + k : Nat) : Int) ≤ 39 := by omega
      clear hown hb
      generalize hct (16 + k) = c at *
      generalize hK : 16 + k = K at *
      go_wp2_with (first
        | (go_at_call 13; refine hA.mono ?_; rintro e wq ⟨rfl, hq⟩; have HO2 := ghid (below_own HO.out hq); have HB2 := ghid (HB.out.trans (hq.mono hB)); have hB2 := HB2.out.size; clear hq HO HB)
        | (at_builtin; (refine wpList_append_own _ rfl _ _ 23 rfl w.heap.size 37 i0 (.agg #[.int .u32 0, .int .i64 0]) 2 16 Try.underlying23 hi hz0 hz1 hz2 rfl (by decide) _ _ _ rfl (HO2.out.alloc _) ⟨_, 0, none⟩ 1 1 [.int .u32 (K : Int), .int .i64 c] rfl rfl h_two h_two1 (by unfold maxLen; omega) (by omega) (by simp; omega) ?_; intro v3 w3 own3 hg3 _)))
      have HR := ghid (And.intro own3 ((HB2.out.alloc hB2 _).grown hg3 (by simp; omega) (fun q e => (HO2.out.lt q e).1)))
      clear own3 hg3
      go_roundw
      case rel => exact ⟨k + 1, by subst hK; go_num, by omega, by rw [HS.out, gv_append]; simpa [gv] using HR.out.1, HR.out.2⟩
      case measure => simp [intOf]; omega
    · have hk4 : k = 24 := by omega
      subst hk4
      clear hown hb
      go_wp2
      go_ret
      exact ⟨_, rfl, HO.out, HB.out⟩
set_option maxHeartbeats 1000000 in
theorem rbyword_any (s : ByteArray) (w : World) :
    Calls Try.prog 7 #[.string s] w fun e w' => e = .returned (.tuple #[.int .u32 (hby s), .bool (!(hby s == 0))]) ∧ Below w.heap.size w w' := by
  have hO := rword_any
  go_enter Try.func7, Try.ntmps7
  go_wp2
  go_loopw [4] (fun i wr => ∃ k : Nat, 16 ≤ k ∧ k ≤ 40 ∧ i = .int .u32 k ∧ Below w.heap.size w wr ∧ hbF s k (40 - k) = hby s)
      (fun i _ => 40 - (intOf i).toNat)
  case atStart => exact ⟨16, Nat.le_refl _, by omega, rfl, Below.refl _ _, rfl⟩
  case round =>
    obtain ⟨k, h1, h60, rfl, hw2, hby'⟩ := hrel
    by_cases hlt : k < 40
    · have hw := hO k wr (by omega)
      clear hO
      have HW2 : Hid (Below w.heap.size w wr) := hw2
      have hB := hw2.size
      have hle : (k : Int) ≤ 39 := by omega
      rw [show 40 - k = (39 - k) + 1 by omega] at hby'
      clear hw2
      by_cases he : hwd k = s
      · rw [hbF_hit s k _ he] at hby'
        rw [he] at hw
        clear he
        have HB : Hid (k = hby s) := hby'
        clear hby'
        go_wp2_with (go_at_call 11; refine hw.mono ?_; rintro e wq ⟨rfl, hq⟩; have HQ := ghid (HW2.out.trans (hq.mono hB)); clear hq)
        go_ret2
        exact ⟨by rw [← HB.out]; congr; simp; omega, HQ.out⟩
      · rw [hbF_miss s k _ he] at hby'
        have HB : Hid (hbF s (k + 1) (39 - k) = hby s) := hby'
        clear hby'
        generalize hwd k = W at *
        have hbe := hlne he
        clear he
        go_wp2_with (go_at_call 11; refine hw.mono ?_; rintro e wq ⟨rfl, hq⟩; have HQ := ghid (HW2.out.trans (hq.mono hB)); clear hq)
        go_roundw
        case rel => exact ⟨k + 1, by omega, by omega, by go_num, HQ.out, by rw [show 40 - (k + 1) = 39 - k by omega]; exact HB.out⟩
        case measure => simp [intOf]; omega
    · have : k = 40 := by omega
      subst this
      have HB : Hid (0 = hby s) := hby'
      clear hby'
      go_wp2
      go_ret2
      exact ⟨by rw [← HB.out]; rfl, hw2⟩
end Go.Proofs.Ytfeiigfcihdimaa
