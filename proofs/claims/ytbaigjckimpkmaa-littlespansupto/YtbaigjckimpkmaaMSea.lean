import Derived.Test.YtbaigjckimpkmaaMDel
namespace Go.Proofs.Ytbaigjckimpkmaa
open Go.RowKit Go.WideShapes Go.Sort
set_option maxRecDepth 100000

set_option maxHeartbeats 1000000 in
theorem search_any (n g : Nat) (lb : Array Value) (pr : Nat → Bool) (w : World) (hn : n ≤ 1048576) (eg : ∀ args w, (callFunc g args).run Try.prog w = .ok (.enter g args) w)
    (hf : ∀ h : Nat, h < n → ∀ W, Below w.heap.size w W → Calls Try.prog g (#[.int .i64 (h : Int)] ++ lb) W fun e w' => e = .returned (.bool (pr h)) ∧ Below W.heap.size W w') :
    Calls Try.prog 49 #[.int .i64 (n : Int), .func (.func g) #[] lb] w fun e w' => (∃ i : Nat, e = .returned (.int .i64 i) ∧ i ≤ n ∧ (i = n ∨ pr i = true) ∧ (i = 0 ∨ pr (i - 1) = false)) ∧ Below w.heap.size w w' := by
  have HF := hidS hf
  clear hf
  go_enter Try.func49, Try.ntmps49
  go_wp2_with fail
  go_loopw [5, 6] (fun u v wr => ∃ i j : Nat, u = .int .i64 i ∧ v = .int .i64 j ∧ i ≤ j ∧ j ≤ n ∧ (j = n ∨ pr j = true) ∧ (i = 0 ∨ pr (i - 1) = false) ∧ Below w.heap.size w wr)
    (fun u v _ => (intOf v).toNat - (intOf u).toNat)
  case atStart => exact ⟨0, n, rfl, rfl, Nat.zero_le _, Nat.le_refl _, .inl rfl, .inl rfl, Below.refl _ _⟩
  case round =>
    obtain ⟨i, j, rfl, rfl, hij, hj, h1, h2, hb⟩ := hrel
    have H1 := hidS h1
    have H2 := hidS h2
    clear h1 h2
    by_cases hlt : i < j
    · have hltI : (i : Int) < (j : Int) := by omega
      have hC := HF.out ((i + j) / 2) (by omega) _ hb
      have hcast : ((((i + j) / 2 : Nat)) : Int) = ((i : Int) + (j : Int)) / 2 := by omega
      rw [hcast] at hC
      obtain ⟨m, hm⟩ : ∃ m : Nat, (i + j) / 2 = m := ⟨_, rfl⟩
      rw [hm] at hC
      have HM := hidS hm
      have hmI : ((i : Int) + (j : Int)) / 2 = (m : Int) := by omega
      rw [hmI] at hC
      clear hcast hm
      cases hp : pr m
      · rw [hp] at hC
        go_wp2_with fail
        with_reducible refine hC.mono ?_
        rintro e wq ⟨rfl, hq⟩
        go_wp2_with fail
        go_roundw
        case rel =>
          have := HM.out
          refine ⟨m + 1, j, by go_num, rfl, by omega, hj, H1.out, .inr (by simpa using hp), btS hb hq⟩
        case measure =>
          have := HM.out
          simp [intOf]; omega
      · rw [hp] at hC
        go_wp2_with fail
        with_reducible refine hC.mono ?_
        rintro e wq ⟨rfl, hq⟩
        go_wp2_with fail
        go_roundw
        case rel =>
          have := HM.out
          exact ⟨i, m, rfl, by go_num, by omega, by omega, .inr hp, H2.out, btS hb hq⟩
        case measure =>
          have := HM.out
          simp [intOf]; omega
    · obtain rfl : i = j := by omega
      have hltI : ¬ (i : Int) < (i : Int) := by omega
      go_wp2_with fail
      go_ret
      exact ⟨⟨i, rfl, hj, H1.out, H2.out⟩, hb⟩
end Go.Proofs.Ytbaigjckimpkmaa
