import Derived.Test.YtecbdjhhdhpmhaaBytes
import Derived.Deep.QuietTactic
import Derived.BigQuiet
import Derived.WalkSmall
namespace Go.Proofs.Ytecbdjhhdhpmhaa
open Go.RowKit

theorem own_reads {w : World} {B : Nat} {v : Value} {zs : List Int} (h : w.ownsRow B 5 1 v zs.length (bv zs)) : ∃ ao cap, v = .slice ao zs.length cap ∧ Reads w ao zs w.heap.size := by
  have h' := h
  have hlt := h.lt
  rcases h.2 with ⟨rfl, hz⟩ | ⟨g, cap, cur, rfl, _⟩
  · have hl : zs.length = 0 := by simpa using hz
    exact ⟨none, 0, by rw [hl], fun hp => by omega⟩
  · exact ⟨_, cap, rfl, fun _ => ⟨g, 0, rfl, (hlt g rfl).2, fun j hj => own_cell h' hj⟩⟩

set_option maxRecDepth 100000 in
set_option maxHeartbeats 2000000 in
theorem same_any (ao bo : Option Addr) (ca cb : Nat) (zs : List Int) (w : World) (ha : Reads w ao zs w.heap.size) (hr : Reads w bo zs w.heap.size) (hn : zs.length ≤ 1048576) :
    Calls Try.prog 14 #[.slice ao zs.length ca, .slice bo zs.length cb] w fun e w' => e = .returned (.bool true) ∧ Below w.heap.size w w' := by
  go_enter Try.func14, Try.ntmps14
  go_wp2
  go_loopw [5] (fun i wr => ∃ k : Nat, k ≤ zs.length ∧ i = .int .i64 k ∧ Below w.heap.size w wr)
    (fun i _ => zs.length - (intOf i).toNat)
  case atStart => exact ⟨0, Nat.zero_le _, rfl, Below.refl _ _⟩
  case round =>
    obtain ⟨k, hk, rfl, hb⟩ := hrel
    by_cases hlt : k < zs.length
    · obtain ⟨b, off, rfl, hbl, hc⟩ := (hr.below hb) (by omega)
      obtain ⟨b2, off2, rfl, hbl2, hc2⟩ := (ha.below hb) (by omega)
      have hck := hc k hlt
      have hck2 := hc2 k hlt
      clear hc hc2
      generalize zs.getD k 0 = c at hck hck2
      have hlt' : (k : Int) < (zs.length : Int) := by omega
      go_wp2
      go_quiet (fail)
      go_wp2
      go_roundw
      case rel => exact ⟨k + 1, by omega, by go_num, below_drewN hb _⟩
      case measure => simp [intOf]; omega
    · go_wp2
      go_ret
      exact ⟨rfl, hb⟩

theorem lit_len (zs : List Int) : zs.length + 2 ≤ (lit zs).length := by
  have h : ∀ l : List Int, l.length ≤ (l.flatMap esc).length := by
    intro l
    induction l with
    | nil => simp
    | cons a l ih => have := esc_pos a; simp only [List.flatMap_cons, List.length_append, List.length_cons]; omega
  have := h zs
  simp only [lit, sh, List.length_append, List.length_cons, List.length_nil, List.take_length]
  omega

set_option maxRecDepth 100000 in
set_option maxHeartbeats 2000000 in
theorem back_any (ao : Option Addr) (cap : Nat) (zs : List Int) (w : World) (hn : zs.length ≤ 1048576) (hwf : ∀ z ∈ zs, 0 ≤ z ∧ z ≤ 255) (hr : Reads w ao zs w.heap.size) :
    Calls Try.prog 6 #[.slice ao zs.length cap] w fun e w' => e = .returned (.bool true) ∧ Below w.heap.size w w' := by
  have hl2 := lit_len zs
  have hl3 := sh_len zs zs.length
  have hl4 := (lit_end zs).1
  have hSz : (strOfNums (lit zs)).size = (lit zs).length := strOfNums_size _
  have HB : Hid (∀ j, j < (lit zs).length → 32 ≤ bt (strOfNums (lit zs)) j ∧ bt (strOfNums (lit zs)) j ≤ 126) := fun j hj => by
    have h1 := lit_range zs hwf j hj
    have h2 := bt_str (lit zs) j (by omega) (by omega)
    omega
  obtain ⟨N, hN⟩ : ∃ N, (lit zs).length = N := ⟨_, rfl⟩
  rw [hN] at hl2 hl4 hSz HB
  have hN4 : N ≤ 4194306 := by omega
  have d0 : decide ((N : Int) < (zs.length : Int) + 2) = false := by simp; omega
  have d1 : decide (N < zs.length + 2) = false := by simp; omega
  obtain ⟨S, hS⟩ : ∃ S, strOfNums (lit zs) = S := ⟨_, rfl⟩
  have HBy : Hid (∀ W : World, Calls Try.prog 13 #[.string S] W fun e w' => ∃ v, e = .returned (.tuple #[v, .int .i64 0, .int .i64 0]) ∧ w'.ownsRow W.heap.size 5 1 v zs.length (bv zs) ∧ Below W.heap.size W w') := fun W => by
    have := bytes_lit zs W hn hwf
    rwa [hS] at this
  rw [hS] at hSz HB
  have HSh : Hid (strOfNums (sh zs zs.length ++ [34]) = S) := hS
  clear hN hS hl3 hl4
  go_enter Try.func6, Try.ntmps6
  go_wp2_with (go_at_call 8; refine (show_any _ _ zs _ hn hwf hr).mono ?_; rintro e w1 ⟨rfl, hb1⟩; rw [HSh.out])
  go_loop [4] (fun i => ∃ k : Nat, k ≤ N ∧ i = .int .i64 k) (fun i => N - (intOf i).toNat)
  case atStart => exact ⟨0, Nat.zero_le _, rfl⟩
  case round =>
    obtain ⟨k, hk, rfl⟩ := hrel
    by_cases hlt : k < N
    · have hkS : k < S.size := by omega
      have hltI : (k : Int) < (N : Int) := by omega
      obtain ⟨y, hy⟩ : ∃ y, y = bt S k := ⟨_, rfl⟩
      have hyr := HB.out k hlt
      rw [← hy] at hyr
      rw [bt_eq S k hkS] at hy
      have hsy : (S[k]'hkS).toNat = y := hy.symm
      clear hy
      obtain ⟨y0, y1⟩ := hyr
      have y0I : ¬ (y : Int) < 32 := by omega
      have y1I : ¬ 126 < (y : Int) := by omega
      go_wp2
      go_round
      case rel => exact ⟨k + 1, by omega, by go_num⟩
      case measure => simp [intOf]; omega
    · have hkN : ¬ (k : Int) < (N : Int) := by omega
      go_wp2_with (first | (go_at_call 13; refine (HBy.out _).mono ?_; rintro e w2 ⟨v, rfl, hown, hb2⟩; obtain ⟨ao2, cap2, hv, hr2⟩ := own_reads hown; subst hv; have hr3 := (hr.below hb1).below (hb2.mono hb1.size)) | (go_at_call 14; refine (same_any _ _ _ _ zs _ hr2 (fun hp => by obtain ⟨b, off, e1, e2, e3⟩ := hr3 hp; exact ⟨b, off, e1, by have := hb1.size; have := hb2.size; omega, e3⟩) hn).mono ?_; rintro e w3 ⟨rfl, hb3⟩))
      go_ret
      exact ⟨rfl, hb1.trans ((hb2.mono hb1.size).trans (hb3.mono (Nat.le_trans hb1.size hb2.size)))⟩
end Go.Proofs.Ytecbdjhhdhpmhaa
