import Derived.Test.YtldeodnlppjbcaaKSg
namespace Go.Proofs.Ytldeodnlppjbcaa
open Go.RowKit
set_option maxRecDepth 100000

/-- what a slice of strings that is read holds -/
def GRd (w : World) (ao : Option Addr) (G : List ByteArray) (B : Nat) : Prop :=
  0 < G.length → ∃ b off, ao = some ⟨b, off, none⟩ ∧ b < B ∧ ∀ j, j < G.length → w.cell? ⟨b, off + j, none⟩ = some (.string (G.getD j ByteArray.empty))
theorem GRd.below {w w' : World} {ao : Option Addr} {G : List ByteArray} {B : Nat} (h : GRd w ao G B) (hb : Below B w w') : GRd w' ao G B := by
  intro hl
  obtain ⟨b, off, e, hlt, hc⟩ := h hl
  exact ⟨b, off, e, hlt, fun j hj => (hb.cell (p := ⟨b, off + j, none⟩) hlt).trans (hc j hj)⟩
theorem GRd.mono {w : World} {ao : Option Addr} {G : List ByteArray} {B C : Nat} (h : GRd w ao G B) (hb : B ≤ C) : GRd w ao G C := by
  intro hl
  obtain ⟨b, off, e, hlt, hc⟩ := h hl
  exact ⟨b, off, e, Nat.lt_of_lt_of_le hlt hb, hc⟩
theorem gmem {G : List ByteArray} {k : Nat} (h : k < G.length) : G.getD k ByteArray.empty ∈ G := by
  rw [List.getD_eq_getElem?_getD, List.getElem?_eq_getElem h]; exact List.getElem_mem h
theorem contains_any (ao : Option Addr) (G : List ByteArray) (k c : Nat) (x : ByteArray) (w : World) (B : Nat) (hk : k ≤ G.length) (hl : G.length ≤ 64) (hr : GRd w ao G B) :
    Calls Try.prog 23 #[.slice ao k c, .string x] w fun e w' => e = .returned (.bool (Lib.containsS (G.take k) x)) ∧ w' = w := by
  by_cases h0 : k = 0
  · subst h0
    exact Try.slices_Contains_string_empty ao c x w
  · obtain ⟨b, off, rfl, _, hc⟩ := hr (by omega)
    exact Try.slices_Contains_string b off k c G x w hk (by omega) hc
set_option maxHeartbeats 2000000 in
theorem mayBe_any (ao : Option Addr) (c : Nat) (G : List ByteArray) (w : World) (hc : G.length ≤ c) (hl : G.length ≤ 9223372036854775807) (hz : ∀ x ∈ G, x.size ≤ 9223372036854775807) (hr : GRd w ao G w.heap.size) :
    Calls Try.prog 16 #[.slice ao G.length c] w fun e w' => e = .returned (.bool (mayB G)) ∧ w' = w := by
  by_cases h64 : 64 < G.length
  · have e : mayB G = false := by simp [mayB]; omega
    rw [e]
    have h64I : (64 : Int) < (G.length : Int) := by omega
    go_enter Try.func16, Try.ntmps16
    go_wp2_with fail
    go_ret
    exact ⟨rfl, rfl⟩
  have h64I : ¬ (64 : Int) < (G.length : Int) := by omega
  obtain ⟨R, hR⟩ : ∃ R, mayB G = R := ⟨_, rfl⟩
  have HR : Hid (mayF G G.length = R) := by rw [Hid, ← hR]; simp [mayB]; intro _; omega
  have HG : Hid (GRd w ao G w.heap.size) := hr
  have HZ : Hid (∀ x ∈ G, x.size ≤ 9223372036854775807) := hz
  have HCn : Hid (∀ k x, k ≤ G.length → Calls Try.prog 23 #[.slice ao k c, .string x] w fun e w' => e = .returned (.bool (Lib.containsS (G.take k) x)) ∧ w' = w) := fun k x hk => contains_any ao G k c x w _ hk (by omega) hr
  rw [hR]
  clear hR hr hz
  go_enter Try.func16, Try.ntmps16
  go_wp2_with fail
  go_loopw [10] (fun i wr => ∃ k : Nat, k ≤ G.length ∧ i = .int .i64 k ∧ wr = w ∧ Hid (mayF G k = true)) (fun i _ => G.length - (intOf i).toNat)
  case atStart => exact ⟨0, by omega, rfl, rfl, rfl⟩
  case round =>
    obtain ⟨k, hk, rfl, rfl, HK⟩ := hrel
    by_cases hlt : k < G.length
    · have hltI : (k : Int) < (G.length : Int) := by omega
      have hkc : (k : Int) ≤ (c : Int) := by omega
      obtain ⟨b, off, e, hb, hcell⟩ := HG.out (by omega)
      subst e
      have hck := hcell k hlt
      have hS := isSign_any (G.getD k ByteArray.empty) wr (HZ.out _ (gmem hlt))
      have hC := HCn.out k (G.getD k ByteArray.empty) hk
      have HM : Hid (mayF G (k + 1) = (isSg (G.getD k ByteArray.empty) && !Lib.containsS (G.take k) (G.getD k ByteArray.empty))) := by rw [Hid, mayF, HK.out]; rfl
      have HF : Hid ((isSg (G.getD k ByteArray.empty) && !Lib.containsS (G.take k) (G.getD k ByteArray.empty)) = false → R = false) := fun h => by rw [← HR.out]; exact mayF_false G k _ hlt h
      clear hcell HCn HG HK
      generalize G.getD k ByteArray.empty = x at *
      generalize Lib.containsS (G.take k) x = cs at *
      cases hs : isSg x with
      | false =>
        rw [hs] at hS HF
        have HF2 : Hid (R = false) := HF.out rfl
        clear HF HM
        go_wp2_with (first
          | (go_at_call 22; with_reducible refine hS.mono ?_; rintro e wq ⟨rfl, hq⟩; subst wq)
          | fail)
        go_ret
        exact ⟨by rw [HF2.out]; rfl, rfl⟩
      | true =>
        rw [hs] at hS HF HM
        cases cs with
        | true =>
          have HF2 : Hid (R = false) := HF.out rfl
          clear HF HM
          go_wp2_with (first
            | (go_at_call 22; with_reducible refine hS.mono ?_; rintro e wq ⟨rfl, hq⟩; subst wq)
            | (go_at_call 23; with_reducible refine hC.mono ?_; rintro e wq ⟨rfl, hq⟩; subst wq)
            | fail)
          go_ret
          exact ⟨by rw [HF2.out]; rfl, rfl⟩
        | false =>
          have HM2 : Hid (mayF G (k + 1) = true) := HM.out
          clear HF HM
          go_wp2_with (first
            | (go_at_call 22; with_reducible refine hS.mono ?_; rintro e wq ⟨rfl, hq⟩; subst wq)
            | (go_at_call 23; with_reducible refine hC.mono ?_; rintro e wq ⟨rfl, hq⟩; subst wq)
            | fail)
          go_roundw
          case rel => exact ⟨k + 1, by omega, by go_num, trivial, HM2⟩
          case measure => simp [intOf]; omega
    · obtain rfl : k = G.length := by omega
      have HS : Hid (R = true) := by rw [Hid, ← HR.out]; exact HK.out
      clear HK HR
      go_wp2_with fail
      go_ret
      exact ⟨by rw [HS.out]; rfl, rfl⟩
end Go.Proofs.Ytldeodnlppjbcaa
