import Derived.Test.YtihnkeflcnndpaaDoorCPTg
namespace Go.Proofs.YtihnkeflcnndpaaDoor
open Go.RowKit Go.WideShapes Go.Shelf
set_option maxRecDepth 100000

/-- names that are read -/
def NRd (w : World) (ao : Option Addr) (M : List (ByteArray × Nat)) (B : Nat) : Prop :=
  0 < M.length → ∃ b off, ao = some ⟨b, off, none⟩ ∧ b < B ∧ ∀ j, j < M.length → w.cell? ⟨b, off + j * 2, none⟩ = some (.string (M.getD j (.empty, 0)).1) ∧ w.cell? ⟨b, off + j * 2 + 1, none⟩ = some (.int .u32 ((M.getD j (.empty, 0)).2 : Nat))
theorem NRd.below {w w' : World} {ao : Option Addr} {M : List (ByteArray × Nat)} {B : Nat} (h : NRd w ao M B) (hb : Below B w w') : NRd w' ao M B := by
  intro hl
  obtain ⟨b, off, e, hlt, hc⟩ := h hl
  exact ⟨b, off, e, hlt, fun j hj => ⟨(hb.cell (p := ⟨b, off + j * 2, none⟩) hlt).trans (hc j hj).1, (hb.cell (p := ⟨b, off + j * 2 + 1, none⟩) hlt).trans (hc j hj).2⟩⟩
/-- does a name stand for a procedure? -/
def okN (L : List (Nat × Nat)) (M : List (ByteArray × Nat)) (i : Nat) : Bool := isEn L (M.getD i (.empty, 0)).2
/-- what checkNames answers -/
def NmR (L : List (Nat × Nat)) (M : List (ByteArray × Nat)) (i x : Nat) : Prop :=
  (i = 0 ∧ x = 0 ∧ ∀ j, j < M.length → okN L M j = true) ∨ (x = 135 ∧ i < M.length ∧ okN L M i = false ∧ ∀ j, j < i → okN L M j = true)
set_option maxHeartbeats 2000000 in
theorem checkn_any {B pp p1 g1 p2 g2 n : Nat} {lv : Value} {Ps : List (Nat × Nat × Nat)} {L : List (Nat × Nat)} {A C : List Nat} (an : Option Addr) (capn : Nat) (M : List (ByteArray × Nat)) (w : World) (hA : ∀ x, hasW A x = isEn L x) (hn : M.length ≤ 9223372036854775807) (hM : ∀ j, j < M.length → (M.getD j (.empty, 0)).2 < 4294967296) (hr : NRd w an M w.heap.size)
    (h : PrS w B pp p1 g1 p2 g2 n lv Ps A C) :
    Calls Tryd.prog 37 #[.pointer (some ⟨pp, 0, none⟩), .slice an M.length capn] w fun e w' => ∃ i x : Nat, e = .returned (.tuple #[.int .i64 i, .int .i64 x]) ∧ NmR L M i x ∧ Below w.heap.size w w' := by
  have HB : Hid (∀ (z : Nat) W, z < 4294967296 → Below w.heap.size w W → Calls Tryd.prog 15 #[.pointer (some ⟨pp, 0, none⟩), .int .u32 z] W fun e w' => e = .returned (.bool (isEn L z)) ∧ w' = W) := hidS (fun z W hz hW => by rw [← hA]; exact pbegins_any _ W hz (h.below hW))
  clear h
  go_enter Tryd.func37, Tryd.ntmps37
  go_wp2
  go_loopw [10] (fun u wr => ∃ k : Nat, u = .int .i64 k ∧ k ≤ M.length ∧ (∀ j, j < k → okN L M j = true) ∧ Below w.heap.size w wr)
    (fun u _ => M.length - (intOf u).toNat)
  case atStart => exact ⟨0, rfl, Nat.zero_le _, fun j hj => absurd hj (by omega), Below.refl _ _⟩
  case round =>
    obtain ⟨k, rfl, hk, hok, hbw⟩ := hrel
    have HOk := hidS hok
    have HBW := hidS hbw
    clear hok
    by_cases hlt : k < M.length
    · have hltI : (k : Int) < (M.length : Int) := by omega
      obtain ⟨b, off, rfl, hb, hc⟩ := hr (by omega)
      have v0 := (hbw.cell (p := ⟨b, off + k * 2, none⟩) hb).trans (hc k hlt).1
      have v1 := (hbw.cell (p := ⟨b, off + k * 2 + 1, none⟩) hb).trans (hc k hlt).2
      have hz := hM k hlt
      have HOKK : Hid (okN L M k = isEn L (M.getD k (.empty, 0)).2) := hidS rfl
      generalize (M.getD k (.empty, 0)).2 = z at v1 hz HOKK
      generalize (M.getD k (.empty, 0)).1 = s at v0
      have hBg := HB.out z (wr.alloc (Obj.cells #[.string s, .int .u32 (z : Int)] 61)) hz (belP hbw)
      clear hc
      cases hen : isEn L z with
      | true =>
        rw [hen] at hBg
        go_wp2_with (go_at_call 15; refine hBg.mono ?_; rintro e w3 ⟨rfl, hw3⟩; have hw3 := hw3.symm; subst hw3)
        go_roundw
        case rel => exact ⟨k + 1, by go_num, by omega, fun j hj => by
          by_cases hj2 : j < k
          · exact HOk.out j hj2
          · rw [show j = k by omega, HOKK.out, hen], belP HBW.out⟩
        case measure => simp [intOf]; omega
      | false =>
        rw [hen] at hBg
        go_wp2_with (go_at_call 15; refine hBg.mono ?_; rintro e w3 ⟨rfl, hw3⟩; have hw3 := hw3.symm; subst hw3)
        refine bodyPost_ret (results_tmp2 rfl _ _ _) rfl ?_
        exact ⟨k, 135, rfl, .inr ⟨rfl, hlt, by rw [HOKK.out, hen], HOk.out⟩, belP HBW.out⟩
    · have hke : k = M.length := by omega
      subst hke
      have hltI : ¬ (M.length : Int) < (M.length : Int) := by omega
      go_wp2
      refine bodyPost_ret (results_tmp2 rfl _ _ _) rfl ?_
      exact ⟨0, 0, rfl, .inl ⟨rfl, rfl, HOk.out⟩, hbw⟩
end Go.Proofs.YtihnkeflcnndpaaDoor
