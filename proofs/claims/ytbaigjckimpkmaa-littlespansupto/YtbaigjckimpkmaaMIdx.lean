import Derived.Test.YtbaigjckimpkmaaMLap
namespace Go.Proofs.Ytbaigjckimpkmaa
open Go.RowKit Go.WideShapes Go.Sort
set_option maxRecDepth 100000

theorem getD_memS {L : List (Nat × Nat)} {k : Nat} (h : k < L.length) : L.getD k (0, 0) ∈ L := by
  rw [List.getD_eq_getElem?_getD, List.getElem?_eq_getElem h]
  exact List.getElem_mem h
theorem ptakeS {α : Type} (d : α) (zs : List α) (k : Nat) (h : k < zs.length) : zs.take (k + 1) = zs.take k ++ [zs.getD k d] := by
  rw [List.take_add_one, List.getD_eq_getElem?_getD, List.getElem?_eq_getElem h]; rfl
theorem below_grow (w : World) (n : Nat) (os : Array Obj) : Below w.heap.size w (grow (w.drewN n) os) :=
  ⟨rfl, rfl, rfl, by simp [grow], fun b hb => by simp [grow, Array.getElem?_append, hb]⟩
set_option maxHeartbeats 1000000 in
/-- the first span without bytes -/
theorem idx_any (b off cap : Nat) (L : List (Nat × Nat)) (w : World) (hn : L.length ≤ 1048576) (hw : Wfs L) (hb : b < w.heap.size)
    (hc : ∀ j, j < L.length → w.cell? ⟨b, off + j * 2, none⟩ = some (.int .u32 (L.getD j (0, 0)).1) ∧ w.cell? ⟨b, off + j * 2 + 1, none⟩ = some (.int .u32 (L.getD j (0, 0)).2)) :
    Calls Try.prog 52 #[.slice (some ⟨b, off, none⟩) L.length cap, .func (.func 58) #[] #[]] w fun e w' =>
      (∃ i : Int, e = .returned (.int .i64 i) ∧ ((i = -1 ∧ ∀ p ∈ L, ¬ p.2 = 0) ∨ ∃ k : Nat, i = k ∧ k < L.length ∧ (∀ p ∈ L.take k, ¬ p.2 = 0) ∧ (L.getD k (0, 0)).2 = 0)) ∧ Below w.heap.size w w' := by
  have HC := hidS hc
  have HW := hidS hw
  clear hc hw
  go_enter Try.func52, Try.ntmps52
  go_wp2_with fail
  go_loopw [8] (fun i wr => ∃ k : Nat, k ≤ L.length ∧ i = .int .i64 k ∧ (∀ p ∈ L.take k, ¬ p.2 = 0) ∧ Below w.heap.size w wr)
    (fun i _ => L.length - (intOf i).toNat)
  case atStart => exact ⟨0, Nat.zero_le _, rfl, by simp, Below.refl _ _⟩
  case round =>
    obtain ⟨k, hk, rfl, hall, hbw⟩ := hrel
    have HA := hidS hall
    clear hall
    by_cases hlt : k < L.length
    · have hltI : (k : Int) < (L.length : Int) := by omega
      have x0 := (hbw.cell (p := ⟨b, off + k * 2, none⟩) hb).trans (HC.out k hlt).1
      have x1 := (hbw.cell (p := ⟨b, off + k * 2 + 1, none⟩) hb).trans (HC.out k hlt).2
      have hg := HW.out _ (getD_memS hlt)
      have hD := fun W => del_any (L.getD k (0, 0)).1 (L.getD k (0, 0)).2 W hg.2
      have HT := hidS (ptakeS (0, 0) L k hlt)
      by_cases h0 : (L.getD k (0, 0)).2 = 0
      · have HG := hidS h0
        rw [h0] at hD x1
        rw [decide_eq_true rfl] at hD
        have hz : (((0 : Nat)) : Int) = 0 := rfl
        rw [hz] at hD x1
        generalize (L.getD k (0, 0)).1 = c0 at *
        have hD' := hD wr
        go_wp2_with (first
          | (go_at_call 58; with_reducible refine hD'.mono ?_; rintro e wq ⟨rfl, q, os', hq⟩; subst wq))
        go_ret
        exact ⟨⟨_, rfl, .inr ⟨k, rfl, hlt, HA.out, HG.out⟩⟩, btS hbw (below_grow _ _ _)⟩
      · have HG := hidS h0
        rw [decide_eq_false h0] at hD
        generalize hc2 : (L.getD k (0, 0)).2 = c1 at *
        generalize (L.getD k (0, 0)).1 = c0 at *
        have hD' := hD wr
        go_wp2_with (first
          | (go_at_call 58; with_reducible refine hD'.mono ?_; rintro e wq ⟨rfl, q, os', hq⟩; subst wq))
        go_roundw
        case rel =>
          refine ⟨k + 1, by omega, by go_num, fun p hp => ?_, btS hbw (below_grow _ _ _)⟩
          rw [HT.out] at hp
          rcases List.mem_append.1 hp with h | h
          · exact HA.out p h
          · rw [List.mem_singleton.1 h, hc2]; exact HG.out
        case measure => simp [intOf]; omega
    · obtain rfl : k = L.length := by omega
      have hltI : ¬ (L.length : Int) < (L.length : Int) := by omega
      go_wp2_with fail
      go_ret
      have hA2 : ∀ p ∈ L, ¬ p.2 = 0 := by have := HA.out; rwa [List.take_length] at this
      exact ⟨⟨_, rfl, .inl ⟨rfl, fun a b h => hA2 (a, b) h⟩⟩, hbw⟩
end Go.Proofs.Ytbaigjckimpkmaa
