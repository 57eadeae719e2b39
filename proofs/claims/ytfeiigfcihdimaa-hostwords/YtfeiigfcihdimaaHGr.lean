import Derived.Test.YtfeiigfcihdimaaHWd
namespace Go.Proofs.Ytfeiigfcihdimaa
open Go.RowKit
set_option maxRecDepth 100000
def hgs (k : Nat) : List (Nat × Int) := (List.range k).map fun i => (16 + i, hct (16 + i))
theorem hgs_snoc (k : Nat) : hgs (k + 1) = hgs k ++ [(16 + k, hct (16 + k))] := by simp [hgs, List.range_succ]
theorem hgs_len (k : Nat) : (hgs k).length = k := by simp [hgs]
theorem own_low {w : World} {B C e s n : Nat} {v : Value} {xs : List Value} (h : w.ownsRow B e s v n xs) (hc : C ≤ B) : w.ownsRow C e s v n xs := by
  refine ⟨h.1, ?_⟩
  rcases h.2 with ⟨a, b⟩ | ⟨g, cap, cur, a, b, c⟩
  · exact .inl ⟨a, b⟩
  · exact .inr ⟨g, cap, cur, a, Nat.le_trans hc b, c⟩
theorem h_two {w : World} {a b : Value} {ty : Nat} : ∀ (j : Nat) (u : Value), [a, b][j]? = some u → (w.alloc (.cells #[a, b] ty)).cell? ((⟨w.heap.size, 0, none⟩ : Addr).add j) = some u := by
  intro j u hj
  match j, hj with
  | 0, hj => simp at hj; subst hj; simp [Addr.add]
  | 1, hj => simp at hj; subst hj; simp [Addr.add]
theorem h_two1 {a b : Int} {k l : IntKind} : ∀ u ∈ [Value.int k a, Value.int l b], u.oneCell' = true := by
  intro u hu
  simp at hu
  rcases hu with rfl | rfl <;> rfl
set_option maxHeartbeats 4000000 in
theorem hgrants_any (w : World) : Calls Try.prog 4 #[] w fun e w' => ∃ v, e = .returned v ∧ w'.ownsRow w.heap.size 37 2 v 24 (gv (hgs 24)) ∧ Below w.heap.size w w' := by
  obtain ⟨i0, hi, hz0, hz1, hz2⟩ := info_parts Try.infoG
  obtain ⟨hz, hs⟩ := zero_of_info infoLi
  have hst : (storeCells ⟨w.heap.size + 1, 0, none⟩ libV.toList).run Try.prog ((w.alloc (.cells libV 34)).alloc (.cells libZ 34)) = .ok () ((w.alloc (.cells libV 34)).alloc (.cells libV 34)) := by
    have := run_storeCells_new (P := Try.prog) (w.alloc (.cells libV 34)) 34 libZ libV (by rw [hs, libV_size]) (by rw [libZ_size, libV_size]) libV_all
    simpa using this
  have hVs := libV_size
  have hO := library_any
  have HV : Hid (∀ k : Nat, 16 ≤ k → k ≤ 39 → libV[k * 2]? = some (.string (hwd k)) ∧ libV[k * 2 + 1]? = some (.int .i64 (hct k))) := libV_get
  generalize libV = V at *
  generalize libZ = Z at *
  clear hs
  go_enter Try.func4, Try.ntmps4
  go_wp2_with (go_at_call 12; refine (hO _).mono ?_; rintro e wq ⟨rfl, hq⟩; subst wq)
  have HB0 : Hid (Below w.heap.size w ((w.alloc (.cells V 34)).alloc (.cells V 34))) := hbel (hbel (Below.refl _ _))
  have hbk : w.heap.size + 1 < ((w.alloc (.cells V 34)).alloc (.cells V 34)).heap.size := by simp
  have HC : Hid (∀ k : Nat, 16 ≤ k → k ≤ 39 → ((w.alloc (.cells V 34)).alloc (.cells V 34)).cell? ⟨w.heap.size + 1, k * 2 + 1, none⟩ = some (.int .i64 (hct k))) := fun k hk hk2 => by
    have := World.cell?_alloc_new (w.alloc (.cells V 34)) V 34 (k * 2 + 1)
    rw [show (w.alloc (.cells V 34)).heap.size = w.heap.size + 1 by simp] at this
    rw [this]; exact (HV.out k hk hk2).2
  clear hst hz hO HV hVs
  generalize ((w.alloc (.cells V 34)).alloc (.cells V 34)) = W at *
  generalize w.heap.size + 1 = rb at *
  go_loopw [1, 3] (fun v i wr => ∃ k : Nat, i = .int .u32 ((16 + k : Nat) : Int) ∧ k ≤ 24 ∧ wr.ownsRow W.heap.size 37 2 v k (gv (hgs k)) ∧ Below W.heap.size W wr) (fun _ i _ => 40 - (intOf i).toNat)
  case atStart => exact ⟨0, rfl, by omega, World.ownsRow_nil _ _ _ _, Below.refl _ _⟩
  case round =>
    obtain ⟨k, rfl, hk, hown, hb⟩ := hrel
    have HO := ghid hown
    have HB := ghid hb
    have hB := hb.size
    by_cases hlt : k < 24
    · have hc := (hb.cell (p := ⟨rb, (16 + k) * 2 + 1, none⟩) hbk).trans (HC.out (16 + k) (by omega) (by omega))
      have HS := ghid (hgs_snoc k)
      have hd : ((16 + k : Nat) : Int) ≤ 39 := by omega
      have hd0 : ((16 + k : Nat) : Int) < 40 := by omega
      clear hown hb HC HB0
      generalize hct (16 + k) = c at *
      generalize hK : 16 + k = K at *
      go_wp2_with (at_builtin; (refine wpList_append_own _ rfl _ _ 23 rfl W.heap.size 37 i0 (.agg #[.int .u32 0, .int .i64 0]) 2 16 Try.underlying23 hi hz0 hz1 hz2 rfl (by decide) _ _ _ rfl (HO.out.alloc _) ⟨_, 0, none⟩ 1 1 [.int .u32 (K : Int), .int .i64 c] rfl rfl h_two h_two1 (by unfold maxLen; omega) (by omega) (by simp; omega) ?_; intro v3 w3 own3 hg3 _))
      have HR := ghid (And.intro own3 ((HB.out.alloc hB _).grown hg3 (by simp; omega) (fun q e => (HO.out.lt q e).1)))
      clear own3 hg3
      go_roundw
      case rel => exact ⟨k + 1, by subst hK; go_num, by omega, by rw [HS.out, gv_append]; simpa [gv] using HR.out.1, HR.out.2⟩
      case measure => simp [intOf]; omega
    · have hk4 : k = 24 := by omega
      subst hk4
      clear hown hb HC hbk
      go_wp2
      go_ret
      exact ⟨_, rfl, own_low HO.out HB0.out.size, HB0.out.trans (HB.out.mono HB0.out.size)⟩
end Go.Proofs.Ytfeiigfcihdimaa
