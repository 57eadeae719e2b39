import Derived.Test.YtipgpigcpbckgaaDoorMHdr
namespace Go.Proofs.YtipgpigcpbckgaaDoor
open Go.RowKit Go.WideShapes Go.Sort Go.Lib
set_option maxRecDepth 100000

/-- the places of the segments in the header -/
structure Sg (w : World) : Prop where
  pos : 0 < w.heap.size
  c0 : w.cell? ⟨0, 0, none⟩ = some (.int .i64 16)
  c1 : w.cell? ⟨0, 1, none⟩ = some (.int .i64 24)
  c2 : w.cell? ⟨0, 2, none⟩ = some (.int .i64 32)
  c3 : w.cell? ⟨0, 3, none⟩ = some (.int .i64 40)
theorem Sg.below {w w' : World} (h : Sg w) (hb : Below w.heap.size w w') : Sg w' :=
  ⟨by have := hb.size; have := h.pos; omega, (hb.cell (p := ⟨0, 0, none⟩) h.pos).trans h.c0, (hb.cell (p := ⟨0, 1, none⟩) h.pos).trans h.c1, (hb.cell (p := ⟨0, 2, none⟩) h.pos).trans h.c2, (hb.cell (p := ⟨0, 3, none⟩) h.pos).trans h.c3⟩
def wdA (zs : List Int) (a : Nat) : Nat := (atv 4 zs a).toNat
def pA (k : Nat) : Nat := 16 + 8 * k
def spF (zs : List Int) (k : Nat) : List (Nat × Nat) := (List.range k).map fun j => (wdA zs (pA j), wdA zs (pA j + 4))
theorem spF_succ (zs : List Int) (k : Nat) : spF zs (k + 1) = spF zs k ++ [(wdA zs (pA k), wdA zs (pA k + 4))] := by simp [spF, List.range_succ]
theorem spF_len (zs : List Int) (k : Nat) : (spF zs k).length = k := by simp [spF]
def spL (zs : List Int) : List (Nat × Nat) := spF zs 4
theorem index_pl (w : World) : ∀ k : Nat, k < 4 → (Instr.index 62 (.agg #[.int .i64 16, .int .i64 24, .int .i64 32, .int .i64 40]) (.int .i64 (k : Int))).run Tryd.prog w = .ok (.int .i64 ((pA k : Nat) : Int)) w
  | 0, _ => by kernel_rfl
  | 1, _ => by kernel_rfl
  | 2, _ => by kernel_rfl
  | 3, _ => by kernel_rfl
  | n + 4, h => absurd h (by omega)
theorem word_n (ao : Option Addr) (cap : Nat) (zs : List Int) (at_ : Nat) (W : World) (hn : zs.length ≤ 1048576) (hcp : zs.length ≤ cap) (hwf : ∀ z ∈ zs, 0 ≤ z ∧ z ≤ 255) (hr : Reads W ao zs W.heap.size) (ht : at_ ≤ 1048576) (h0 : 0 ≤ atv 4 zs at_) :
    Calls Tryd.prog 22 #[.slice ao zs.length cap, .int .i64 (at_ : Int)] W fun e w' => e = .returned (.int .u32 (wdA zs at_ : Nat)) ∧ w' = W := by
  have := wordAt_any ao cap zs at_ W (by omega) hcp hwf hr (by omega) (by omega)
  rwa [show ((wdA zs at_ : Nat) : Int) = atv 4 zs at_ by unfold wdA; omega]
set_option maxHeartbeats 1000000 in
theorem spansOf_any (ao : Option Addr) (cap : Nat) (zs : List Int) (w : World) (hn : zs.length ≤ 1048576) (hcp : zs.length ≤ cap) (hwf : ∀ z ∈ zs, 0 ≤ z ∧ z ≤ 255) (hr : Reads w ao zs w.heap.size) (hg : Sg w) (hnn : ∀ a : Nat, 0 ≤ atv 4 zs a) :
    Calls Tryd.prog 14 #[.slice ao zs.length cap] w fun e w' => ∃ v, e = .returned v ∧ w'.ownsRow w.heap.size 41 2 v 4 (sv (spL zs)) ∧ Below w.heap.size w w' := by
  obtain ⟨i0, hi, hz0, hz1, hz2⟩ := info_parts Tryd.infoS
  have hA := fun (W : World) (hW : Below w.heap.size w W) (a : Nat) (ha : a ≤ 1048576) => word_n ao cap zs a W hn hcp hwf ((hr.below hW).mono hW.size) ha (hnn a)
  have HA := hidS hA
  obtain ⟨hp, g0, g1, g2, g3⟩ := hg
  clear hA hr hwf
  go_enter Tryd.func14, Tryd.ntmps14
  go_wp2_with fail
  go_loopw [3, 7] (fun v i wr => ∃ k : Nat, k ≤ 4 ∧ i = .int .i64 k ∧ wr.ownsRow w.heap.size 41 2 v k (sv (spF zs k)) ∧ Below w.heap.size w wr) (fun _ i _ => 4 - (intOf i).toNat)
  case atStart => exact ⟨0, by omega, rfl, World.ownsRow_nil _ _ _ _, Below.refl _ _⟩
  case round =>
    obtain ⟨k, hk, rfl, hown, hb⟩ := hrel
    by_cases hlt : k < 4
    · have hltI : (k : Int) < 4 := by omega
      have hix := index_pl wr k hlt
      have hp1 : pA k ≤ 40 := by unfold pA; omega
      have h1 := HA.out wr hb (pA k) (by omega)
      have h2 := HA.out wr hb (pA k + 4) (by omega)
      have hc4 : (((pA k + 4 : Nat)) : Int) = ((pA k : Nat) : Int) + 4 := by push_cast; rfl
      rw [hc4] at h2
      have HS := hidS (spF_succ zs k)
      have hBs := hb.size
      generalize wdA zs (pA k) = x0 at *
      generalize wdA zs (pA k + 4) = x1 at *
      generalize pA k = pk at *
      go_wp2_with fail
      with_reducible refine h1.mono ?_
      rintro e wq ⟨rfl, hq⟩
      subst wq
      go_wp2_with fail
      with_reducible refine h2.mono ?_
      rintro e wq ⟨rfl, hq⟩
      subst wq
      go_wp2_with (at_builtin; refine wpList_append_own _ rfl _ _ 37 rfl w.heap.size 41 i0 (.agg #[.int .u32 0, .int .u32 0]) 2 8 Tryd.underlying37 hi hz0 hz1 hz2 rfl (by decide) _ _ _ rfl (hown.alloc _) ⟨_, 0, none⟩ 1 1 [.int .u32 (x0 : Int), .int .u32 (x1 : Int)] rfl rfl ?c1 ?c2 ?c3 ?c4 ?c5 ?_)
      case c1 =>
        intro j u hj
        match j, hj with
        | 0, hj => simp at hj; subst hj; simp [Addr.add]
        | 1, hj => simp at hj; subst hj; simp [Addr.add]
      case c2 => intro u hu; simp at hu; rcases hu with rfl | rfl <;> rfl
      case c3 => unfold maxLen; omega
      case c4 => omega
      case c5 => simp; omega
      intro v' w5 hown' hgrow _
      have R1 : w5.ownsRow w.heap.size 41 2 v' (k + 1) (sv (spF zs (k + 1))) := by rw [HS.out, sv_append]; exact hown'
      have R2 : Below w.heap.size w w5 := (hb.alloc hBs _).grown hgrow (by simp; omega) (fun j e => (hown.lt j e).1)
      clear hown' hgrow hown h1 h2
      go_wp2_with fail
      go_roundw
      case rel => exact ⟨k + 1, by omega, by go_num, R1, R2⟩
      case measure => simp [intOf]; omega
    · obtain rfl : k = 4 := by omega
      go_wp2_with fail
      go_ret
      exact ⟨_, rfl, hown, hb⟩
end Go.Proofs.YtipgpigcpbckgaaDoor
