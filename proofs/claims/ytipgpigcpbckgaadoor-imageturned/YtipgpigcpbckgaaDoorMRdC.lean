import Derived.Test.YtipgpigcpbckgaaDoorMCut
import Derived.Test.YtipgpigcpbckgaaDoorIDec
import Derived.Test.YtipgpigcpbckgaaDoorLAll
namespace Go.Proofs.YtipgpigcpbckgaaDoor
open Go.RowKit Go.WideShapes Go.Sort Go.Lib
set_option maxRecDepth 100000

theorem own_cap2 {w : World} {B e sz n : Nat} {v : Value} {xs : List Value} (h : w.ownsRow B e sz v n xs) : ∃ a c, v = .slice a n c ∧ n ≤ c := by
  rcases h.2 with ⟨rfl, rfl⟩ | ⟨g, cap, cur, rfl, _, _, hc, _⟩
  · exact ⟨none, 0, rfl, Nat.le_refl _⟩
  · exact ⟨_, _, rfl, hc⟩
theorem cutV_wf {zs : List Int} (hwf : ∀ z ∈ zs, 0 ≤ z ∧ z ≤ 255) (p : Nat × Nat) : ∀ z ∈ cutV zs p, 0 ≤ z ∧ z ≤ 255 := by
  intro z hz
  unfold cutV at hz
  split at hz
  · exact hwf z (List.mem_of_mem_drop (List.mem_of_mem_take hz))
  · simp at hz
theorem cutV_len (zs : List Int) (p : Nat × Nat) : (cutV zs p).length ≤ zs.length := by
  unfold cutV
  split
  · rw [List.length_take, List.length_drop]; omega
  · simp
set_option maxHeartbeats 1000000 in
theorem bytesOf_any (b off cap : Nat) (zs : List Int) (p : Nat × Nat) (w : World) (hn : zs.length ≤ 1048576) (hcp : zs.length ≤ cap) (hp : p.1 < 4294967296 ∧ p.2 < 4294967296) (hr : Reads w (some ⟨b, off, none⟩) zs w.heap.size) :
    Calls Tryd.prog 27 #[.slice (some ⟨b, off, none⟩) zs.length cap, .agg #[.int .u32 p.1, .int .u32 p.2]] w fun e w' => ∃ a c, e = .returned (.slice a (cutV zs p).length c) ∧ (cutV zs p).length ≤ c ∧ Reads w' a (cutV zs p) w'.heap.size ∧ w'.ownsRow w.heap.size 5 1 (.slice a (cutV zs p).length c) (cutV zs p).length (bv (cutV zs p)) ∧ Below w.heap.size w w' := by
  have hC := fun W (hW : Below w.heap.size w W) => lcut_any b off cap zs p W hn hcp hp ((hr.below hW).mono hW.size)
  have HC := hidS hC
  have bA : Below w.heap.size w (w.alloc (.cells #[.int .u32 (p.1 : Int), .int .u32 (p.2 : Int)] 41)) := belS (Below.refl _ _)
  clear hr hC hp
  go_enter Tryd.func27, Tryd.ntmps27
  go_wp2_with fail
  with_reducible refine (HC.out _ bA).mono ?_
  rintro e w1 ⟨⟨v, er, rfl, her, own1⟩, b1⟩
  clear her
  have B1 := btS bA b1
  have own2 := own_lowM own1 bA.size
  obtain ⟨a, c, rfl, hc⟩ := own_cap2 own2
  obtain ⟨a2, c2, he2, hr2⟩ := own_reads own2
  simp only [Value.slice.injEq, true_and] at he2
  obtain ⟨rfl, rfl⟩ := he2
  have HR2 := hidS hr2
  clear hr2 own1
  go_wp2_with fail
  go_ret
  exact ⟨_, _, rfl, hc, HR2.out, own2, B1⟩
def ThreePost (e : Ending) : Prop := ∃ a n c, ∃ at_ er : Int, e = .returned (.tuple #[.slice a n c, .int .i64 at_, .int .i64 er]) ∧ n ≤ 16384
set_option maxHeartbeats 1000000 in
theorem readCode_any (b off cap : Nat) (zs : List Int) (p : Nat × Nat) (w : World) (hn : zs.length ≤ 1048576) (hcp : zs.length ≤ cap) (hwf : ∀ z ∈ zs, 0 ≤ z ∧ z ≤ 255) (hp : p.1 < 4294967296 ∧ p.2 < 4294967296) (hr : Reads w (some ⟨b, off, none⟩) zs w.heap.size) :
    Calls Tryd.prog 25 #[.slice (some ⟨b, off, none⟩) zs.length cap, .agg #[.int .u32 p.1, .int .u32 p.2]] w fun e w' => (∃ v, ∃ at_ er : Int, e = .returned (.tuple #[v, .int .i64 at_, .int .i64 er]) ∧ ∃ a n c, v = .slice a n c) ∧ Below w.heap.size w w' := by
  have bA : Below w.heap.size w (w.alloc (.cells #[.int .u32 (p.1 : Int), .int .u32 (p.2 : Int)] 41)) := belS (Below.refl _ _)
  have hB := bytesOf_any b off cap zs p (w.alloc (.cells #[.int .u32 (p.1 : Int), .int .u32 (p.2 : Int)] 41)) hn hcp hp ((hr.below bA).mono bA.size)
  have HWd := hidS (fun W (hW : Below w.heap.size w W) => wordAt_any (some ⟨b, off, none⟩) cap zs 12 W (by omega) hcp hwf ((hr.below hW).mono hW.size) (by decide) (by decide))
  have HCW := hidS (cutV_wf hwf p)
  have hcl := cutV_len zs p
  have hp1 : (p.1 : Int) < 4294967296 := by omega
  have hlA := heap_alloc_last w (.cells #[.int .u32 (p.1 : Int), .int .u32 (p.2 : Int)] 41)
  have hltA : w.heap.size < (w.alloc (.cells #[.int .u32 (p.1 : Int), .int .u32 (p.2 : Int)] 41)).heap.size := by simp
  clear hr hwf hp
  go_enter Tryd.func25, Tryd.ntmps25
  go_wp2_with fail
  with_reducible refine hB.mono ?_
  rintro e w1 ⟨a1, c1, rfl, hc1, hr1, _, b1⟩
  have B1 := btS bA b1
  have hD := decode_any a1 c1 (cutV zs p) w1 (by omega) hc1 HCW.out hr1
  clear hB hr1
  go_wp2_with fail
  with_reducible refine hD.mono ?_
  rintro e w2 ⟨v2, rfl, own2, b2⟩
  obtain ⟨a2, c2, rfl, _⟩ := own_cap2 own2
  have B2 := btS B1 b2
  have hl2 : w2.heap[w.heap.size]? = some (.cells #[.int .u32 (p.1 : Int), .int .u32 (p.2 : Int)] 41) := (b2.block w.heap.size (by have := b1.size; omega)).trans ((b1.block w.heap.size hltA).trans hlA)
  have c0 : w2.cell? ⟨w.heap.size, 0, none⟩ = some (.int .u32 p.1) := by unfold World.cell?; simp only [hl2]; rfl
  generalize (dcB (cutV zs p)).length = nn at *
  generalize dcI (cutV zs p) = ii at *
  generalize dcX (cutV zs p) = xx at *
  by_cases hx : xx = 0
  · subst hx
    have hWd := HWd.out w2 B2
    clear hD own2 hlA hl2 c0 hp1
    obtain ⟨n32, hn32⟩ : ∃ n32, IntKind.u32.wrap (nn : Int) = n32 := ⟨_, rfl⟩
    by_cases hm : n32 = atv 4 zs 12
    · rw [← hm] at hWd
      clear hm
      go_wp2_with fail
      with_reducible refine hWd.mono ?_
      rintro e wq ⟨rfl, hq⟩
      subst wq
      go_wp2_with fail
      refine bodyPost_ret (results_tmp3 rfl _ _ _) rfl ?_
      exact ⟨⟨_, _, _, rfl, _, _, _, rfl⟩, B2⟩
    · have hm' : (n32 == atv 4 zs 12) = false := by rw [beq_eq_false_iff_ne]; exact hm
      clear hm
      generalize atv 4 zs 12 = y12 at *
      go_wp2_with fail
      with_reducible refine hWd.mono ?_
      rintro e wq ⟨rfl, hq⟩
      subst wq
      go_wp2_with fail
      refine bodyPost_ret (results_tmp3 rfl _ _ _) rfl ?_
      exact ⟨⟨_, _, _, rfl, _, _, _, rfl⟩, B2⟩
  · have hxI : ((xx : Int) == 0) = false := by rw [beq_eq_false_iff_ne]; omega
    have hwp : IntKind.i64.wrap (p.1 : Int) = (p.1 : Int) := by rw [IntKind.wrap_i64]; omega
    clear hp1
    go_wp2_with fail
    first | go_quiet (fail) | go_region
    go_wp2_with fail
    refine bodyPost_ret (results_tmp3 rfl _ _ _) rfl ?_
    exact ⟨⟨_, _, _, rfl, _, _, _, rfl⟩, by first | exact B2 | exact below_drewN B2 _ | exact Below.drew B2⟩
end Go.Proofs.YtipgpigcpbckgaaDoor
