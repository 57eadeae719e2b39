import Derived.Test.YtipgpigcpbckgaaDoorMRdC
namespace Go.Proofs.YtipgpigcpbckgaaDoor
open Go.RowKit Go.WideShapes Go.Sort Go.Lib
set_option maxRecDepth 100000

theorem own_one {w : World} {B e sz n : Nat} {v : Value} {xs : List Value} (h : w.ownsRow B e sz v n xs) : ∃ a n c, v = .slice a n c := by
  obtain ⟨a, c, rfl, _⟩ := own_cap2 h
  exact ⟨_, _, _, rfl⟩
set_option maxHeartbeats 1000000 in
theorem readJumps_any (b off cap : Nat) (zs : List Int) (p : Nat × Nat) (w : World) (hn : zs.length ≤ 1048576) (hcp : zs.length ≤ cap) (hwf : ∀ z ∈ zs, 0 ≤ z ∧ z ≤ 255) (hp : p.1 < 4294967296 ∧ p.2 < 4294967296) (hr : Reads w (some ⟨b, off, none⟩) zs w.heap.size) :
    Calls Tryd.prog 26 #[.slice (some ⟨b, off, none⟩) zs.length cap, .agg #[.int .u32 p.1, .int .u32 p.2]] w fun e w' => (∃ v, ∃ er : Int, e = .returned (.tuple #[v, .int .i64 er]) ∧ ∃ a n c, v = .slice a n c) ∧ Below w.heap.size w w' := by
  have bA : Below w.heap.size w (w.alloc (.cells #[.int .u32 (p.1 : Int), .int .u32 (p.2 : Int)] 41)) := belS (Below.refl _ _)
  have hB := bytesOf_any b off cap zs p (w.alloc (.cells #[.int .u32 (p.1 : Int), .int .u32 (p.2 : Int)] 41)) hn hcp hp ((hr.below bA).mono bA.size)
  have HCW := hidS (cutV_wf hwf p)
  have hcl := cutV_len zs p
  clear hr hwf hp
  by_cases hbig : 65536 < p.2
  · have hbI : (65536 : Int) < (p.2 : Int) := by omega
    clear hB hbig
    go_enter Tryd.func26, Tryd.ntmps26
    go_wp2_with fail
    refine bodyPost_ret (results_tmp2 rfl _ _ _) rfl ?_
    exact ⟨⟨_, _, rfl, _, _, _, rfl⟩, bA⟩
  · have hbI : ¬ (65536 : Int) < (p.2 : Int) := by omega
    clear hbig
    go_enter Tryd.func26, Tryd.ntmps26
    go_wp2_with fail
    with_reducible refine hB.mono ?_
    rintro e w1 ⟨a1, c1, rfl, hc1, hr1, _, b1⟩
    have B1 := btS bA b1
    by_cases hm : (cutV zs p).length % 4 = 0
    · have hA := all_u32 a1 c1 (cutV zs p) ((cutV zs p).length / 4) w1 (by omega) (by omega) hc1 HCW.out hr1
      generalize (cutV zs p).length = nn at *
      clear hB hr1
      go_wp2_with fail
      with_reducible refine hA.mono ?_
      rintro e w2 ⟨v2, rfl, own2, b2⟩
      obtain ⟨q1, q2, q3, rfl⟩ := own_one own2
      go_wp2_with fail
      refine bodyPost_ret (results_tmp2 rfl _ _ _) rfl ?_
      exact ⟨⟨_, _, rfl, _, _, _, rfl⟩, btS B1 b2⟩
    · have hA := allE_u32 a1 (cutV zs p).length c1 w1 hm
      generalize (cutV zs p).length = nn at *
      clear hB hr1
      go_wp2_with fail
      with_reducible refine hA.mono ?_
      rintro e w2 ⟨rfl, hq⟩
      subst w2
      go_wp2_with fail
      refine bodyPost_ret (results_tmp2 rfl _ _ _) rfl ?_
      exact ⟨⟨_, _, rfl, _, _, _, rfl⟩, B1⟩
def BPost (e : Ending) : Prop := ∃ r : Bool, e = .returned (.bool r)
set_option maxHeartbeats 1000000 in
theorem stackMayBe_any (x : Nat) (w : World) :
    Calls Tryd.prog 28 #[.int .u32 x] w fun e w' => BPost e ∧ Below w.heap.size w w' := by
  go_enter Tryd.func28, Tryd.ntmps28
  go_wp2_with fail
  all_goals
    go_ret
    exact ⟨⟨_, rfl⟩, Below.refl _ _⟩
def imA (v0 v1 v2 : Value) (z s : Int) (v5 : Value) : Array Value := #[v0, v1, v2, .int .u32 z, .int .u32 s, v5]
set_option maxHeartbeats 1000000 in
theorem room_any (v0 v1 v5 : Value) (a : Option Addr) (n c : Nat) (z st : Nat) (w : World) (_ : v0.oneCell' = true) (_ : v1.oneCell' = true) (_ : v5.oneCell' = true) (hn : n ≤ 1048576) (hz : z < 4294967296) (hs : st < 4294967296) :
    Calls Tryd.prog 21 #[.agg #[v0, v1, .slice a n c, .int .u32 z, .int .u32 st, v5]] w fun e w' => e = .returned (.int .u64 ((n : Int) + (z : Int) + (st : Int))) ∧ Below w.heap.size w w' := by
  go_enter Tryd.func21, Tryd.ntmps21
  go_wp2_with fail
  go_ret
  exact ⟨rfl, belS (Below.refl _ _)⟩
end Go.Proofs.YtipgpigcpbckgaaDoor
