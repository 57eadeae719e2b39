import Derived.Test.YtnplimdcfbgpeaaDoorCMHdr
import Derived.Test.YtnplimdcfbgpeaaDoorIDec
import Derived.Test.YtnplimdcfbgpeaaDoorCLLives
namespace Go.Proofs.YtnplimdcfbgpeaaDoor
open Go.RowKit Go.WideShapes Go.Sort Go.Lib
set_option maxRecDepth 100000

theorem own_lowM {w : World} {B B' e sz : Nat} {v : Value} {n : Nat} {xs : List Value} (h : w.ownsRow B e sz v n xs) (hle : B' ≤ B) : w.ownsRow B' e sz v n xs :=
  ⟨h.1, h.2.imp id (fun ⟨g, cap, cur, a, b, c⟩ => ⟨g, cap, cur, a, Nat.le_trans hle b, c⟩)⟩
def cutV (zs : List Int) (p : Nat × Nat) : List Int := if p.1 + p.2 ≤ zs.length then (zs.drop p.1).take p.2 else []
theorem clone_n (ao : Option Addr) (cap n : Nat) (zs : List Int) (w : World) (hl : zs.length = n) (hn : zs.length ≤ 140737488355328) (hnil : ao = none → zs = []) (hr : Reads w ao zs w.heap.size) :
    Calls Tryd.prog 45 #[.slice ao n cap] w fun e w' => ∃ v, e = .returned v ∧ w'.ownsRow w.heap.size 5 1 v zs.length (bv zs) ∧ Below w.heap.size w w' := by
  subst hl; exact clone_any ao cap zs w hn hnil hr
set_option maxHeartbeats 1000000 in
theorem lcut_any (b off cap : Nat) (zs : List Int) (p : Nat × Nat) (w : World) (hn : zs.length ≤ 1048576) (hcp : zs.length ≤ cap) (hp : p.1 < 4294967296 ∧ p.2 < 4294967296) (hr : Reads w (some ⟨b, off, none⟩) zs w.heap.size) :
    Calls Tryd.prog 59 #[.slice (some ⟨b, off, none⟩) zs.length cap, .agg #[.int .u32 p.1, .int .u32 p.2]] w fun e w' => (∃ v er, e = .returned (.tuple #[v, .int .i64 er]) ∧ er = (if p.1 + p.2 ≤ zs.length then 0 else 20) ∧ w'.ownsRow w.heap.size 5 1 v (cutV zs p).length (bv (cutV zs p))) ∧ Below w.heap.size w w' := by
  have hE := fun W => end_any p.1 p.2 W hp.1 hp.2
  have HR := hidS hr
  clear hr
  go_enter Tryd.func59, Tryd.ntmps59
  go_wp2_with fail
  with_reducible refine (hE _).mono ?_
  rintro e W1 ⟨rfl, q, os', hq⟩
  have bA : Below w.heap.size w (w.alloc (.cells #[.int .u32 (p.1 : Int), .int .u32 (p.2 : Int)] 47)) := belS (Below.refl _ _)
  have bq : Below (w.alloc (.cells #[.int .u32 (p.1 : Int), .int .u32 (p.2 : Int)] 47)).heap.size (w.alloc (.cells #[.int .u32 (p.1 : Int), .int .u32 (p.2 : Int)] 47)) W1 := by rw [hq]; exact below_grow _ _ _
  have hl0 := (bq.block w.heap.size (by simp)).trans (heap_alloc_last w _)
  have c0 : W1.cell? ⟨w.heap.size, 0, none⟩ = some (.int .u32 p.1) := by unfold World.cell?; simp only [hl0]; rfl
  have c1 : W1.cell? ⟨w.heap.size, 1, none⟩ = some (.int .u32 p.2) := by unfold World.cell?; simp only [hl0]; rfl
  have B1 := btS bA bq
  have hlt1 : w.heap.size < W1.heap.size := by have := bq.size; simp at this; omega
  have hnI : (zs.length : Int) ≤ 1048576 := by omega
  have hwn : IntKind.u64.wrap (zs.length : Int) = (zs.length : Int) := by rw [IntKind.wrap_u64]; omega
  clear hq bq bA hl0
  by_cases hin : p.1 + p.2 ≤ zs.length
  · have hinI : ¬ ((zs.length : Int) < (p.1 : Int) + (p.2 : Int)) := by omega
    have hinC : (p.1 : Int) + (p.2 : Int) ≤ (cap : Int) := by omega
    have hinL : (p.1 : Int) ≤ (p.1 : Int) + (p.2 : Int) := by omega
    have hw1 : IntKind.i64.wrap ((p.1 : Int) + (p.2 : Int)) = (p.1 : Int) + (p.2 : Int) := by rw [IntKind.wrap_i64]; omega
    have HV : Hid (cutV zs p = (zs.drop p.1).take p.2) := if_pos hin
    have hlen : ((zs.drop p.1).take p.2).length = p.2 := by rw [List.length_take, List.length_drop]; omega
    have hgc : ∀ W, Below W1.heap.size W1 W → (W.cell? ⟨w.heap.size, 0, none⟩ = some (.int .u32 p.1) ∧ W.cell? ⟨w.heap.size, 1, none⟩ = some (.int .u32 p.2)) := fun W hW => ⟨(hW.cell (p := ⟨w.heap.size, 0, none⟩) hlt1).trans c0, (hW.cell (p := ⟨w.heap.size, 1, none⟩) hlt1).trans c1⟩
    have hK : ∀ (ad : Option Addr) (c : Nat) (W : World), Below W1.heap.size W1 W → (ad = some ⟨b, off + p.1, none⟩ ∨ (p.2 = 0 ∧ ad ≠ none)) → Calls Tryd.prog 45 #[.slice ad p.2 c] W fun e w' => ∃ v, e = .returned v ∧ w'.ownsRow W.heap.size 5 1 v p.2 (bv ((zs.drop p.1).take p.2)) ∧ Below W.heap.size W w' := fun ad c W hW had => by
      have := clone_n ad c p.2 ((zs.drop p.1).take p.2) W hlen (by omega) (fun h => by
        rcases had with h' | ⟨h', h''⟩
        · rw [h] at h'; cases h'
        · exact absurd h h'') (fun hpos => by
          rcases had with h' | ⟨h', _⟩
          · have hw := btS B1 hW
            obtain ⟨b2, off2, e2, hb2, hc2⟩ := HR.out (by omega)
            cases e2
            refine ⟨b, off + p.1, h', by have := hw.size; omega, fun j hj => ?_⟩
            rw [hlen] at hj
            rw [hw.cell (p := ⟨b, off + p.1 + j, none⟩) hb2, Nat.add_assoc, hc2 (p.1 + j) (by omega)]
            simp [List.getD_eq_getElem?_getD, hj]
          · omega)
      rwa [hlen] at this
    have hE2 : ∀ W, Calls Tryd.prog 50 #[.agg #[.int .u32 p.1, .int .u32 p.2]] W fun e w' => e = .returned (.int .u64 ((p.1 : Int) + (p.2 : Int))) ∧ Below W.heap.size W w' := fun W => (hE W).mono fun e w' ⟨h, q, os, hq⟩ => ⟨h, by rw [hq]; exact below_grow _ _ _⟩
    have HK := hidS hK
    have HB : Below W1.heap.size W1 W1 := Below.refl _ _
    clear c0 c1 hK hp
    have htn : ((p.1 : Int) + (p.2 : Int)).toNat - p.1 = p.2 := by omega
    by_cases hpc : cap = p.1
    · have HAD : Hid ((some (⟨b, off, none⟩ : Addr)) = some ⟨b, off + p.1, none⟩ ∨ (p.2 = 0 ∧ (some (⟨b, off, none⟩ : Addr)) ≠ none)) := .inr ⟨by omega, by simp⟩
      have hinC2 : (p.1 : Int) + (p.2 : Int) ≤ (p.1 : Int) := by omega
      have hinC3 : (p.2 : Int) ≤ 0 := by omega
      go_wp2_with fail
      go_region_held3 (fun w' => w'.cell? ⟨w.heap.size, 0, none⟩ = some (.int .u32 p.1) ∧ w'.cell? ⟨w.heap.size, 1, none⟩ = some (.int .u32 p.2)) ((refine hgc _ ?_; (repeat (first | exact HB | exact Below.refl _ _ | with_reducible refine belS ?_ | with_reducible refine Below.drew ?_)))) (first
        | (go_at_call 50; with_reducible refine (hE2 _).mono ?_; rintro e wq ⟨rfl, hq⟩; replace HB : Below W1.heap.size W1 wq := btS (by (repeat (first | exact HB | exact Below.refl _ _ | with_reducible refine belS ?_ | with_reducible refine Below.drew ?_))) hq; clear hq)
        | (go_at_call 45; with_reducible refine (HK.out _ _ _ (by (repeat (first | exact HB | exact Below.refl _ _ | with_reducible refine belS ?_ | with_reducible refine Below.drew ?_))) HAD.out).mono ?_; rintro e wz ⟨vz, rfl, ownz, hz⟩; have HBz : Below W1.heap.size W1 wz := btS (by (repeat (first | exact HB | exact Below.refl _ _ | with_reducible refine belS ?_ | with_reducible refine Below.drew ?_))) hz; have HBw : w.heap.size ≤ _ := Nat.le_trans B1.size (HB.size); replace HB := HBz; have HO := hidS (own_lowM ownz HBw); clear hz))
      go_wp2_with fail
      refine bodyPost_ret (results_tmp2 rfl _ _ _) rfl ?_
      refine ⟨⟨_, _, rfl, by first | rfl | rw [if_pos hin], ?_⟩, btS B1 (by (repeat (first | exact HB | exact Below.refl _ _ | with_reducible refine belS ?_ | with_reducible refine Below.drew ?_)))⟩
      rw [HV.out, hlen]
      exact HO.out
    · skip
      go_wp2_with fail
      go_region_held3 (fun w' => w'.cell? ⟨w.heap.size, 0, none⟩ = some (.int .u32 p.1) ∧ w'.cell? ⟨w.heap.size, 1, none⟩ = some (.int .u32 p.2)) ((refine hgc _ ?_; (repeat (first | exact HB | exact Below.refl _ _ | with_reducible refine belS ?_ | with_reducible refine Below.drew ?_)))) (first
        | (go_at_call 50; with_reducible refine (hE2 _).mono ?_; rintro e wq ⟨rfl, hq⟩; replace HB : Below W1.heap.size W1 wq := btS (by (repeat (first | exact HB | exact Below.refl _ _ | with_reducible refine belS ?_ | with_reducible refine Below.drew ?_))) hq; clear hq)
        | (go_at_call 45; with_reducible refine (HK.out _ _ _ (by (repeat (first | exact HB | exact Below.refl _ _ | with_reducible refine belS ?_ | with_reducible refine Below.drew ?_))) (.inl rfl)).mono ?_; rintro e wz ⟨vz, rfl, ownz, hz⟩; have HBz : Below W1.heap.size W1 wz := btS (by (repeat (first | exact HB | exact Below.refl _ _ | with_reducible refine belS ?_ | with_reducible refine Below.drew ?_))) hz; have HBw : w.heap.size ≤ _ := Nat.le_trans B1.size (HB.size); replace HB := HBz; have HO := hidS (own_lowM ownz HBw); clear hz))
      go_wp2_with fail
      refine bodyPost_ret (results_tmp2 rfl _ _ _) rfl ?_
      refine ⟨⟨_, _, rfl, by first | rfl | rw [if_pos hin], ?_⟩, btS B1 (by (repeat (first | exact HB | exact Below.refl _ _ | with_reducible refine belS ?_ | with_reducible refine Below.drew ?_)))⟩
      rw [HV.out, hlen]
      exact HO.out
  · have hinI : (zs.length : Int) < (p.1 : Int) + (p.2 : Int) := by omega
    have HE : Hid (cutV zs p = []) := if_neg hin
    go_wp2_with fail
    refine bodyPost_ret (results_tmp2 rfl _ _ _) rfl ?_
    refine ⟨⟨_, _, rfl, by first | rfl | rw [if_neg hin], ?_⟩, B1⟩
    rw [HE.out]
    exact World.ownsRow_nil _ _ _ _
end Go.Proofs.YtnplimdcfbgpeaaDoor
namespace Go.Proofs.YtnplimdcfbgpeaaDoor
open Go.RowKit Go.WideShapes Go.Sort Go.Lib
set_option maxRecDepth 100000

theorem own_cap2 {w : World} {B e sz n : Nat} {v : Value} {xs : List Value} (h : w.ownsRow B e sz v n xs) : ∃ a c, v = .slice a n c ∧ n ≤ c := by
  rcases h.2 with ⟨rfl, rfl⟩ | ⟨g, cap, cur, rfl, _, _, hc, _⟩
  · exact ⟨none, 0, rfl, Nat.le_refl _⟩
  · exact ⟨_, _, rfl, hc⟩
theorem cutV_wf {zs : List Int} (hwf : ∀ z ∈ zs, 0 ≤ z ∧ z ≤ 255) (p : Nat × Nat) : ∀ z ∈ cutV zs p, 0 ≤ z ∧ z ≤ 255 := by
  intro z hz
  unfold cutV at hz
  split at hz
  · exact hwf z (List.mem_of_mem_drop (List.mem_of_mem_take hz))
  · simp at hz
theorem cutV_len (zs : List Int) (p : Nat × Nat) : (cutV zs p).length ≤ zs.length := by
  unfold cutV
  split
  · rw [List.length_take, List.length_drop]; omega
  · simp
set_option maxHeartbeats 1000000 in
theorem bytesOf_any (b off cap : Nat) (zs : List Int) (p : Nat × Nat) (w : World) (hn : zs.length ≤ 1048576) (hcp : zs.length ≤ cap) (hp : p.1 < 4294967296 ∧ p.2 < 4294967296) (hr : Reads w (some ⟨b, off, none⟩) zs w.heap.size) :
    Calls Tryd.prog 42 #[.slice (some ⟨b, off, none⟩) zs.length cap, .agg #[.int .u32 p.1, .int .u32 p.2]] w fun e w' => ∃ a c, e = .returned (.slice a (cutV zs p).length c) ∧ (cutV zs p).length ≤ c ∧ Reads w' a (cutV zs p) w'.heap.size ∧ w'.ownsRow w.heap.size 5 1 (.slice a (cutV zs p).length c) (cutV zs p).length (bv (cutV zs p)) ∧ Below w.heap.size w w' := by
  have hC := fun W (hW : Below w.heap.size w W) => lcut_any b off cap zs p W hn hcp hp ((hr.below hW).mono hW.size)
  have HC := hidS hC
  have bA : Below w.heap.size w (w.alloc (.cells #[.int .u32 (p.1 : Int), .int .u32 (p.2 : Int)] 47)) := belS (Below.refl _ _)
  clear hr hC hp
  go_enter Tryd.func42, Tryd.ntmps42
  go_wp2_with fail
  with_reducible refine (HC.out _ bA).mono ?_
  rintro e w1 ⟨⟨v, er, rfl, her, own1⟩, b1⟩
  clear her
  have B1 := btS bA b1
  have own2 := own_lowM own1 bA.size
  obtain ⟨a, c, rfl, hc⟩ := own_cap2 own2
  obtain ⟨a2, c2, he2, hr2⟩ := own_reads own2
  simp only [Value.slice.injEq, true_and] at he2
  obtain ⟨rfl, rfl⟩ := he2
  have HR2 := hidS hr2
  clear hr2 own1
  go_wp2_with fail
  go_ret
  exact ⟨_, _, rfl, hc, HR2.out, own2, B1⟩
def ThreePost (e : Ending) : Prop := ∃ a n c, ∃ at_ er : Int, e = .returned (.tuple #[.slice a n c, .int .i64 at_, .int .i64 er]) ∧ n ≤ 16384
set_option maxHeartbeats 1000000 in
theorem readCode_any (b off cap : Nat) (zs : List Int) (p : Nat × Nat) (w : World) (hn : zs.length ≤ 1048576) (hcp : zs.length ≤ cap) (hwf : ∀ z ∈ zs, 0 ≤ z ∧ z ≤ 255) (hp : p.1 < 4294967296 ∧ p.2 < 4294967296) (hr : Reads w (some ⟨b, off, none⟩) zs w.heap.size) :
    Calls Tryd.prog 40 #[.slice (some ⟨b, off, none⟩) zs.length cap, .agg #[.int .u32 p.1, .int .u32 p.2]] w fun e w' => (∃ v, ∃ at_ er : Int, e = .returned (.tuple #[v, .int .i64 at_, .int .i64 er]) ∧ ∃ a n c, v = .slice a n c) ∧ Below w.heap.size w w' := by
  have bA : Below w.heap.size w (w.alloc (.cells #[.int .u32 (p.1 : Int), .int .u32 (p.2 : Int)] 47)) := belS (Below.refl _ _)
  have hB := bytesOf_any b off cap zs p (w.alloc (.cells #[.int .u32 (p.1 : Int), .int .u32 (p.2 : Int)] 47)) hn hcp hp ((hr.below bA).mono bA.size)
  have HWd := hidS (fun W (hW : Below w.heap.size w W) => wordAt_any (some ⟨b, off, none⟩) cap zs 12 W (by omega) hcp hwf ((hr.below hW).mono hW.size) (by decide) (by decide))
  have HCW := hidS (cutV_wf hwf p)
  have hcl := cutV_len zs p
  have hp1 : (p.1 : Int) < 4294967296 := by omega
  have hlA := heap_alloc_last w (.cells #[.int .u32 (p.1 : Int), .int .u32 (p.2 : Int)] 47)
  have hltA : w.heap.size < (w.alloc (.cells #[.int .u32 (p.1 : Int), .int .u32 (p.2 : Int)] 47)).heap.size := by simp
  clear hr hwf hp
  go_enter Tryd.func40, Tryd.ntmps40
  go_wp2_with fail
  with_reducible refine hB.mono ?_
  rintro e w1 ⟨a1, c1, rfl, hc1, hr1, _, b1⟩
  have B1 := btS bA b1
  have hD := decode_any a1 c1 (cutV zs p) w1 (by omega) hc1 HCW.out hr1
  clear hB hr1
  go_wp2_with fail
  with_reducible refine hD.mono ?_
  rintro e w2 ⟨v2, rfl, own2, b2⟩
  obtain ⟨a2, c2, rfl, _⟩ := own_cap2 own2
  have B2 := btS B1 b2
  have hl2 : w2.heap[w.heap.size]? = some (.cells #[.int .u32 (p.1 : Int), .int .u32 (p.2 : Int)] 47) := (b2.block w.heap.size (by have := b1.size; omega)).trans ((b1.block w.heap.size hltA).trans hlA)
  have c0 : w2.cell? ⟨w.heap.size, 0, none⟩ = some (.int .u32 p.1) := by unfold World.cell?; simp only [hl2]; rfl
  generalize (dcB (cutV zs p)).length = nn at *
  generalize dcI (cutV zs p) = ii at *
  generalize dcX (cutV zs p) = xx at *
  by_cases hx : xx = 0
  · subst hx
    have hWd := HWd.out w2 B2
    clear hD own2 hlA hl2 c0 hp1
    obtain ⟨n32, hn32⟩ : ∃ n32, IntKind.u32.wrap (nn : Int) = n32 := ⟨_, rfl⟩
    by_cases hm : n32 = atv 4 zs 12
    · rw [← hm] at hWd
      clear hm
      go_wp2_with fail
      with_reducible refine hWd.mono ?_
      rintro e wq ⟨rfl, hq⟩
      subst wq
      go_wp2_with fail
      refine bodyPost_ret (results_tmp3 rfl _ _ _) rfl ?_
      exact ⟨⟨_, _, _, rfl, _, _, _, rfl⟩, B2⟩
    · have hm' : (n32 == atv 4 zs 12) = false := by rw [beq_eq_false_iff_ne]; exact hm
      clear hm
      generalize atv 4 zs 12 = y12 at *
      go_wp2_with fail
      with_reducible refine hWd.mono ?_
      rintro e wq ⟨rfl, hq⟩
      subst wq
      go_wp2_with fail
      refine bodyPost_ret (results_tmp3 rfl _ _ _) rfl ?_
      exact ⟨⟨_, _, _, rfl, _, _, _, rfl⟩, B2⟩
  · have hxI : ((xx : Int) == 0) = false := by rw [beq_eq_false_iff_ne]; omega
    have hwp : IntKind.i64.wrap (p.1 : Int) = (p.1 : Int) := by rw [IntKind.wrap_i64]; omega
    clear hp1
    go_wp2_with fail
    first | go_quiet (fail) | go_region
    go_wp2_with fail
    refine bodyPost_ret (results_tmp3 rfl _ _ _) rfl ?_
    exact ⟨⟨_, _, _, rfl, _, _, _, rfl⟩, by first | exact B2 | exact below_drewN B2 _ | exact Below.drew B2⟩
end Go.Proofs.YtnplimdcfbgpeaaDoor
namespace Go.Proofs.YtnplimdcfbgpeaaDoor
open Go.RowKit Go.WideShapes Go.Sort Go.Lib
set_option maxRecDepth 100000

theorem own_one {w : World} {B e sz n : Nat} {v : Value} {xs : List Value} (h : w.ownsRow B e sz v n xs) : ∃ a n c, v = .slice a n c := by
  obtain ⟨a, c, rfl, _⟩ := own_cap2 h
  exact ⟨_, _, _, rfl⟩
set_option maxHeartbeats 1000000 in
theorem readJumps_any (b off cap : Nat) (zs : List Int) (p : Nat × Nat) (w : World) (hn : zs.length ≤ 1048576) (hcp : zs.length ≤ cap) (hwf : ∀ z ∈ zs, 0 ≤ z ∧ z ≤ 255) (hp : p.1 < 4294967296 ∧ p.2 < 4294967296) (hr : Reads w (some ⟨b, off, none⟩) zs w.heap.size) :
    Calls Tryd.prog 41 #[.slice (some ⟨b, off, none⟩) zs.length cap, .agg #[.int .u32 p.1, .int .u32 p.2]] w fun e w' => (∃ v, ∃ er : Int, e = .returned (.tuple #[v, .int .i64 er]) ∧ ∃ a n c, v = .slice a n c) ∧ Below w.heap.size w w' := by
  have bA : Below w.heap.size w (w.alloc (.cells #[.int .u32 (p.1 : Int), .int .u32 (p.2 : Int)] 47)) := belS (Below.refl _ _)
  have hB := bytesOf_any b off cap zs p (w.alloc (.cells #[.int .u32 (p.1 : Int), .int .u32 (p.2 : Int)] 47)) hn hcp hp ((hr.below bA).mono bA.size)
  have HCW := hidS (cutV_wf hwf p)
  have hcl := cutV_len zs p
  clear hr hwf hp
  by_cases hbig : 65536 < p.2
  · have hbI : (65536 : Int) < (p.2 : Int) := by omega
    clear hB hbig
    go_enter Tryd.func41, Tryd.ntmps41
    go_wp2_with fail
    refine bodyPost_ret (results_tmp2 rfl _ _ _) rfl ?_
    exact ⟨⟨_, _, rfl, _, _, _, rfl⟩, bA⟩
  · have hbI : ¬ (65536 : Int) < (p.2 : Int) := by omega
    clear hbig
    go_enter Tryd.func41, Tryd.ntmps41
    go_wp2_with fail
    with_reducible refine hB.mono ?_
    rintro e w1 ⟨a1, c1, rfl, hc1, hr1, _, b1⟩
    have B1 := btS bA b1
    by_cases hm : (cutV zs p).length % 4 = 0
    · have hA := all_u32 a1 c1 (cutV zs p) ((cutV zs p).length / 4) w1 (by omega) (by omega) hc1 HCW.out hr1
      generalize (cutV zs p).length = nn at *
      clear hB hr1
      go_wp2_with fail
      with_reducible refine hA.mono ?_
      rintro e w2 ⟨v2, rfl, own2, b2⟩
      obtain ⟨q1, q2, q3, rfl⟩ := own_one own2
      go_wp2_with fail
      refine bodyPost_ret (results_tmp2 rfl _ _ _) rfl ?_
      exact ⟨⟨_, _, rfl, _, _, _, rfl⟩, btS B1 b2⟩
    · have hA := allE_u32 a1 (cutV zs p).length c1 w1 hm
      generalize (cutV zs p).length = nn at *
      clear hB hr1
      go_wp2_with fail
      with_reducible refine hA.mono ?_
      rintro e w2 ⟨rfl, hq⟩
      subst w2
      go_wp2_with fail
      refine bodyPost_ret (results_tmp2 rfl _ _ _) rfl ?_
      exact ⟨⟨_, _, rfl, _, _, _, rfl⟩, B1⟩
def BPost (e : Ending) : Prop := ∃ r : Bool, e = .returned (.bool r)
set_option maxHeartbeats 1000000 in
theorem stackMayBe_any (x : Nat) (w : World) :
    Calls Tryd.prog 19 #[.int .u32 x] w fun e w' => BPost e ∧ Below w.heap.size w w' := by
  go_enter Tryd.func19, Tryd.ntmps19
  go_wp2_with fail
  all_goals
    go_ret
    exact ⟨⟨_, rfl⟩, Below.refl _ _⟩
def imA (v0 v1 v2 : Value) (z s : Int) (v5 : Value) : Array Value := #[v0, v1, v2, .int .u32 z, .int .u32 s, v5]
set_option maxHeartbeats 1000000 in
theorem room_any (v0 v1 v5 : Value) (a : Option Addr) (n c : Nat) (z st : Nat) (w : World) (_ : v0.oneCell' = true) (_ : v1.oneCell' = true) (_ : v5.oneCell' = true) (hn : n ≤ 1048576) (hz : z < 4294967296) (hs : st < 4294967296) :
    Calls Tryd.prog 20 #[.agg #[v0, v1, .slice a n c, .int .u32 z, .int .u32 st, v5]] w fun e w' => e = .returned (.int .u64 ((n : Int) + (z : Int) + (st : Int))) ∧ Below w.heap.size w w' := by
  go_enter Tryd.func20, Tryd.ntmps20
  go_wp2_with fail
  go_ret
  exact ⟨rfl, belS (Below.refl _ _)⟩
end Go.Proofs.YtnplimdcfbgpeaaDoor
