import Derived.Test.YtbaigjckimpkmaaNDc
import Derived.Deep.RegionHeld3
namespace Go.Proofs.Ytbaigjckimpkmaa
open Go.RowKit Go.WideShapes Go.Sort
set_option maxRecDepth 100000

theorem own_lowM {w : World} {B B' e sz : Nat} {v : Value} {n : Nat} {xs : List Value} (h : w.ownsRow B e sz v n xs) (hle : B' ≤ B) : w.ownsRow B' e sz v n xs :=
  ⟨h.1, h.2.imp id (fun ⟨g, cap, cur, a, b, c⟩ => ⟨g, cap, cur, a, Nat.le_trans hle b, c⟩)⟩
theorem one_news {w : World} {a : Value} {ty : Nat} : ∀ (j : Nat) (u : Value), [a][j]? = some u → (w.alloc (.cells #[a] ty)).cell? ((⟨w.heap.size, 0, none⟩ : Addr).add j) = some u := by
  intro j u hj
  match j, hj with
  | 0, hj => simp at hj; subst hj; simp [Addr.add]
theorem one_one {a : Int} {k : IntKind} : ∀ u ∈ [Value.int k a], u.oneCell' = true := by
  intro u hu
  simp at hu
  subst hu; rfl
def cutV (zs : List Int) (p : Nat × Nat) : List Int := if p.1 + p.2 ≤ zs.length then (zs.drop p.1).take p.2 else []
theorem clone_n (ao : Option Addr) (cap n : Nat) (zs : List Int) (w : World) (hl : zs.length = n) (hn : zs.length ≤ 140737488355328) (hnil : ao = none → zs = []) (hr : Reads w ao zs w.heap.size) :
    Calls Try.prog 42 #[.slice ao n cap] w fun e w' => ∃ v, e = .returned v ∧ w'.ownsRow w.heap.size 5 1 v zs.length (bv zs) ∧ Below w.heap.size w w' := by
  subst hl; exact clone_any ao cap zs w hn hnil hr
set_option maxHeartbeats 1000000 in
theorem lcut_any (b off cap : Nat) (zs : List Int) (p : Nat × Nat) (w : World) (hn : zs.length ≤ 1048576) (hcp : zs.length ≤ cap) (hp : p.1 < 4294967296 ∧ p.2 < 4294967296) (hr : Reads w (some ⟨b, off, none⟩) zs w.heap.size) :
    Calls Try.prog 17 #[.slice (some ⟨b, off, none⟩) zs.length cap, .agg #[.int .u32 p.1, .int .u32 p.2]] w fun e w' => (∃ v er, e = .returned (.tuple #[v, .int .i64 er]) ∧ er = (if p.1 + p.2 ≤ zs.length then 0 else 20) ∧ w'.ownsRow w.heap.size 5 1 v (cutV zs p).length (bv (cutV zs p))) ∧ Below w.heap.size w w' := by
  have hE := fun W => end_any p.1 p.2 W hp.1 hp.2
  have HR := hidS hr
  clear hr
  go_enter Try.func17, Try.ntmps17
  go_wp2_with fail
  with_reducible refine (hE _).mono ?_
  rintro e W1 ⟨rfl, q, os', hq⟩
  have bA : Below w.heap.size w (w.alloc (.cells #[.int .u32 (p.1 : Int), .int .u32 (p.2 : Int)] 27)) := belS (Below.refl _ _)
  have bq : Below (w.alloc (.cells #[.int .u32 (p.1 : Int), .int .u32 (p.2 : Int)] 27)).heap.size (w.alloc (.cells #[.int .u32 (p.1 : Int), .int .u32 (p.2 : Int)] 27)) W1 := by rw [hq]; exact below_grow _ _ _
  have hl0 := (bq.block w.heap.size (by simp)).trans (heap_alloc_last w _)
  have c0 : W1.cell? ⟨w.heap.size, 0, none⟩ = some (.int .u32 p.1) := by unfold World.cell?; simp only [hl0]; rfl
  have c1 : W1.cell? ⟨w.heap.size, 1, none⟩ = some (.int .u32 p.2) := by unfold World.cell?; simp only [hl0]; rfl
  have B1 := btS bA bq
  have hlt1 : w.heap.size < W1.heap.size := by have := bq.size; simp at this; omega
  have hnI : (zs.length : Int) ≤ 1048576 := by omega
  have hwn : IntKind.u64.wrap (zs.length : Int) = (zs.length : Int) := by rw [IntKind.wrap_u64]; omega
  clear hq bq bA hl0
  by_cases hin : p.1 + p.2 ≤ zs.length
  · have hinI : ¬ ((zs.length : Int) < (p.1 : Int) + (p.2 : Int)) := by omega
    have hinC : (p.1 : Int) + (p.2 : Int) ≤ (cap : Int) := by omega
    have hinL : (p.1 : Int) ≤ (p.1 : Int) + (p.2 : Int) := by omega
    have hw1 : IntKind.i64.wrap ((p.1 : Int) + (p.2 : Int)) = (p.1 : Int) + (p.2 : Int) := by rw [IntKind.wrap_i64]; omega
    have HV : Hid (cutV zs p = (zs.drop p.1).take p.2) := if_pos hin
    have hlen : ((zs.drop p.1).take p.2).length = p.2 := by rw [List.length_take, List.length_drop]; omega
    have hgc : ∀ W, Below W1.heap.size W1 W → (W.cell? ⟨w.heap.size, 0, none⟩ = some (.int .u32 p.1) ∧ W.cell? ⟨w.heap.size, 1, none⟩ = some (.int .u32 p.2)) := fun W hW => ⟨(hW.cell (p := ⟨w.heap.size, 0, none⟩) hlt1).trans c0, (hW.cell (p := ⟨w.heap.size, 1, none⟩) hlt1).trans c1⟩
    have hK : ∀ (ad : Option Addr) (c : Nat) (W : World), Below W1.heap.size W1 W → (ad = some ⟨b, off + p.1, none⟩ ∨ (p.2 = 0 ∧ ad ≠ none)) → Calls Try.prog 42 #[.slice ad p.2 c] W fun e w' => ∃ v, e = .returned v ∧ w'.ownsRow W.heap.size 5 1 v p.2 (bv ((zs.drop p.1).take p.2)) ∧ Below W.heap.size W w' := fun ad c W hW had => by
      have := clone_n ad c p.2 ((zs.drop p.1).take p.2) W hlen (by omega) (fun h => by
        rcases had with h' | ⟨h', h''⟩
        · rw [h] at h'; cases h'
        · exact absurd h h'') (fun hpos => by
          rcases had with h' | ⟨h', _⟩
          · have hw := btS B1 hW
            obtain ⟨b2, off2, e2, hb2, hc2⟩ := HR.out (by omega)
            cases e2
            refine ⟨b, off + p.1, h', by have := hw.size; omega, fun j hj => ?_⟩
            rw [hlen] at hj
            rw [hw.cell (p := ⟨b, off + p.1 + j, none⟩) hb2, Nat.add_assoc, hc2 (p.1 + j) (by omega)]
            simp [List.getD_eq_getElem?_getD, hj]
          · omega)
      rwa [hlen] at this
    have hE2 : ∀ W, Calls Try.prog 34 #[.agg #[.int .u32 p.1, .int .u32 p.2]] W fun e w' => e = .returned (.int .u64 ((p.1 : Int) + (p.2 : Int))) ∧ Below W.heap.size W w' := fun W => (hE W).mono fun e w' ⟨h, q, os, hq⟩ => ⟨h, by rw [hq]; exact below_grow _ _ _⟩
    have HK := hidS hK
    have HB : Below W1.heap.size W1 W1 := Below.refl _ _
    clear c0 c1 hK hp
    have htn : ((p.1 : Int) + (p.2 : Int)).toNat - p.1 = p.2 := by omega
    by_cases hpc : cap = p.1
    · have HAD : Hid ((some (⟨b, off, none⟩ : Addr)) = some ⟨b, off + p.1, none⟩ ∨ (p.2 = 0 ∧ (some (⟨b, off, none⟩ : Addr)) ≠ none)) := .inr ⟨by omega, by simp⟩
      have hinC2 : (p.1 : Int) + (p.2 : Int) ≤ (p.1 : Int) := by omega
      have hinC3 : (p.2 : Int) ≤ 0 := by omega
      go_wp2_with fail
      go_region_held3 (fun w' => w'.cell? ⟨w.heap.size, 0, none⟩ = some (.int .u32 p.1) ∧ w'.cell? ⟨w.heap.size, 1, none⟩ = some (.int .u32 p.2)) ((refine hgc _ ?_; (repeat (first | exact HB | exact Below.refl _ _ | with_reducible refine belS ?_ | with_reducible refine Below.drew ?_)))) (first
        | (go_at_call 34; with_reducible refine (hE2 _).mono ?_; rintro e wq ⟨rfl, hq⟩; replace HB : Below W1.heap.size W1 wq := btS (by (repeat (first | exact HB | exact Below.refl _ _ | with_reducible refine belS ?_ | with_reducible refine Below.drew ?_))) hq; clear hq)
        | (go_at_call 42; with_reducible refine (HK.out _ _ _ (by (repeat (first | exact HB | exact Below.refl _ _ | with_reducible refine belS ?_ | with_reducible refine Below.drew ?_))) HAD.out).mono ?_; rintro e wz ⟨vz, rfl, ownz, hz⟩; have HBz : Below W1.heap.size W1 wz := btS (by (repeat (first | exact HB | exact Below.refl _ _ | with_reducible refine belS ?_ | with_reducible refine Below.drew ?_))) hz; have HBw : w.heap.size ≤ _ := Nat.le_trans B1.size (HB.size); replace HB := HBz; have HO := hidS (own_lowM ownz HBw); clear hz))
      go_wp2_with fail
      refine bodyPost_ret (results_tmp2 rfl _ _ _) rfl ?_
      refine ⟨⟨_, _, rfl, by first | rfl | rw [if_pos hin], ?_⟩, btS B1 (by (repeat (first | exact HB | exact Below.refl _ _ | with_reducible refine belS ?_ | with_reducible refine Below.drew ?_)))⟩
      rw [HV.out, hlen]
      exact HO.out
    · skip
      go_wp2_with fail
      go_region_held3 (fun w' => w'.cell? ⟨w.heap.size, 0, none⟩ = some (.int .u32 p.1) ∧ w'.cell? ⟨w.heap.size, 1, none⟩ = some (.int .u32 p.2)) ((refine hgc _ ?_; (repeat (first | exact HB | exact Below.refl _ _ | with_reducible refine belS ?_ | with_reducible refine Below.drew ?_)))) (first
        | (go_at_call 34; with_reducible refine (hE2 _).mono ?_; rintro e wq ⟨rfl, hq⟩; replace HB : Below W1.heap.size W1 wq := btS (by (repeat (first | exact HB | exact Below.refl _ _ | with_reducible refine belS ?_ | with_reducible refine Below.drew ?_))) hq; clear hq)
        | (go_at_call 42; with_reducible refine (HK.out _ _ _ (by (repeat (first | exact HB | exact Below.refl _ _ | with_reducible refine belS ?_ | with_reducible refine Below.drew ?_))) (.inl rfl)).mono ?_; rintro e wz ⟨vz, rfl, ownz, hz⟩; have HBz : Below W1.heap.size W1 wz := btS (by (repeat (first | exact HB | exact Below.refl _ _ | with_reducible refine belS ?_ | with_reducible refine Below.drew ?_))) hz; have HBw : w.heap.size ≤ _ := Nat.le_trans B1.size (HB.size); replace HB := HBz; have HO := hidS (own_lowM ownz HBw); clear hz))
      go_wp2_with fail
      refine bodyPost_ret (results_tmp2 rfl _ _ _) rfl ?_
      refine ⟨⟨_, _, rfl, by first | rfl | rw [if_pos hin], ?_⟩, btS B1 (by (repeat (first | exact HB | exact Below.refl _ _ | with_reducible refine belS ?_ | with_reducible refine Below.drew ?_)))⟩
      rw [HV.out, hlen]
      exact HO.out
  · have hinI : (zs.length : Int) < (p.1 : Int) + (p.2 : Int) := by omega
    have HE : Hid (cutV zs p = []) := if_neg hin
    go_wp2_with fail
    refine bodyPost_ret (results_tmp2 rfl _ _ _) rfl ?_
    refine ⟨⟨_, _, rfl, by first | rfl | rw [if_neg hin], ?_⟩, B1⟩
    rw [HE.out]
    exact World.ownsRow_nil _ _ _ _
theorem cutV_snoc (zs : List Int) (a i : Nat) (h : a + i < zs.length) : (zs.drop a).take (i + 1) = (zs.drop a).take i ++ [zs.getD (a + i) 0] := by
  rw [ptakeS 0 (zs.drop a) i (by rw [List.length_drop]; omega)]
  congr 2
  simp [List.getD_eq_getElem?_getD]
set_option maxHeartbeats 2000000 in
theorem dcut_any (ao : Option Addr) (cap : Nat) (zs : List Int) (p : Nat × Nat) (w : World) (hn : zs.length ≤ 1048576) (hp : p.1 < 4294967296 ∧ p.2 < 4294967296) (hr : Reads w ao zs w.heap.size) :
    Calls Try.prog 16 #[.slice ao zs.length cap, .agg #[.int .u32 p.1, .int .u32 p.2]] w fun e w' => (∃ v er, e = .returned (.tuple #[v, .int .i64 er]) ∧ er = (if p.1 + p.2 ≤ zs.length then 0 else 20) ∧ w'.ownsRow w.heap.size 5 1 v (cutV zs p).length (bv (cutV zs p))) ∧ Below w.heap.size w w' := by
  obtain ⟨i0, hi, hz0, hz1, hz2⟩ := info_parts Try.info5
  have hE := fun W => dend_any p.1 p.2 W hp.1 hp.2
  have HR := hidS hr
  clear hr
  go_enter Try.func16, Try.ntmps16
  go_wp2_with fail
  with_reducible refine (hE _).mono ?_
  rintro e W1 ⟨rfl, q, os', hq⟩
  have bA : Below w.heap.size w (w.alloc (.cells #[.int .u32 (p.1 : Int), .int .u32 (p.2 : Int)] 27)) := belS (Below.refl _ _)
  have bq : Below (w.alloc (.cells #[.int .u32 (p.1 : Int), .int .u32 (p.2 : Int)] 27)).heap.size (w.alloc (.cells #[.int .u32 (p.1 : Int), .int .u32 (p.2 : Int)] 27)) W1 := by rw [hq]; exact below_grow _ _ _
  have hl0 := (bq.block w.heap.size (by simp)).trans (heap_alloc_last w _)
  have c0 : W1.cell? ⟨w.heap.size, 0, none⟩ = some (.int .u32 p.1) := by unfold World.cell?; simp only [hl0]; rfl
  have c1 : W1.cell? ⟨w.heap.size, 1, none⟩ = some (.int .u32 p.2) := by unfold World.cell?; simp only [hl0]; rfl
  have B1 := btS bA bq
  have hlt1 : w.heap.size < W1.heap.size := by have := bq.size; simp at this; omega
  have hnI : (zs.length : Int) ≤ 1048576 := by omega
  have hwn : IntKind.u64.wrap (zs.length : Int) = (zs.length : Int) := by rw [IntKind.wrap_u64]; omega
  clear hq bq bA hl0 hE
  by_cases hin : p.1 + p.2 ≤ zs.length
  · have hinI : ¬ ((zs.length : Int) < (p.1 : Int) + (p.2 : Int)) := by omega
    have HV : Hid (cutV zs p = (zs.drop p.1).take p.2) := if_pos hin
    have hlen : ((zs.drop p.1).take p.2).length = p.2 := by rw [List.length_take, List.length_drop]; omega
    go_wp2_with fail
    go_loopw [6, 7] (fun v i wr => ∃ k : Nat, k ≤ p.2 ∧ i = .int .i64 k ∧ wr.ownsRow W1.heap.size 5 1 v k (bv ((zs.drop p.1).take k)) ∧ Below W1.heap.size W1 wr) (fun _ i _ => p.2 - (intOf i).toNat)
    case atStart => exact ⟨0, Nat.zero_le _, rfl, World.ownsRow_nil _ _ _ _, Below.refl _ _⟩
    case round =>
      obtain ⟨k, hk, rfl, hown, hb⟩ := hrel
      have HO := hidS hown
      have HB := hidS hb
      have hB := hb.size
      have d0 := (hb.cell (p := ⟨w.heap.size, 0, none⟩) hlt1).trans c0
      have d1 := (hb.cell (p := ⟨w.heap.size, 1, none⟩) hlt1).trans c1
      by_cases hlt : k < p.2
      · have hBw := btS B1 hb
        obtain ⟨b, off, rfl, hbl, hc⟩ := HR.out (by omega)
        have x0 := (hBw.cell (p := ⟨b, off + (p.1 + k), none⟩) hbl).trans (hc (p.1 + k) (by omega))
        have HT := hidS (cutV_snoc zs p.1 k (by omega))
        have hltI : (k : Int) < (p.2 : Int) := by omega
        generalize zs.getD (p.1 + k) 0 = c at *
        obtain ⟨q, hq⟩ : ∃ q, q = p.1 + k := ⟨_, rfl⟩
        rw [← hq] at x0
        have hwr : IntKind.i64.wrap ((p.1 : Int) + (k : Int)) = (q : Int) := by rw [IntKind.wrap_i64]; omega
        have hq0 : (0 : Int) ≤ (q : Int) := by omega
        have hq1 : (q : Int) < (zs.length : Int) := by omega
        have hsum : (p.1 : Int) + (k : Int) = (q : Int) := by omega
        clear hown hb hc hBw hp hq
        go_wp2_with (at_builtin; (refine wpList_append_own _ rfl _ _ 32 rfl W1.heap.size 5 i0 (.int .u8 0) 1 1 Try.underlying32 hi hz0 hz1 hz2 rfl (by decide) _ _ _ rfl (HO.out.alloc _) ⟨_, 0, none⟩ 1 1 [.int .u8 c] rfl rfl one_news one_one (by unfold maxLen; omega) (by omega) (by simp; omega) ?_; intro v3 w3 own3 hg3 _))
        have HR3 := hidS (And.intro own3 ((HB.out.alloc hB _).grown hg3 (by simp; omega) (fun q e => (HO.out.lt q e).1)))
        clear own3 hg3
        go_wp2_with fail
        go_roundw
        case rel => exact ⟨k + 1, by omega, by go_num, by rw [HT.out]; simpa [bv] using HR3.out.1, HR3.out.2⟩
        case measure => simp [intOf]; omega
      · have hkk : k = p.2 := by omega
        subst hkk
        have hltI : ¬ (p.2 : Int) < (p.2 : Int) := by omega
        clear hown hb
        go_wp2_with fail
        refine bodyPost_ret (results_tmp2 rfl _ _ _) rfl ?_
        refine ⟨⟨_, _, rfl, by first | rfl | rw [if_pos hin], ?_⟩, btS B1 HB.out⟩
        rw [HV.out, hlen]
        exact own_lowM HO.out (by omega)
  · have hinI : (zs.length : Int) < (p.1 : Int) + (p.2 : Int) := by omega
    have HE : Hid (cutV zs p = []) := if_neg hin
    go_wp2_with fail
    refine bodyPost_ret (results_tmp2 rfl _ _ _) rfl ?_
    refine ⟨⟨_, _, rfl, by first | rfl | rw [if_neg hin], ?_⟩, B1⟩
    rw [HE.out]
    exact World.ownsRow_nil _ _ _ _
end Go.Proofs.Ytbaigjckimpkmaa
