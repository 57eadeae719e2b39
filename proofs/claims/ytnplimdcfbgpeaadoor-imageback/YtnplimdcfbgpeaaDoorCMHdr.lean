import Derived.Test.YtnplimdcfbgpeaaDoorCMAnyG
import Derived.Test.YtnplimdcfbgpeaaDoorLWd32
import Derived.Test.YtnplimdcfbgpeaaDoorCLBase
namespace Go.Proofs.YtnplimdcfbgpeaaDoor
open Go.RowKit Go.WideShapes Go.Sort Go.Lib
set_option maxRecDepth 100000

theorem wth_len (w : Nat) (zs : List Int) (p : Nat) (x : Int) (h : p + w ≤ zs.length) : (wth w zs p x).length = zs.length := by
  simp [wth, nb_len]; omega
theorem wth_wf (w : Nat) (zs : List Int) (p : Nat) (x : Int) (h : ∀ z ∈ zs, 0 ≤ z ∧ z ≤ 255) : ∀ z ∈ wth w zs p x, 0 ≤ z ∧ z ≤ 255 := by
  intro z hz
  simp only [wth, List.mem_append] at hz
  rcases hz with hz | hz | hz
  · exact h z (List.mem_of_mem_take hz)
  · exact nb_wf w x z hz
  · exact h z (List.mem_of_mem_drop hz)
theorem own_lenM {w : World} {B e sz n m : Nat} {v : Value} {xs : List Value} (h : w.ownsRow B e sz v n xs) (hm : n = m) : w.ownsRow B e sz v m xs := hm ▸ h
set_option maxHeartbeats 1000000 in
theorem wordAt_any (ao : Option Addr) (cap : Nat) (zs : List Int) (at_ : Int) (W : World) (hn : zs.length ≤ 140737488355328) (hcp : zs.length ≤ cap) (hwf : ∀ z ∈ zs, 0 ≤ z ∧ z ≤ 255) (hr : Reads W ao zs W.heap.size) (t0 : -9223372036854775808 ≤ at_) (t1 : at_ ≤ 9223372036854775807) :
    Calls Tryd.prog 37 #[.slice ao zs.length cap, .int .i64 at_] W fun e w' => e = .returned (.int .u32 (atv 4 zs at_)) ∧ w' = W := by
  have hA := at_u32 ao cap zs at_ W hn hcp hwf hr t0 t1
  generalize atv 4 zs at_ = v at *
  generalize ate 4 zs.length at_ = er at *
  clear hwf hr
  go_enter Tryd.func37, Tryd.ntmps37
  go_wp2_with (first | (go_at_call 49; with_reducible refine hA.mono ?_; rintro e wq ⟨rfl, hq⟩; subst wq))
  go_ret
  exact ⟨rfl, rfl⟩
/-- the sum that bytes must have -/
def sumV (zs : List Int) : Int := adl (wth 4 zs 8 0)
set_option maxHeartbeats 1000000 in
theorem sumOf_any (ao : Option Addr) (cap : Nat) (zs : List Int) (w : World) (hn : zs.length ≤ 140737488355328) (h64 : 64 ≤ zs.length) (hwf : ∀ z ∈ zs, 0 ≤ z ∧ z ≤ 255) (hr : Reads w ao zs w.heap.size) :
    Calls Tryd.prog 24 #[.slice ao zs.length cap] w fun e w' => e = .returned (.int .u32 (sumV zs)) ∧ Below w.heap.size w w' := by
  have hW := with_u32 ao cap zs 8 0 w hn hr (by decide) (by decide) (by decide) (by decide) ⟨by decide, by omega⟩
  have hl : (wth 4 zs 8 0).length = zs.length := wth_len 4 zs 8 0 (by omega)
  have hwf2 : ∀ z ∈ wth 4 zs 8 0, 0 ≤ z ∧ z ≤ 255 := wth_wf 4 zs 8 0 hwf
  have HW2 := hidS hwf2
  clear hr hwf hwf2
  go_enter Tryd.func24, Tryd.ntmps24
  go_wp2_with fail
  with_reducible refine hW.mono ?_
  rintro e w1 ⟨v, rfl, own1, b1⟩
  obtain ⟨ao1, cap1, he, hr1⟩ := own_reads (own_lenM own1 hl.symm)
  subst he
  have hS := sum_any ao1 cap1 (wth 4 zs 8 0) w1 (by omega) HW2.out hr1
  rw [hl] at hS
  clear hW hr1 own1
  go_wp2_with fail
  with_reducible refine hS.mono ?_
  rintro e w2 ⟨rfl, hq⟩
  subst w2
  go_wp2_with fail
  go_ret
  exact ⟨rfl, b1⟩
set_option maxHeartbeats 1000000 in
theorem lenF_lo (ao : Option Addr) (n cap : Nat) (w : World) (h : n < 64) :
    Calls Tryd.prog 30 #[.slice ao n cap] w fun e w' => e = .returned (.tuple #[.int .i64 n, .int .i64 80]) ∧ w' = w := by
  have hI : (n : Int) < 64 := by omega
  go_enter Tryd.func30, Tryd.ntmps30
  go_wp2_with fail
  refine bodyPost_ret (results_tmp2 rfl _ _ _) rfl ?_
  exact ⟨rfl, rfl⟩
set_option maxHeartbeats 1000000 in
theorem lenF_hi (ao : Option Addr) (n cap : Nat) (w : World) (h : 1048576 < n) :
    Calls Tryd.prog 30 #[.slice ao n cap] w fun e w' => e = .returned (.tuple #[.int .i64 1048576, .int .i64 80]) ∧ w' = w := by
  have hI : ¬ (n : Int) < 64 := by omega
  have hI2 : (1048576 : Int) < (n : Int) := by omega
  clear h
  go_enter Tryd.func30, Tryd.ntmps30
  go_wp2_with fail
  refine bodyPost_ret (results_tmp2 rfl _ _ _) rfl ?_
  exact ⟨rfl, rfl⟩
set_option maxHeartbeats 1000000 in
theorem lenF_ok (ao : Option Addr) (n cap : Nat) (w : World) (h : 64 ≤ n) (h2 : n ≤ 1048576) :
    Calls Tryd.prog 30 #[.slice ao n cap] w fun e w' => e = .returned (.tuple #[.int .i64 0, .int .i64 0]) ∧ w' = w := by
  have hI : ¬ (n : Int) < 64 := by omega
  have hI2 : ¬ (1048576 : Int) < (n : Int) := by omega
  clear h h2
  go_enter Tryd.func30, Tryd.ntmps30
  go_wp2_with fail
  refine bodyPost_ret (results_tmp2 rfl _ _ _) rfl ?_
  exact ⟨rfl, rfl⟩
def HdrPost (zs : List Int) (e : Ending) : Prop := ∃ at_ er : Int, e = .returned (.tuple #[.int .i64 at_, .int .i64 er]) ∧ (er = 0 → atv 4 zs 8 = sumV zs)
set_option maxHeartbeats 2000000 in
theorem header_any (b off cap : Nat) (zs : List Int) (w : World) (hn : zs.length ≤ 1048576) (h64 : 64 ≤ zs.length) (hcp : zs.length ≤ cap) (hwf : ∀ z ∈ zs, 0 ≤ z ∧ z ≤ 255) (hr : Reads w (some ⟨b, off, none⟩) zs w.heap.size) :
    Calls Tryd.prog 25 #[.slice (some ⟨b, off, none⟩) zs.length cap] w fun e w' => HdrPost zs e ∧ Below w.heap.size w w' := by
  have hA := fun (W : World) (hW : Below w.heap.size w W) (at_ : Int) (t0 : -9223372036854775808 ≤ at_) (t1 : at_ ≤ 9223372036854775807) => wordAt_any (some ⟨b, off, none⟩) cap zs at_ W (by omega) hcp hwf ((hr.below hW).mono hW.size) t0 t1
  have hS := fun (W : World) (hW : Below w.heap.size w W) => sumOf_any (some ⟨b, off, none⟩) cap zs W (by omega) h64 hwf ((hr.below hW).mono hW.size)
  have hL := lenF_ok (some ⟨b, off, none⟩) zs.length cap w h64 hn
  obtain ⟨b', off', e', hbl, hc⟩ := hr (by omega)
  cases e'
  have hcv := run_convert_bytes_arg (P := Tryd.prog) w 24 5 Tryd.underlying24 Tryd.underlying5 b off 4 cap (zs.take 4) (by rw [List.length_take]; omega) (fun i hi => by
    rw [hc i (by omega)]; simp [List.getD_eq_getElem?_getD, hi]) 9 Tryd.underlying9
  have HA := hidS hA
  have HS := hidS hS
  have h4 : (4 : Int) ≤ (zs.length : Int) := by omega
  have h4c : (4 : Int) ≤ (cap : Int) := by omega
  clear hr hwf hc hA hS
  generalize strOfNums (zs.take 4) = st at hcv
  go_enter Tryd.func25, Tryd.ntmps25
  go_wp2_with fail
  with_reducible refine hL.mono ?_
  rintro e wq ⟨rfl, hq⟩
  subst wq
  have hb0 : Below w.heap.size w w := Below.refl _ _
  have h1 := HA.out w hb0 4 (by decide) (by decide)
  have h2 := HA.out w hb0 8 (by decide) (by decide)
  have h3 := HS.out w hb0
  cases hst : (st.toList == [80, 69, 78, 33])
  · go_wp2_with fail
    refine bodyPost_ret (results_tmp2 rfl _ _ _) rfl ?_
    exact ⟨⟨_, _, rfl, fun h => by cases h⟩, Below.refl _ _⟩
  · by_cases hv1 : atv 4 zs 4 = 1
    · rw [hv1] at h1
      go_wp2_with fail
      with_reducible refine h1.mono ?_
      rintro e wq ⟨rfl, hq⟩
      subst wq
      go_wp2_with fail
      with_reducible refine h2.mono ?_
      rintro e wq ⟨rfl, hq⟩
      subst wq
      go_wp2_with fail
      with_reducible refine h3.mono ?_
      rintro e w1 ⟨rfl, b1⟩
      by_cases hv2 : atv 4 zs 8 = sumV zs
      · have HV := hidS hv2
        rw [hv2]
        clear hv2 h1 h2 h3
        obtain ⟨sv8, hsv⟩ : ∃ sv8, sumV zs = sv8 := ⟨_, rfl⟩
        rw [hsv]
        have HSV := hidS hsv
        clear hsv
        go_wp2_with fail
        go_loopw [6] (fun i wr => ∃ k : Nat, k ≤ 2 ∧ i = .int .i64 (56 + 4 * (k : Int)) ∧ Below w.heap.size w wr) (fun i _ => 64 - (intOf i).toNat)
        case atStart => exact ⟨0, by omega, rfl, b1⟩
        case round =>
          obtain ⟨k, hk, rfl, hb⟩ := hrel
          by_cases hlt : k < 2
          · have hltI : 56 + 4 * (k : Int) < 64 := by omega
            have h1 := HA.out wr hb (56 + 4 * (k : Int)) (by omega) (by omega)
            by_cases hz : atv 4 zs (56 + 4 * (k : Int)) = 0
            · rw [hz] at h1
              go_wp2_with fail
              with_reducible refine h1.mono ?_
              rintro e wq ⟨rfl, hq⟩
              subst wq
              go_wp2_with fail
              go_roundw
              case rel => exact ⟨k + 1, by omega, by go_num, hb⟩
              case measure => simp [intOf]; omega
            · have hz' : (atv 4 zs (56 + 4 * (k : Int)) == 0) = false := by simpa using hz
              generalize atv 4 zs (56 + 4 * (k : Int)) = xk at *
              go_wp2_with fail
              with_reducible refine h1.mono ?_
              rintro e wq ⟨rfl, hq⟩
              subst wq
              go_wp2_with fail
              refine bodyPost_ret (results_tmp2 rfl _ _ _) rfl ?_
              exact ⟨⟨_, _, rfl, fun h => by cases h⟩, hb⟩
          · have hltI : ¬ 56 + 4 * (k : Int) < 64 := by omega
            go_wp2_with fail
            refine bodyPost_ret (results_tmp2 rfl _ _ _) rfl ?_
            exact ⟨⟨_, _, rfl, fun _ => HV.out⟩, hb⟩
      · have hv2' : (atv 4 zs 8 == sumV zs) = false := by simpa using hv2
        clear hv2
        generalize atv 4 zs 8 = x8 at *
        generalize sumV zs = sv8 at *
        go_wp2_with fail
        refine bodyPost_ret (results_tmp2 rfl _ _ _) rfl ?_
        exact ⟨⟨_, _, rfl, fun h => by cases h⟩, b1⟩
    · have hv1' : (atv 4 zs 4 == 1) = false := by simpa using hv1
      generalize atv 4 zs 4 = x4 at *
      go_wp2_with fail
      with_reducible refine h1.mono ?_
      rintro e wq ⟨rfl, hq⟩
      subst wq
      go_wp2_with fail
      refine bodyPost_ret (results_tmp2 rfl _ _ _) rfl ?_
      exact ⟨⟨_, _, rfl, fun h => by cases h⟩, Below.refl _ _⟩
end Go.Proofs.YtnplimdcfbgpeaaDoor
namespace Go.Proofs.YtnplimdcfbgpeaaDoor
open Go.RowKit Go.WideShapes Go.Sort Go.Lib
set_option maxRecDepth 100000

/-- the places of the segments in the header -/
structure Sg (w : World) : Prop where
  pos : 0 < w.heap.size
  c0 : w.cell? ⟨0, 0, none⟩ = some (.int .i64 16)
  c1 : w.cell? ⟨0, 1, none⟩ = some (.int .i64 24)
  c2 : w.cell? ⟨0, 2, none⟩ = some (.int .i64 32)
  c3 : w.cell? ⟨0, 3, none⟩ = some (.int .i64 40)
theorem Sg.below {w w' : World} (h : Sg w) (hb : Below w.heap.size w w') : Sg w' :=
  ⟨by have := hb.size; have := h.pos; omega, (hb.cell (p := ⟨0, 0, none⟩) h.pos).trans h.c0, (hb.cell (p := ⟨0, 1, none⟩) h.pos).trans h.c1, (hb.cell (p := ⟨0, 2, none⟩) h.pos).trans h.c2, (hb.cell (p := ⟨0, 3, none⟩) h.pos).trans h.c3⟩
def wdA (zs : List Int) (a : Nat) : Nat := (atv 4 zs a).toNat
def pA (k : Nat) : Nat := 16 + 8 * k
def spF (zs : List Int) (k : Nat) : List (Nat × Nat) := (List.range k).map fun j => (wdA zs (pA j), wdA zs (pA j + 4))
theorem spF_succ (zs : List Int) (k : Nat) : spF zs (k + 1) = spF zs k ++ [(wdA zs (pA k), wdA zs (pA k + 4))] := by simp [spF, List.range_succ]
theorem spF_len (zs : List Int) (k : Nat) : (spF zs k).length = k := by simp [spF]
def spL (zs : List Int) : List (Nat × Nat) := spF zs 4
theorem index_pl (w : World) : ∀ k : Nat, k < 4 → (Instr.index 64 (.agg #[.int .i64 16, .int .i64 24, .int .i64 32, .int .i64 40]) (.int .i64 (k : Int))).run Tryd.prog w = .ok (.int .i64 ((pA k : Nat) : Int)) w
  | 0, _ => by kernel_rfl
  | 1, _ => by kernel_rfl
  | 2, _ => by kernel_rfl
  | 3, _ => by kernel_rfl
  | n + 4, h => absurd h (by omega)
theorem word_n (ao : Option Addr) (cap : Nat) (zs : List Int) (at_ : Nat) (W : World) (hn : zs.length ≤ 1048576) (hcp : zs.length ≤ cap) (hwf : ∀ z ∈ zs, 0 ≤ z ∧ z ≤ 255) (hr : Reads W ao zs W.heap.size) (ht : at_ ≤ 1048576) (h0 : 0 ≤ atv 4 zs at_) :
    Calls Tryd.prog 37 #[.slice ao zs.length cap, .int .i64 (at_ : Int)] W fun e w' => e = .returned (.int .u32 (wdA zs at_ : Nat)) ∧ w' = W := by
  have := wordAt_any ao cap zs at_ W (by omega) hcp hwf hr (by omega) (by omega)
  rwa [show ((wdA zs at_ : Nat) : Int) = atv 4 zs at_ by unfold wdA; omega]
set_option maxHeartbeats 1000000 in
theorem spansOf_any (ao : Option Addr) (cap : Nat) (zs : List Int) (w : World) (hn : zs.length ≤ 1048576) (hcp : zs.length ≤ cap) (hwf : ∀ z ∈ zs, 0 ≤ z ∧ z ≤ 255) (hr : Reads w ao zs w.heap.size) (hg : Sg w) (hnn : ∀ a : Nat, 0 ≤ atv 4 zs a) :
    Calls Tryd.prog 26 #[.slice ao zs.length cap] w fun e w' => ∃ v, e = .returned v ∧ w'.ownsRow w.heap.size 47 2 v 4 (sv (spL zs)) ∧ Below w.heap.size w w' := by
  obtain ⟨i0, hi, hz0, hz1, hz2⟩ := info_parts Tryd.infoS
  have hA := fun (W : World) (hW : Below w.heap.size w W) (a : Nat) (ha : a ≤ 1048576) => word_n ao cap zs a W hn hcp hwf ((hr.below hW).mono hW.size) ha (hnn a)
  have HA := hidS hA
  obtain ⟨hp, g0, g1, g2, g3⟩ := hg
  clear hA hr hwf
  go_enter Tryd.func26, Tryd.ntmps26
  go_wp2_with fail
  go_loopw [3, 7] (fun v i wr => ∃ k : Nat, k ≤ 4 ∧ i = .int .i64 k ∧ wr.ownsRow w.heap.size 47 2 v k (sv (spF zs k)) ∧ Below w.heap.size w wr) (fun _ i _ => 4 - (intOf i).toNat)
  case atStart => exact ⟨0, by omega, rfl, World.ownsRow_nil _ _ _ _, Below.refl _ _⟩
  case round =>
    obtain ⟨k, hk, rfl, hown, hb⟩ := hrel
    by_cases hlt : k < 4
    · have hltI : (k : Int) < 4 := by omega
      have hix := index_pl wr k hlt
      have hp1 : pA k ≤ 40 := by unfold pA; omega
      have h1 := HA.out wr hb (pA k) (by omega)
      have h2 := HA.out wr hb (pA k + 4) (by omega)
      have hc4 : (((pA k + 4 : Nat)) : Int) = ((pA k : Nat) : Int) + 4 := by push_cast; rfl
      rw [hc4] at h2
      have HS := hidS (spF_succ zs k)
      have hBs := hb.size
      generalize wdA zs (pA k) = x0 at *
      generalize wdA zs (pA k + 4) = x1 at *
      generalize pA k = pk at *
      go_wp2_with fail
      with_reducible refine h1.mono ?_
      rintro e wq ⟨rfl, hq⟩
      subst wq
      go_wp2_with fail
      with_reducible refine h2.mono ?_
      rintro e wq ⟨rfl, hq⟩
      subst wq
      go_wp2_with (at_builtin; refine wpList_append_own _ rfl _ _ 43 rfl w.heap.size 47 i0 (.agg #[.int .u32 0, .int .u32 0]) 2 8 Tryd.underlying43 hi hz0 hz1 hz2 rfl (by decide) _ _ _ rfl (hown.alloc _) ⟨_, 0, none⟩ 1 1 [.int .u32 (x0 : Int), .int .u32 (x1 : Int)] rfl rfl ?c1 ?c2 ?c3 ?c4 ?c5 ?_)
      case c1 =>
        intro j u hj
        match j, hj with
        | 0, hj => simp at hj; subst hj; simp [Addr.add]
        | 1, hj => simp at hj; subst hj; simp [Addr.add]
      case c2 => intro u hu; simp at hu; rcases hu with rfl | rfl <;> rfl
      case c3 => unfold maxLen; omega
      case c4 => omega
      case c5 => simp; omega
      intro v' w5 hown' hgrow _
      have R1 : w5.ownsRow w.heap.size 47 2 v' (k + 1) (sv (spF zs (k + 1))) := by rw [HS.out, sv_append]; exact hown'
      have R2 : Below w.heap.size w w5 := (hb.alloc hBs _).grown hgrow (by simp; omega) (fun j e => (hown.lt j e).1)
      clear hown' hgrow hown h1 h2
      go_wp2_with fail
      go_roundw
      case rel => exact ⟨k + 1, by omega, by go_num, R1, R2⟩
      case measure => simp [intOf]; omega
    · obtain rfl : k = 4 := by omega
      go_wp2_with fail
      go_ret
      exact ⟨_, rfl, hown, hb⟩
end Go.Proofs.YtnplimdcfbgpeaaDoor
namespace Go.Proofs.YtnplimdcfbgpeaaDoor
open Go.RowKit Go.WideShapes Go.Sort Go.Lib
set_option maxRecDepth 100000

set_option maxHeartbeats 1000000 in
theorem within_b (a : Nat × Nat) (t : Nat) (w : World) (ha : a.1 < 4294967296 ∧ a.2 < 4294967296) (ht : t < 4294967296) :
    Calls Tryd.prog 38 #[.agg #[.int .u32 a.1, .int .u32 a.2], .int .u32 t] w fun e w' => e = .returned (.bool (decide (a.1 + a.2 ≤ t))) ∧ ∃ q os', w' = grow (w.drewN q) os' := by
  have hE := fun W => end_any a.1 a.2 W ha.1 ha.2
  have hd : decide (a.1 + a.2 ≤ t) = decide ((a.1 : Int) + (a.2 : Int) ≤ (t : Int)) := by rw [decide_eq_decide]; omega
  rw [hd]
  have htI : (t : Int) < 4294967296 := by omega
  have ht0 : (0 : Int) ≤ (t : Int) := by omega
  clear ha ht hd
  generalize (a.1 : Int) = a1 at *
  generalize (a.2 : Int) = a2 at *
  generalize (t : Int) = tt at *
  have hw1 : IntKind.u64.wrap tt = tt := by rw [IntKind.wrap_u64]; omega
  go_enter Tryd.func38, Tryd.ntmps38
  go_wp2_with (first | (go_at_call 50; with_reducible refine (hE _).mono ?_; rintro e wq ⟨rfl, q, os', hq⟩; subst wq))
  go_ret
  exact ⟨rfl, q, _, by rw [alloc_eq_grow]; show grow (grow (w.drewN q) _) os' = _; rw [grow_grow]⟩
def TwoPost (e : Ending) : Prop := ∃ at_ er : Int, e = .returned (.tuple #[.int .i64 at_, .int .i64 er])
theorem spL_wf (zs : List Int) (hwf : ∀ z ∈ zs, 0 ≤ z ∧ z ≤ 255) : Wfs (spL zs) := by
  intro p hp
  obtain ⟨j, _, rfl⟩ := List.mem_map.1 hp
  have h1 := atv_range 4 zs (pA j : Nat) hwf
  have h2 := atv_range 4 zs ((pA j + 4 : Nat)) hwf
  unfold wdA
  omega
theorem getD4 (L : List (Nat × Nat)) (h : L.length = 4) (k : Nat) (hk : k < 4) : k < L.length := by omega
set_option maxHeartbeats 2000000 in
theorem spansFault_any (a : Option Addr) (c : Nat) (L : List (Nat × Nat)) (t : Nat) (w : World) (h4 : L.length = 4) (hw : Wfs L) (ht : t < 4294967296) (hg : Sg w) (hown : w.ownsRow 0 47 2 (.slice a 4 c) 4 (sv L)) :
    Calls Tryd.prog 27 #[.slice a 4 c, .int .u32 t] w fun e w' => TwoPost e ∧ Below w.heap.size w w' := by
  obtain ⟨i0, hi, hz0, hz1, hz2⟩ := info_parts Tryd.infoS
  obtain ⟨g, cc, he, _⟩ := own_form hown (by decide)
  simp only [Value.slice.injEq, true_and] at he
  obtain ⟨rfl, rfl⟩ := he
  have hgl := (hown.lt g rfl).2
  have hcs : ∀ W, Below w.heap.size w W → ∀ k, k < 4 → W.cell? ⟨g, k * 2, none⟩ = some (.int .u32 (L.getD k (0, 0)).1) ∧ W.cell? ⟨g, k * 2 + 1, none⟩ = some (.int .u32 (L.getD k (0, 0)).2) := fun W hW k hk => by
    obtain ⟨e0, e1⟩ := sv_get L k (by omega)
    have x0 := hown.cells (g := g) rfl _ _ e0
    have x1 := hown.cells (g := g) rfl _ _ e1
    rw [add_plain, Nat.zero_add] at x0 x1
    exact ⟨(hW.cell (p := ⟨g, k * 2, none⟩) hgl).trans x0, (hW.cell (p := ⟨g, k * 2 + 1, none⟩) hgl).trans x1⟩
  have HCS := hidS hcs
  have HW := hidS hw
  have HG := hidS hg
  have HO := hidS hown
  obtain ⟨hp, g0, g1, g2, g3⟩ := hg
  clear hcs hw hown
  go_enter Tryd.func27, Tryd.ntmps27
  go_wp2_with fail
  go_loopw [13] (fun i wr => ∃ k : Nat, k ≤ 4 ∧ i = .int .i64 k ∧ Below w.heap.size w wr) (fun i _ => 4 - (intOf i).toNat)
  case atStart => exact ⟨0, by omega, rfl, Below.refl _ _⟩
  case round =>
    obtain ⟨k, hk, rfl, hb⟩ := hrel
    by_cases hlt : k < 4
    · have hltI : (k : Int) < 4 := by omega
      have hix := index_pl wr k hlt
      obtain ⟨x0, x1⟩ := HCS.out wr hb k hlt
      have hT := fun W => within_b (L.getD k (0, 0)) t W (HW.out _ (getD_memS (by omega))) ht
      generalize decide ((L.getD k (0, 0)).1 + (L.getD k (0, 0)).2 ≤ t) = r at *
      generalize L.getD k (0, 0) = p at *
      generalize pA k = pk at *
      cases r
      · go_wp2_with fail
        with_reducible refine (hT _).mono ?_
        rintro e wq ⟨rfl, q, os', hq⟩
        subst wq
        go_wp2_with fail
        refine bodyPost_ret (results_tmp2 rfl _ _ _) rfl ?_
        exact ⟨⟨_, _, rfl⟩, btS hb (below_grow _ _ _)⟩
      · go_wp2_with fail
        with_reducible refine (hT _).mono ?_
        rintro e wq ⟨rfl, q, os', hq⟩
        subst wq
        go_wp2_with fail
        go_roundw
        case rel => exact ⟨k + 1, by omega, by go_num, btS hb (below_grow _ _ _)⟩
        case measure => simp [intOf]; omega
    · obtain rfl : k = 4 := by omega
      have own0 := World.ownsRow_lit (size := 2) (base := wr.heap.size) (e := 47) wr #[.int .u32 0, .int .u32 64] 1 (Nat.le_refl _) (by decide) rfl
      have hbA : Below wr.heap.size wr (wr.alloc (.cells #[.int .u32 0, .int .u32 64] 47)) := belS (Below.refl _ _)
      have hnews : ∀ j u, (sv L)[j]? = some u → (wr.alloc (.cells #[.int .u32 0, .int .u32 64] 47)).cell? ((⟨g, 0, none⟩ : Addr).add j) = some u := fun j u hj => by
        have h1 := HO.out.cells (g := g) rfl _ _ hj
        rw [add_plain] at h1 ⊢
        have hgw : g < wr.heap.size := by have := hb.size; omega
        exact (hbA.cell (p := ⟨g, 0 + j, none⟩) hgw).trans ((hb.cell (p := ⟨g, 0 + j, none⟩) hgl).trans h1)
      have HNW := hidS hnews
      clear hnews
      go_wp2_with (at_builtin; refine wpList_append_lies _ rfl _ _ 43 rfl wr.heap.size 47 i0 (.agg #[.int .u32 0, .int .u32 0]) 2 8 Tryd.underlying43 hi hz0 hz1 hz2 rfl (by decide) _ 1 _ rfl own0 ⟨g, 0, none⟩ 4 c (sv L) rfl (by rw [sv_len, h4]) HNW.out (sv_one' L) (by decide) (by decide) (by decide) ?d5 (wr.heap.size + 1) ?d6 ?_)
      intro g5 c5 w5 hown5 hgrow _ _
      have R2 : Below wr.heap.size wr w5 := hbA.grown hgrow (by simp) (fun j e => by simp [Value.ownBlock] at e; omega)
      have B5 := btS hb R2
      have eL : [Value.int .u32 0, Value.int .u32 64] ++ sv L = sv ((0, 64) :: L) := rfl
      have hown6 : w5.ownsRow wr.heap.size 47 2 (.slice (some ⟨g5, 0, none⟩) ((0, 64) :: L).length c5) ((0, 64) :: L).length (sv ((0, 64) :: L)) := by
        rw [← eL, List.length_cons, h4]; exact hown5
      have hc5 := own_capS hown6
      obtain ⟨a6, c6, he6, hrd6⟩ := own_srd hown6
      simp only [Value.slice.injEq, true_and] at he6
      obtain ⟨rfl, rfl⟩ := he6
      have hWf : Wfs ((0, 64) :: L) := by
        intro p hp
        rcases List.mem_cons.1 hp with rfl | hp
        · exact ⟨by decide, by decide⟩
        · exact HW.out p hp
      have hP := aptG_any (some ⟨g5, 0, none⟩) c5 ((0, 64) :: L) w5 (by rw [List.length_cons, h4]; decide) hc5 hWf hrd6
      have e5 : ((0, 64) :: L).length = 5 := by rw [List.length_cons, h4]
      rw [e5] at hP
      have HG5 := hidS (HG.out.below B5)
      clear hown5 hgrow own0 hown6 hrd6 HNW HCS HO hWf hc5 eL hbA R2
      go_wp2_with fail
      with_reducible refine hP.mono ?_
      rintro e w6 ⟨hpost, b6⟩
      have B6 := btS B5 b6
      have hg6 := HG5.out.below b6
      obtain ⟨_, q0, q1, q2, q3⟩ := hg6
      rcases hpost with ⟨_, rfl⟩ | ⟨_, i, j, rfl, hi1, hi5, _, _⟩
      · go_wp2_with fail
        refine bodyPost_ret (results_tmp2 rfl _ _ _) rfl ?_
        exact ⟨⟨_, _, rfl⟩, B6⟩
      · rw [e5] at hi5
        have hcase : i = 1 ∨ i = 2 ∨ i = 3 ∨ i = 4 := by omega
        rcases hcase with rfl | rfl | rfl | rfl
        all_goals
          go_wp2_with fail
          refine bodyPost_ret (results_tmp2 rfl _ _ _) rfl ?_
          exact ⟨⟨_, _, rfl⟩, B6⟩
end Go.Proofs.YtnplimdcfbgpeaaDoor
namespace Go.Proofs.YtnplimdcfbgpeaaDoor
open Go.RowKit Go.WideShapes Go.Sort Go.Lib
set_option maxRecDepth 100000

/-- is a file right ahead of its segments? -/
def HdOk (zs : List Int) : Prop := (strOfNums (zs.take 4)).toList = [80, 69, 78, 33] ∧ atv 4 zs 4 = 1 ∧ atv 4 zs 8 = sumV zs ∧ atv 4 zs 56 = 0 ∧ atv 4 zs 60 = 0
def HdP (zs : List Int) (e : Ending) : Prop := ∃ at_ er : Int, e = .returned (.tuple #[.int .i64 at_, .int .i64 er]) ∧ (er = 0 ↔ HdOk zs) ∧ (er = 0 → at_ = 0)
theorem hdp_bad {zs : List Int} {at_ er : Int} (h : ¬ er = 0) (h2 : ¬ HdOk zs) : HdP zs (.returned (.tuple #[.int .i64 at_, .int .i64 er])) := ⟨_, _, rfl, ⟨fun h3 => absurd h3 h, fun h3 => absurd h3 h2⟩, fun h3 => absurd h3 h⟩
set_option maxHeartbeats 2000000 in
theorem header_told (b off cap : Nat) (zs : List Int) (w : World) (hn : zs.length ≤ 1048576) (h64 : 64 ≤ zs.length) (hcp : zs.length ≤ cap) (hwf : ∀ z ∈ zs, 0 ≤ z ∧ z ≤ 255) (hr : Reads w (some ⟨b, off, none⟩) zs w.heap.size) :
    Calls Tryd.prog 25 #[.slice (some ⟨b, off, none⟩) zs.length cap] w fun e w' => HdP zs e ∧ Below w.heap.size w w' := by
  have hA := fun (W : World) (hW : Below w.heap.size w W) (at_ : Int) (t0 : -9223372036854775808 ≤ at_) (t1 : at_ ≤ 9223372036854775807) => wordAt_any (some ⟨b, off, none⟩) cap zs at_ W (by omega) hcp hwf ((hr.below hW).mono hW.size) t0 t1
  have hS := fun (W : World) (hW : Below w.heap.size w W) => sumOf_any (some ⟨b, off, none⟩) cap zs W (by omega) h64 hwf ((hr.below hW).mono hW.size)
  have hL := lenF_ok (some ⟨b, off, none⟩) zs.length cap w h64 hn
  obtain ⟨b', off', e', hbl, hc⟩ := hr (by omega)
  cases e'
  have hcv := run_convert_bytes_arg (P := Tryd.prog) w 24 5 Tryd.underlying24 Tryd.underlying5 b off 4 cap (zs.take 4) (by rw [List.length_take]; omega) (fun i hi => by
    rw [hc i (by omega)]; simp [List.getD_eq_getElem?_getD, hi]) 9 Tryd.underlying9
  have HA := hidS hA
  have HS := hidS hS
  have h4 : (4 : Int) ≤ (zs.length : Int) := by omega
  have h4c : (4 : Int) ≤ (cap : Int) := by omega
  have HK : Hid (HdOk zs ↔ ((strOfNums (zs.take 4)).toList = [80, 69, 78, 33] ∧ atv 4 zs 4 = 1 ∧ atv 4 zs 8 = sumV zs ∧ atv 4 zs 56 = 0 ∧ atv 4 zs 60 = 0)) := hidS Iff.rfl
  clear hr hwf hc hA hS
  generalize strOfNums (zs.take 4) = st at hcv HK
  go_enter Tryd.func25, Tryd.ntmps25
  go_wp2_with fail
  with_reducible refine hL.mono ?_
  rintro e wq ⟨rfl, hq⟩
  subst wq
  have hb0 : Below w.heap.size w w := Below.refl _ _
  have h1 := HA.out w hb0 4 (by decide) (by decide)
  have h2 := HA.out w hb0 8 (by decide) (by decide)
  have h3 := HS.out w hb0
  cases hst : (st.toList == [80, 69, 78, 33])
  · have HN := hidS (show ¬ HdOk zs from fun h => by rw [HK.out] at h; rw [h.1] at hst; simp at hst)
    go_wp2_with fail
    refine bodyPost_ret (results_tmp2 rfl _ _ _) rfl ?_
    exact ⟨hdp_bad (by decide) HN.out, Below.refl _ _⟩
  · have HST := hidS (show st.toList = [80, 69, 78, 33] from by simpa using hst)
    by_cases hv1 : atv 4 zs 4 = 1
    · have HV1 := hidS hv1
      rw [hv1] at h1
      clear hv1
      go_wp2_with fail
      with_reducible refine h1.mono ?_
      rintro e wq ⟨rfl, hq⟩
      subst wq
      go_wp2_with fail
      with_reducible refine h2.mono ?_
      rintro e wq ⟨rfl, hq⟩
      subst wq
      go_wp2_with fail
      with_reducible refine h3.mono ?_
      rintro e w1 ⟨rfl, b1⟩
      by_cases hv2 : atv 4 zs 8 = sumV zs
      · have HV := hidS hv2
        rw [hv2]
        clear hv2 h1 h2 h3
        obtain ⟨sv8, hsv⟩ : ∃ sv8, sumV zs = sv8 := ⟨_, rfl⟩
        rw [hsv]
        have HSV := hidS hsv
        clear hsv
        go_wp2_with fail
        go_loopw [6] (fun i wr => ∃ k : Nat, k ≤ 2 ∧ i = .int .i64 (56 + 4 * (k : Int)) ∧ (∀ j, j < k → atv 4 zs (56 + 4 * (j : Int)) = 0) ∧ Below w.heap.size w wr) (fun i _ => 64 - (intOf i).toNat)
        case atStart => exact ⟨0, by omega, rfl, fun j hj => absurd hj (by omega), b1⟩
        case round =>
          obtain ⟨k, hk, rfl, hall, hb⟩ := hrel
          have HALL := hidS hall
          clear hall
          by_cases hlt : k < 2
          · have hltI : 56 + 4 * (k : Int) < 64 := by omega
            have h1 := HA.out wr hb (56 + 4 * (k : Int)) (by omega) (by omega)
            by_cases hz : atv 4 zs (56 + 4 * (k : Int)) = 0
            · have HZ := hidS hz
              rw [hz] at h1
              clear hz
              go_wp2_with fail
              with_reducible refine h1.mono ?_
              rintro e wq ⟨rfl, hq⟩
              subst wq
              go_wp2_with fail
              go_roundw
              case rel => exact ⟨k + 1, by omega, by go_num, fun j hj => by
                by_cases hj2 : j < k
                · exact HALL.out j hj2
                · rw [show j = k by omega]; exact HZ.out, hb⟩
              case measure => simp [intOf]; omega
            · have hz' : (atv 4 zs (56 + 4 * (k : Int)) == 0) = false := by simpa using hz
              have HN := hidS (show ¬ HdOk zs from fun h => by
                rcases (show k = 0 ∨ k = 1 by omega) with rfl | rfl
                · exact hz h.2.2.2.1
                · exact hz h.2.2.2.2)
              clear hz
              generalize atv 4 zs (56 + 4 * (k : Int)) = xk at *
              go_wp2_with fail
              with_reducible refine h1.mono ?_
              rintro e wq ⟨rfl, hq⟩
              subst wq
              go_wp2_with fail
              refine bodyPost_ret (results_tmp2 rfl _ _ _) rfl ?_
              exact ⟨hdp_bad (by decide) HN.out, hb⟩
          · have hltI : ¬ 56 + 4 * (k : Int) < 64 := by omega
            have HY := hidS (show HdOk zs from HK.out.2 ⟨HST.out, HV1.out, HV.out, HALL.out 0 (by omega), HALL.out 1 (by omega)⟩)
            go_wp2_with fail
            refine bodyPost_ret (results_tmp2 rfl _ _ _) rfl ?_
            exact ⟨⟨_, _, rfl, ⟨fun _ => HY.out, fun _ => rfl⟩, fun _ => rfl⟩, hb⟩
      · have hv2' : (atv 4 zs 8 == sumV zs) = false := by simpa using hv2
        have HN := hidS (show ¬ HdOk zs from fun h => hv2 h.2.2.1)
        clear hv2
        generalize atv 4 zs 8 = x8 at *
        generalize sumV zs = sv8 at *
        go_wp2_with fail
        refine bodyPost_ret (results_tmp2 rfl _ _ _) rfl ?_
        exact ⟨hdp_bad (by decide) HN.out, b1⟩
    · have hv1' : (atv 4 zs 4 == 1) = false := by simpa using hv1
      have HN := hidS (show ¬ HdOk zs from fun h => hv1 h.2.1)
      clear hv1
      generalize atv 4 zs 4 = x4 at *
      go_wp2_with fail
      with_reducible refine h1.mono ?_
      rintro e wq ⟨rfl, hq⟩
      subst wq
      go_wp2_with fail
      refine bodyPost_ret (results_tmp2 rfl _ _ _) rfl ?_
      exact ⟨hdp_bad (by decide) HN.out, Below.refl _ _⟩
/-- do the segments lie within the file, and apart? -/
def SpOk (L : List (Nat × Nat)) (t : Nat) : Prop := (∀ k, k < 4 → (L.getD k (0, 0)).1 + (L.getD k (0, 0)).2 ≤ t) ∧ Ap ((0, 64) :: L)
def SpP (L : List (Nat × Nat)) (t : Nat) (e : Ending) : Prop := ∃ at_ er : Int, e = .returned (.tuple #[.int .i64 at_, .int .i64 er]) ∧ (er = 0 ↔ SpOk L t) ∧ (er = 0 → at_ = 0)
theorem spp_bad {L : List (Nat × Nat)} {t : Nat} {at_ er : Int} (h : ¬ er = 0) (h2 : ¬ SpOk L t) : SpP L t (.returned (.tuple #[.int .i64 at_, .int .i64 er])) := ⟨_, _, rfl, ⟨fun h3 => absurd h3 h, fun h3 => absurd h3 h2⟩, fun h3 => absurd h3 h⟩
set_option maxHeartbeats 2000000 in
theorem spansFault_told (a : Option Addr) (c : Nat) (L : List (Nat × Nat)) (t : Nat) (w : World) (h4 : L.length = 4) (hw : Wfs L) (ht : t < 4294967296) (hg : Sg w) (hown : w.ownsRow 0 47 2 (.slice a 4 c) 4 (sv L)) :
    Calls Tryd.prog 27 #[.slice a 4 c, .int .u32 t] w fun e w' => SpP L t e ∧ Below w.heap.size w w' := by
  obtain ⟨i0, hi, hz0, hz1, hz2⟩ := info_parts Tryd.infoS
  obtain ⟨g, cc, he, _⟩ := own_form hown (by decide)
  simp only [Value.slice.injEq, true_and] at he
  obtain ⟨rfl, rfl⟩ := he
  have hgl := (hown.lt g rfl).2
  have hcs : ∀ W, Below w.heap.size w W → ∀ k, k < 4 → W.cell? ⟨g, k * 2, none⟩ = some (.int .u32 (L.getD k (0, 0)).1) ∧ W.cell? ⟨g, k * 2 + 1, none⟩ = some (.int .u32 (L.getD k (0, 0)).2) := fun W hW k hk => by
    obtain ⟨e0, e1⟩ := sv_get L k (by omega)
    have x0 := hown.cells (g := g) rfl _ _ e0
    have x1 := hown.cells (g := g) rfl _ _ e1
    rw [add_plain, Nat.zero_add] at x0 x1
    exact ⟨(hW.cell (p := ⟨g, k * 2, none⟩) hgl).trans x0, (hW.cell (p := ⟨g, k * 2 + 1, none⟩) hgl).trans x1⟩
  have HCS := hidS hcs
  have HW := hidS hw
  have HG := hidS hg
  have HO := hidS hown
  obtain ⟨hp, g0, g1, g2, g3⟩ := hg
  clear hcs hw hown
  go_enter Tryd.func27, Tryd.ntmps27
  go_wp2_with fail
  go_loopw [13] (fun i wr => ∃ k : Nat, k ≤ 4 ∧ i = .int .i64 k ∧ (∀ j, j < k → (L.getD j (0, 0)).1 + (L.getD j (0, 0)).2 ≤ t) ∧ Below w.heap.size w wr) (fun i _ => 4 - (intOf i).toNat)
  case atStart => exact ⟨0, by omega, rfl, fun j hj => absurd hj (by omega), Below.refl _ _⟩
  case round =>
    obtain ⟨k, hk, rfl, hall, hb⟩ := hrel
    have HALL := hidS hall
    clear hall
    by_cases hlt : k < 4
    · have hltI : (k : Int) < 4 := by omega
      have hix := index_pl wr k hlt
      obtain ⟨x0, x1⟩ := HCS.out wr hb k hlt
      have hT := fun W => within_b (L.getD k (0, 0)) t W (HW.out _ (getD_memS (by omega))) ht
      have HD : Hid (decide ((L.getD k (0, 0)).1 + (L.getD k (0, 0)).2 ≤ t) = decide ((L.getD k (0, 0)).1 + (L.getD k (0, 0)).2 ≤ t)) := hidS rfl
      have HDe : Hid (∀ r : Bool, decide ((L.getD k (0, 0)).1 + (L.getD k (0, 0)).2 ≤ t) = r → ((r = true ↔ (L.getD k (0, 0)).1 + (L.getD k (0, 0)).2 ≤ t))) := hidS (fun r h => by rw [← h, decide_eq_true_iff])
      clear HD
      obtain ⟨r, hre⟩ : ∃ r, decide ((L.getD k (0, 0)).1 + (L.getD k (0, 0)).2 ≤ t) = r := ⟨_, rfl⟩
      have HRE := hidS (HDe.out r hre)
      rw [hre] at hT
      clear hre HDe
      obtain ⟨p, hpe⟩ : ∃ p, L.getD k (0, 0) = p := ⟨_, rfl⟩
      rw [hpe] at hT x0 x1
      clear hpe
      generalize pA k = pk at *
      cases r
      · have HN := hidS (show ¬ SpOk L t from fun h => by have := HRE.out.2 (h.1 k hlt); cases this)
        go_wp2_with fail
        with_reducible refine (hT _).mono ?_
        rintro e wq ⟨rfl, q, os', hq⟩
        subst wq
        go_wp2_with fail
        refine bodyPost_ret (results_tmp2 rfl _ _ _) rfl ?_
        exact ⟨spp_bad (by decide) HN.out, btS hb (below_grow _ _ _)⟩
      · have HYK := hidS (HRE.out.1 rfl)
        go_wp2_with fail
        with_reducible refine (hT _).mono ?_
        rintro e wq ⟨rfl, q, os', hq⟩
        subst wq
        go_wp2_with fail
        go_roundw
        case rel => exact ⟨k + 1, by omega, by go_num, fun j hj => by
          by_cases hj2 : j < k
          · exact HALL.out j hj2
          · rw [show j = k by omega]; exact HYK.out, btS hb (below_grow _ _ _)⟩
        case measure => simp [intOf]; omega
    · obtain rfl : k = 4 := by omega
      have own0 := World.ownsRow_lit (size := 2) (base := wr.heap.size) (e := 47) wr #[.int .u32 0, .int .u32 64] 1 (Nat.le_refl _) (by decide) rfl
      have hbA : Below wr.heap.size wr (wr.alloc (.cells #[.int .u32 0, .int .u32 64] 47)) := belS (Below.refl _ _)
      have hnews : ∀ j u, (sv L)[j]? = some u → (wr.alloc (.cells #[.int .u32 0, .int .u32 64] 47)).cell? ((⟨g, 0, none⟩ : Addr).add j) = some u := fun j u hj => by
        have h1 := HO.out.cells (g := g) rfl _ _ hj
        rw [add_plain] at h1 ⊢
        have hgw : g < wr.heap.size := by have := hb.size; omega
        exact (hbA.cell (p := ⟨g, 0 + j, none⟩) hgw).trans ((hb.cell (p := ⟨g, 0 + j, none⟩) hgl).trans h1)
      have HNW := hidS hnews
      clear hnews
      go_wp2_with (at_builtin; refine wpList_append_lies _ rfl _ _ 43 rfl wr.heap.size 47 i0 (.agg #[.int .u32 0, .int .u32 0]) 2 8 Tryd.underlying43 hi hz0 hz1 hz2 rfl (by decide) _ 1 _ rfl own0 ⟨g, 0, none⟩ 4 c (sv L) rfl (by rw [sv_len, h4]) HNW.out (sv_one' L) (by decide) (by decide) (by decide) ?d5 (wr.heap.size + 1) ?d6 ?_)
      intro g5 c5 w5 hown5 hgrow _ _
      have R2 : Below wr.heap.size wr w5 := hbA.grown hgrow (by simp) (fun j e => by simp [Value.ownBlock] at e; omega)
      have B5 := btS hb R2
      have eL : [Value.int .u32 0, Value.int .u32 64] ++ sv L = sv ((0, 64) :: L) := rfl
      have hown6 : w5.ownsRow wr.heap.size 47 2 (.slice (some ⟨g5, 0, none⟩) ((0, 64) :: L).length c5) ((0, 64) :: L).length (sv ((0, 64) :: L)) := by
        rw [← eL, List.length_cons, h4]; exact hown5
      have hc5 := own_capS hown6
      obtain ⟨a6, c6, he6, hrd6⟩ := own_srd hown6
      simp only [Value.slice.injEq, true_and] at he6
      obtain ⟨rfl, rfl⟩ := he6
      have hWf : Wfs ((0, 64) :: L) := by
        intro p hp
        rcases List.mem_cons.1 hp with rfl | hp
        · exact ⟨by decide, by decide⟩
        · exact HW.out p hp
      have hP := aptG_any (some ⟨g5, 0, none⟩) c5 ((0, 64) :: L) w5 (by rw [List.length_cons, h4]; decide) hc5 hWf hrd6
      have e5 : ((0, 64) :: L).length = 5 := by rw [List.length_cons, h4]
      rw [e5] at hP
      have HG5 := hidS (HG.out.below B5)
      clear hown5 hgrow own0 hown6 hrd6 HNW HCS HO hWf hc5 eL hbA R2
      go_wp2_with fail
      with_reducible refine hP.mono ?_
      rintro e w6 ⟨hpost, b6⟩
      have B6 := btS B5 b6
      have hg6 := HG5.out.below b6
      obtain ⟨_, q0, q1, q2, q3⟩ := hg6
      rcases hpost with ⟨hap, rfl⟩ | ⟨hap, i, j, rfl, hi1, hi5, _, _⟩
      · have HY := hidS (show SpOk L t from ⟨HALL.out, hap⟩)
        clear hap
        go_wp2_with fail
        refine bodyPost_ret (results_tmp2 rfl _ _ _) rfl ?_
        exact ⟨⟨_, _, rfl, ⟨fun _ => HY.out, fun _ => rfl⟩, fun _ => rfl⟩, B6⟩
      · have HN := hidS (show ¬ SpOk L t from fun h => hap h.2)
        clear hap
        rw [e5] at hi5
        have hcase : i = 1 ∨ i = 2 ∨ i = 3 ∨ i = 4 := by omega
        rcases hcase with rfl | rfl | rfl | rfl
        all_goals
          go_wp2_with fail
          refine bodyPost_ret (results_tmp2 rfl _ _ _) rfl ?_
          exact ⟨spp_bad (by decide) HN.out, B6⟩
end Go.Proofs.YtnplimdcfbgpeaaDoor
