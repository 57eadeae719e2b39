import Derived.Test.YtbaigjckimpkmaaNWi
import Derived.Laws.AppendOwnNone
namespace Go.Proofs.Ytbaigjckimpkmaa
open Go.RowKit Go.WideShapes Go.Sort
set_option maxRecDepth 100000
theorem Try.infoSS : (Try.prog.info? 30).map (fun i => (i.zero, i.size, i.bytes)) = some (some (.slice none 0 0), 1, 24) := by kernel_rfl
/-- what abides in the law's loop -/
structure LwS (W : World) (wr : World) (t n m : Nat) (lo : Option Addr) (lc : Nat) (wo : Option Addr) (wc : Nat) (vals wv : Nat → Value) (Z : Nat → List (Nat × Nat)) (co : Option Addr) (cc : Nat) (po : Option Addr) (pc : Nat) (cv pv : Nat → Value) (Y : Nat → List Int) : Prop where
  n2 : n ≤ 2 * t
  m2 : m ≤ 2 * t
  zl : ∀ i, i < n → (Z i).length ≤ 8388608
  yl : ∀ i, i < m → (Y i).length ≤ 8388608
  ks : KS wr W.heap.size lo lc wo wc n vals wv Z
  kw : KW wr W.heap.size co cc po pc m cv pv Y
  bl : Below W.heap.size W wr
theorem LwS.below {W wr wx : World} {t n m : Nat} {lo : Option Addr} {lc : Nat} {wo : Option Addr} {wc : Nat} {vals wv : Nat → Value} {Z : Nat → List (Nat × Nat)} {co : Option Addr} {cc : Nat} {po : Option Addr} {pc : Nat} {cv pv : Nat → Value} {Y : Nat → List Int} (h : LwS W wr t n m lo lc wo wc vals wv Z co cc po pc cv pv Y) (hb : Below wr.heap.size wr wx) : LwS W wx t n m lo lc wo wc vals wv Z co cc po pc cv pv Y :=
  ⟨h.n2, h.m2, h.zl, h.yl, h.ks.below hb, h.kw.below hb, h.bl.trans (hb.mono h.bl.size)⟩
theorem LwS.next {W wr : World} {t n m : Nat} {lo : Option Addr} {lc : Nat} {wo : Option Addr} {wc : Nat} {vals wv : Nat → Value} {Z : Nat → List (Nat × Nat)} {co : Option Addr} {cc : Nat} {po : Option Addr} {pc : Nat} {cv pv : Nat → Value} {Y : Nat → List Int} (h : LwS W wr t n m lo lc wo wc vals wv Z co cc po pc cv pv Y) : LwS W wr (t + 1) n m lo lc wo wc vals wv Z co cc po pc cv pv Y :=
  ⟨Nat.le_trans h.n2 (by omega), Nat.le_trans h.m2 (by omega), h.zl, h.yl, h.ks, h.kw, h.bl⟩
/-- what Lay answers, told in one way -/
def lyL (f : Nat) (J : List Nat) : List (Nat × Nat) := if sumS f J ≤ 4294967295 then layS f J else []
def lyE (f : Nat) (J : List Nat) : Int := if sumS f J ≤ 4294967295 then 0 else 20
theorem nz_cast (J : List Nat) : nz (J.map fun (n : Nat) => (n : Int)) = J := by simp [nz, Function.comp_def]
theorem lyL_len (f : Nat) (J : List Nat) : (lyL f J).length ≤ J.length := by
  unfold lyL; split
  · rw [layS_len]; exact Nat.le_refl _
  · simp
theorem layR {f : Nat} {J : List Nat} {w w' : World} {e : Ending} (h : LayPost f (J.map fun (n : Nat) => (n : Int)) w e w') : ∃ v, e = .returned (.tuple #[v, .int .i64 (lyE f J)]) ∧ w'.ownsRow w.heap.size 27 2 v (lyL f J).length (sv (lyL f J)) := by
  unfold LayPost okB at h
  rw [nz_cast, List.length_map] at h
  unfold lyL lyE
  rcases h with ⟨h1, v, he, ho⟩ | ⟨h1, he⟩
  · have h1 := of_decide_eq_true h1
    rw [if_pos h1, if_pos h1, layS_len]
    exact ⟨v, he, ho⟩
  · have h1 := of_decide_eq_false h1
    rw [if_neg h1, if_neg h1]
    exact ⟨_, he, World.ownsRow_nil _ _ _ _⟩
theorem layA (f : Nat) (ao : Option Addr) (cap : Nat) (J : List Nat) (w : World) (hf : f < 4294967296) (hn : J.length ≤ 1048576) (hw : ∀ z ∈ J, z < 4294967296) (hr : JRd w ao J w.heap.size) :
    Calls Try.prog 13 #[.int .u32 f, .slice ao J.length cap] w fun e w' => (∃ v, e = .returned (.tuple #[v, .int .i64 (lyE f J)]) ∧ w'.ownsRow w.heap.size 27 2 v (lyL f J).length (sv (lyL f J))) ∧ Below w.heap.size w w' := by
  have := lay_any f ao cap (J.map fun (n : Nat) => (n : Int)) w hf (by rw [List.length_map]; exact hn) (fun z hz => by obtain ⟨y, hy, rfl⟩ := List.mem_map.1 hz; have := hw y hy; omega) (jrd_k hr)
  rw [List.length_map] at this
  exact this.mono fun e w' ⟨h1, h2⟩ => ⟨layR h1, h2⟩
theorem dlayA (f : Nat) (ao : Option Addr) (cap : Nat) (J : List Nat) (w : World) (hf : f < 4294967296) (hn : J.length ≤ 1048576) (hw : ∀ z ∈ J, z < 4294967296) (hr : JRd w ao J w.heap.size) :
    Calls Try.prog 12 #[.int .u32 f, .slice ao J.length cap] w fun e w' => (∃ v, e = .returned (.tuple #[v, .int .i64 (lyE f J)]) ∧ w'.ownsRow w.heap.size 27 2 v (lyL f J).length (sv (lyL f J))) ∧ Below w.heap.size w w' := by
  have := dlay_any f ao cap (J.map fun (n : Nat) => (n : Int)) w hf (by rw [List.length_map]; exact hn) (fun z hz => by obtain ⟨y, hy, rfl⟩ := List.mem_map.1 hz; have := hw y hy; omega) (jrd_k hr)
  rw [List.length_map] at this
  exact this.mono fun e w' ⟨h1, h2⟩ => ⟨layR h1, h2⟩
theorem own_jrd {w : World} {B g cap n : Nat} {J M : List Nat} (h : w.ownsRow B 25 1 (.slice (some ⟨g, 0, none⟩) n cap) n (dv (J ++ M))) : JRd w (some ⟨g, 0, none⟩) J w.heap.size := fun hp => ⟨g, 0, rfl, (h.lt g rfl).2, fun j hj => by
  have := h.cells (g := g) rfl j (.int .u32 (J.getD j 0 : Nat)) (by simp [dv, List.getElem?_append_left, hj])
  rwa [add_plain] at this⟩
theorem own_jrd2 {w : World} {B g cap n : Nat} {J : List Nat} (h : w.ownsRow B 25 1 (.slice (some ⟨g, 0, none⟩) n cap) n (dv J)) : JRd w (some ⟨g, 0, none⟩) J w.heap.size := by
  have := own_jrd (J := J) (M := []) (by rw [List.append_nil]; exact h)
  exact this
def ctE (zs : List Int) (p : Nat × Nat) : Int := if p.1 + p.2 ≤ zs.length then 0 else 20
theorem cutV_len (zs : List Int) (p : Nat × Nat) : (cutV zs p).length ≤ zs.length := by
  unfold cutV; split
  · rw [List.length_take, List.length_drop]; omega
  · simp
theorem lcutA (g cap : Nat) (zs : List Int) (a1 a2 : Nat) (w : World) (hn : zs.length ≤ 1048576) (hcp : zs.length ≤ cap) (h1 : a1 < 4294967296) (h2 : a2 < 4294967296) (hr : Reads w (some ⟨g, 0, none⟩) zs w.heap.size) :
    Calls Try.prog 17 #[.slice (some ⟨g, 0, none⟩) zs.length cap, .agg #[.int .u32 a1, .int .u32 a2]] w fun e w' => (∃ v, e = .returned (.tuple #[v, .int .i64 (ctE zs (a1, a2))]) ∧ w'.ownsRow w.heap.size 5 1 v (cutV zs (a1, a2)).length (bv (cutV zs (a1, a2)))) ∧ Below w.heap.size w w' :=
  (lcut_any g 0 cap zs (a1, a2) w hn hcp ⟨h1, h2⟩ hr).mono fun e w' ⟨⟨v, er, he, hr, ho⟩, hb⟩ => ⟨⟨v, by rw [he, hr]; rfl, ho⟩, hb⟩
theorem dcutA (ao : Option Addr) (cap : Nat) (zs : List Int) (a1 a2 : Nat) (w : World) (hn : zs.length ≤ 1048576) (h1 : a1 < 4294967296) (h2 : a2 < 4294967296) (hr : Reads w ao zs w.heap.size) :
    Calls Try.prog 16 #[.slice ao zs.length cap, .agg #[.int .u32 a1, .int .u32 a2]] w fun e w' => (∃ v, e = .returned (.tuple #[v, .int .i64 (ctE zs (a1, a2))]) ∧ w'.ownsRow w.heap.size 5 1 v (cutV zs (a1, a2)).length (bv (cutV zs (a1, a2)))) ∧ Below w.heap.size w w' :=
  (dcut_any ao cap zs (a1, a2) w hn ⟨h1, h2⟩ hr).mono fun e w' ⟨⟨v, er, he, hr, ho⟩, hb⟩ => ⟨⟨v, by rw [he, hr]; rfl, ho⟩, hb⟩
theorem own_touch {w w' : World} {B e s m n : Nat} {v : Value} {xs : List Value} {vals : Nat → Value} (h : w.ownsRow B e s v m xs) (hT : Touch n vals w w') (hne : ∀ i, i < n → v.ownBlock = none ∨ v.ownBlock ≠ (vals i).ownBlock) : w'.ownsRow B e s v m xs := by
  have hl := h.lt
  refine ⟨h.1, ?_⟩
  rcases h.2 with ⟨a, b⟩ | ⟨g, cap, cur, a, b, c, d⟩
  · exact .inl ⟨a, b⟩
  · have ho : v.ownBlock = some g := by rw [a]; rfl
    refine .inr ⟨g, cap, cur, a, b, ?_, d⟩
    rw [hT.block g (hl g ho).2 (fun i hi e => by
      rcases hne i hi with h1 | h1
      · rw [ho] at h1; cases h1
      · rw [ho, e] at h1; exact h1 rfl)]
    exact c
theorem KW.touch {w w' : World} {B : Nat} {lo : Option Addr} {lc : Nat} {wo : Option Addr} {wc n m : Nat} {cv pv vals : Nat → Value} {Y : Nat → List Int} {Z : Nat → List (Nat × Nat)} (h : KW w B lo lc wo wc m cv pv Y) (hv : ∀ i, i < n → w.ownsRow B 27 2 (vals i) (Z i).length (sv (Z i))) (hT : Touch n vals w w') : KW w' B lo lc wo wc m cv pv Y :=
  ⟨⟨own_touch h.own.row hT (fun i hi => rows_type (by decide) h.own.row (hv i hi)), fun k hk => own_touch (h.own.each k hk) hT (fun i hi => rows_type (by decide) (h.own.each k hk) (hv i hi)), h.own.apart⟩, own_touch h.wrow hT (fun i hi => rows_type (by decide) h.wrow (hv i hi)), fun k hk => own_touch (h.weach k hk) hT (fun i hi => rows_type (by decide) (h.weach k hk) (hv i hi)), h.sep⟩
set_option maxHeartbeats 60000000 in
theorem spans_law (ao : Option Addr) (N cap : Nat) (S : Nat → SOp) (W : World) (hN : N ≤ 1048576) (hS : SScript W ao N S) :
    Calls Try.prog 3 #[.slice ao N cap] W fun e w' => e = .returned (.bool true) ∧ Below W.heap.size W w' := by
  obtain ⟨s0, hs, hs0, hs1, hs2⟩ := info_parts Try.infoSS
  obtain ⟨j0, hj, hy0, hy1, hy2⟩ := info_parts Try.infoL
  have HSc : Hid (SScript W ao N S) := hS
  clear hS
  have HLv := hidS (lives_any W)
  have HWt : Hid (∀ W : World, Calls Try.prog 6 #[.agg #[.int .u32 10, .int .u32 5], .int .u32 15] W fun e w' => e = .returned (.bool true) ∧ Below W.heap.size W w') := fun W => (within_any (10, 5) 15 W ⟨by decide, by decide⟩ (by decide))
  go_enter Try.func3, Try.ntmps3
  go_wp2_with (first
    | (go_at_call 5; with_reducible refine HLv.out.mono ?_; rintro e w0 ⟨rfl, hb0⟩; have HB0 := hidS hb0; clear hb0)
    | (go_at_call 6; with_reducible refine (HWt.out _).mono ?_; rintro e w1 ⟨rfl, hb1⟩; have HB1 := hidS (btS HB0.out hb1); clear hb1))
  clear HLv HWt HB0
  go_loopw [3, 4, 5, 6, 7] (fun kv qv cv0 pv0 i wr => ∃ (t n m : Nat) (lo : Option Addr) (lc : Nat) (wo : Option Addr) (wc : Nat) (vals wv : Nat → Value) (Z : Nat → List (Nat × Nat)) (co : Option Addr) (cc : Nat) (po : Option Addr) (pc : Nat) (cv pv : Nat → Value) (Y : Nat → List Int), t ≤ N ∧ i = .int .i64 t ∧ kv = .slice lo n lc ∧ qv = .slice wo n wc ∧ cv0 = .slice co m cc ∧ pv0 = .slice po m pc ∧ LwS W wr t n m lo lc wo wc vals wv Z co cc po pc cv pv Y)
    (fun _ _ _ _ i _ => N - (intOf i).toNat)
  case atStart =>
    exact ⟨0, 0, 0, none, 0, none, 0, fun _ => .slice none 0 0, fun _ => .slice none 0 0, fun _ => [], none, 0, none, 0, fun _ => .slice none 0 0, fun _ => .slice none 0 0, fun _ => [], Nat.zero_le _, rfl, rfl, rfl, rfl, rfl, ⟨Nat.zero_le _, Nat.zero_le _, fun i hi => absurd hi (Nat.not_lt_zero _), fun i hi => absurd hi (Nat.not_lt_zero _), ⟨⟨World.ownsRow_nil _ _ _ _, fun i hi => absurd hi (Nat.not_lt_zero _), fun i j hi => absurd hi (Nat.not_lt_zero _)⟩, World.ownsRow_nil _ _ _ _, fun i hi => absurd hi (Nat.not_lt_zero _), .inl rfl⟩, ⟨⟨World.ownsRow_nil _ _ _ _, fun i hi => absurd hi (Nat.not_lt_zero _), fun i j hi => absurd hi (Nat.not_lt_zero _)⟩, World.ownsRow_nil _ _ _ _, fun i hi => absurd hi (Nat.not_lt_zero _), .inl rfl⟩, HB1.out⟩⟩
  case round =>
    clear HB1
    obtain ⟨t, n, m, lo, lc, wo, wc, vals, wv, Z, co, cc, po, pc, cv, pv, Y, ht, rfl, rfl, rfl, rfl, rfl, hL⟩ := hrel
    have HL := hidS hL
    have hb := hL.bl
    by_cases hlt : t < N
    · obtain ⟨b, off, rfl, hbl, hAt, hOk⟩ := HSc.out t hlt
      have HOk := hidS hOk
      generalize S t = x at *
      have c0 := (hb.cell (p := ⟨b, off + t * 10, none⟩) hbl).trans hAt.c0
      have c1 := (hb.cell (p := ⟨b, off + t * 10 + 1, none⟩) hbl).trans hAt.c1
      have c2 := (hb.cell (p := ⟨b, off + t * 10 + 2, none⟩) hbl).trans hAt.c2
      have c3 := (hb.cell (p := ⟨b, off + t * 10 + 3, none⟩) hbl).trans hAt.c3
      have c4 := (hb.cell (p := ⟨b, off + t * 10 + 4, none⟩) hbl).trans hAt.c4
      have c5 := (hb.cell (p := ⟨b, off + t * 10 + 5, none⟩) hbl).trans hAt.c5
      have c6 := (hb.cell (p := ⟨b, off + t * 10 + 6, none⟩) hbl).trans hAt.c6
      have c7 := (hb.cell (p := ⟨b, off + t * 10 + 7, none⟩) hbl).trans hAt.c7
      have c8 := (hb.cell (p := ⟨b, off + t * 10 + 8, none⟩) hbl).trans hAt.c8
      have c9 := (hb.cell (p := ⟨b, off + t * 10 + 9, none⟩) hbl).trans hAt.c9
      have hltI : (t : Int) < (N : Int) := by omega
      obtain ⟨wA, hwA⟩ : ∃ wA, wA = wr.alloc (.cells (opV x) 34) := ⟨_, rfl⟩
      have HOA : Hid (∀ w', Below wA.heap.size wA w' → x.At w' wr.heap.size 0) := fun w' hw' => opAt x (by rw [← hwA]; exact hw')
      have HbA : Hid (Below wr.heap.size wr wA) := by rw [hwA]; exact belS (Below.refl _ _)
      have HLA := hidS (HL.out.below HbA.out)
      have HRd : Hid (∀ w', Below wA.heap.size wA w' → SRd w' x.so x.L w'.heap.size ∧ JRd w' x.jo x.J w'.heap.size ∧ Reads w' x.zo x.zs w'.heap.size) := fun w' hw' => by
        have hB := btS (btS HL.out.bl HbA.out) hw'
        exact ⟨(HOk.out.sr.below hB).mono hB.size, (HOk.out.jr.below hB).mono hB.size, (HOk.out.zr.below hB).mono hB.size⟩
      obtain ⟨C, a1, a2, b1, b2, tt, so, sc, L, f, jo, jc, J, zo, zc, zs⟩ := x
      have HAl := hidS hwA
      have k0 := (HOA.out wA (Below.refl _ _)).c0
      have hso : wr.heap.size < wA.heap.size := by rw [hwA]; simp
      simp only at c0 c1 c2 c3 c4 c5 c6 c7 c8 c9 k0
      clear hAt hOk hL hwA
      by_cases hC0 : C = 0
      · subst hC0
        go_wp2_with fail
        rw [← HAl.out]
        clear c0 c1 c2 c3 c4 c5 c6 c7 c8 c9 HAl
        have gg1 : ∀ nq os, (grow (wA.drewN nq) os).cell? ⟨wr.heap.size, 1, none⟩ = some (.int .u32 a1) := fun nq os => (HOA.out _ (below_grow _ _ _)).c1
        have gg2 : ∀ nq os, (grow (wA.drewN nq) os).cell? ⟨wr.heap.size, 2, none⟩ = some (.int .u32 a2) := fun nq os => (HOA.out _ (below_grow _ _ _)).c2
        have gg5 : ∀ nq os, (grow (wA.drewN nq) os).cell? ⟨wr.heap.size, 5, none⟩ = some (.int .u32 tt) := fun nq os => (HOA.out _ (below_grow _ _ _)).c5
        have hP := fun W => withinG_any a1 a2 tt W HOk.out.a.1 HOk.out.a.2 HOk.out.t
        have hD := fun W => dwithinG_any a1 a2 tt W HOk.out.a.1 HOk.out.a.2 HOk.out.t
        have mixed : Try.prog.follows .mixedOrders = true := by kernel_rfl
        clear HL HSc hb HOk HRd HOA HbA
        go_quiet_grown (first | (with_reducible refine Calls.grown_of (hP _)) | (with_reducible refine Calls.grown_of (hD _)))
        go_wp2_with fail
        go_roundw
        case rel => exact ⟨t + 1, _, _, _, _, _, _, _, _, _, _, _, _, _, _, _, _, by omega, by go_num, rfl, rfl, rfl, rfl, (HLA.out.below (below_grow _ _ _)).next⟩
        case measure => simp [intOf]; omega
      by_cases hC1 : C = 1
      · subst hC1
        go_wp2_with fail
        rw [← HAl.out]
        clear c0 c1 c2 c3 c4 c5 c6 c7 c8 c9 HAl
        have gg1 : ∀ nq os, (grow (wA.drewN nq) os).cell? ⟨wr.heap.size, 1, none⟩ = some (.int .u32 a1) := fun nq os => (HOA.out _ (below_grow _ _ _)).c1
        have gg2 : ∀ nq os, (grow (wA.drewN nq) os).cell? ⟨wr.heap.size, 2, none⟩ = some (.int .u32 a2) := fun nq os => (HOA.out _ (below_grow _ _ _)).c2
        have gg3 : ∀ nq os, (grow (wA.drewN nq) os).cell? ⟨wr.heap.size, 3, none⟩ = some (.int .u32 b1) := fun nq os => (HOA.out _ (below_grow _ _ _)).c3
        have gg4 : ∀ nq os, (grow (wA.drewN nq) os).cell? ⟨wr.heap.size, 4, none⟩ = some (.int .u32 b2) := fun nq os => (HOA.out _ (below_grow _ _ _)).c4
        have hP := fun W => lap_any (a1, a2) (b1, b2) W HOk.out.a HOk.out.b
        have hD := fun W => dlap_any (a1, a2) (b1, b2) W HOk.out.a HOk.out.b
        simp only at hP hD
        have mixed : Try.prog.follows .mixedOrders = true := by kernel_rfl
        clear HL HSc hb HOk HRd HOA HbA
        go_quiet_grown (first | (with_reducible refine Calls.grown_of (hP _)) | (with_reducible refine Calls.grown_of (hD _)))
        go_wp2_with fail
        go_roundw
        case rel => exact ⟨t + 1, _, _, _, _, _, _, _, _, _, _, _, _, _, _, _, _, by omega, by go_num, rfl, rfl, rfl, rfl, (HLA.out.below (below_grow _ _ _)).next⟩
        case measure => simp [intOf]; omega
      by_cases hC2 : C = 2
      · subst hC2
        have HAp := hidS (apartL_any so sc L wA HOk.out.sl HOk.out.sw (HRd.out wA (Below.refl _ _)).1)
        have k6 : wA.cell? ⟨wr.heap.size, 6, none⟩ = some (.slice so L.length sc) := (HOA.out wA (Below.refl _ _)).c6
        go_wp2_with fail
        rw [← HAl.out]
        clear c0 c1 c2 c3 c4 c5 c6 c7 c8 c9 HAl
        clear HL HSc hb HOk HRd HOA HbA
        go_wp2_with (go_at_call 10; with_reducible refine HAp.out.mono ?_; rintro e w1 ⟨rfl, hb1⟩; have HB1 := hidS hb1; clear hb1)
        go_roundw
        case rel => exact ⟨t + 1, _, _, _, _, _, _, _, _, _, _, _, _, _, _, _, _, by omega, by go_num, rfl, rfl, rfl, rfl, (HLA.out.below HB1.out).next⟩
        case measure => simp [intOf]; omega
      by_cases hC3 : C = 3
      · subst hC3
        have HLe := hidS (lentw_any jo jc J wA (by have := HOk.out.jl; simp only at this; omega) (HRd.out wA (Below.refl _ _)).2.1)
        have k8 : wA.cell? ⟨wr.heap.size, 8, none⟩ = some (.slice jo J.length jc) := (HOA.out wA (Below.refl _ _)).c8
        have hJl : J.length ≤ 1048576 := HOk.out.jl
        go_wp2_with fail
        rw [← HAl.out]
        clear c0 c1 c2 c3 c4 c5 c6 c7 c8 c9 HAl
        go_wp2_with fail
        with_reducible refine HLe.out.mono ?_
        rintro e w1 ⟨v1, rfl, own1, hb1⟩
        obtain ⟨g, cf, rfl, hcf⟩ := own_form own1 (by omega)
        have k7 : w1.cell? ⟨wr.heap.size, 7, none⟩ = some (.int .u32 f) := (HOA.out w1 hb1).c7
        have k81 : w1.cell? ⟨wr.heap.size, 8, none⟩ = some (.slice jo J.length jc) := (HOA.out w1 hb1).c8
        have HDl := hidS (dlayA f jo jc J w1 HOk.out.f hJl HOk.out.jw (HRd.out w1 hb1).2.1)
        have hcfI : (J.length : Int) ≤ (cf : Int) := by omega
        clear HLe k8
        go_wp2_with fail
        with_reducible refine HDl.out.mono ?_
        rintro e w2 ⟨⟨v2, rfl, own2⟩, hb2⟩
        have HPl : Hid (∀ W', Below w2.heap.size w2 W' → Calls Try.prog 13 #[.int .u32 f, .slice (some ⟨g, 0, none⟩) J.length cf] W' fun e w' => (∃ v, e = .returned (.tuple #[v, .int .i64 (lyE f J)]) ∧ w'.ownsRow W'.heap.size 27 2 v (lyL f J).length (sv (lyL f J))) ∧ Below W'.heap.size W' w') := fun W' hW' => layA f (some ⟨g, 0, none⟩) cf J W' HOk.out.f hJl HOk.out.jw (own_jrd (own_below (own_below own1 hb2) hW'))
        have hb12 := btS hb1 hb2
        have k72 : w2.cell? ⟨wr.heap.size, 7, none⟩ = some (.int .u32 f) := (HOA.out w2 hb12).c7
        have k82 : w2.cell? ⟨wr.heap.size, 8, none⟩ = some (.slice jo J.length jc) := (HOA.out w2 hb12).c8
        have hm8 : (lyL f J).length ≤ 8388608 := Nat.le_trans (lyL_len f J) (by omega)
        generalize hEr : lyE f J = er at *
        generalize hLr : lyL f J = Lr at *
        clear HDl k7 k81 hEr hLr
        go_wp2_with fail
        refine (fun (hrest : ?P1) => ?main1) ?sub1
        case main1 =>
          go_region_with (go_at_call 13; with_reducible refine (HPl.out _ (Below.refl _ _).drew).mono ?_; rintro e w3 ⟨⟨vw3, rfl, ownw3⟩, hbw3⟩)
          all_goals
            revert ownw3 hbw3
            revert vw3
            revert w3
            exact hrest
        intro w3 vw3 hbw3 ownw3
        replace hbw3 : Below w2.heap.size w2 w3 := (Below.refl w2.heap.size w2).drew.trans hbw3
        replace ownw3 : w3.ownsRow w2.heap.size 27 2 vw3 Lr.length (sv Lr) := ownw3
        have hb13 := btS hb12 hbw3
        have k73 : w3.cell? ⟨wr.heap.size, 7, none⟩ = some (.int .u32 f) := (HOA.out w3 hb13).c7
        have k83 : w3.cell? ⟨wr.heap.size, 8, none⟩ = some (.slice jo J.length jc) := (HOA.out w3 hb13).c8
        go_wp2_with fail
        refine (fun (hrest : ?P2) => ?main2) ?sub2
        case main2 =>
          go_region_with (go_at_call 13; with_reducible refine (HPl.out _ hbw3.drew).mono ?_; rintro e w4 ⟨⟨vw4, rfl, ownw4⟩, hbw4⟩)
          all_goals
            revert ownw4 hbw4
            revert vw4
            revert w4
            exact hrest
        intro w4 vw4 hbw4 ownw4
        replace hbw4 : Below w3.heap.size w3 w4 := (Below.refl w3.heap.size w3).drew.trans hbw4
        replace ownw4 : w4.ownsRow w3.heap.size 27 2 vw4 Lr.length (sv Lr) := ownw4
        have hb14 := btS hb13 hbw4
        have k84 : w4.cell? ⟨wr.heap.size, 8, none⟩ = some (.slice jo J.length jc) := (HOA.out w4 hb14).c8
        have HKp := hidS (keptw_any jo jc J g cf w4 (by omega) (HRd.out w4 hb14).2.1 (own_jrd2 (own_below own1 (btS hb2 (btS hbw3 hbw4)))))
        clear HPl k72 k82 k73 k83
        obtain ⟨xq, xcq, rfl⟩ := own_form0' own2
        obtain ⟨xa, xca, rfl⟩ := own_form0' ownw3
        obtain ⟨xb, xcb, rfl⟩ := own_form0' ownw4
        have hn2 : n ≤ 2 * 1048576 := by have := HLA.out.n2; omega
        have ha5 := hidS (own_monoB (own_below ownw3 hbw4) (show W.heap.size ≤ w2.heap.size by have := HLA.out.bl.size; have := hb12.size; omega))
        have hbb5 := hidS (own_monoB ownw4 (show W.heap.size ≤ w3.heap.size by have := HLA.out.bl.size; have := hb13.size; omega))
        have hq5 := hidS (own_monoB (own_below own2 (btS hbw3 hbw4)) (show W.heap.size ≤ w1.heap.size by have := HLA.out.bl.size; have := hb1.size; omega))
        have hab5 : Hid (Apt (.slice xa Lr.length xca) (.slice xb Lr.length xcb)) := Apt.later ownw3 ownw4 (Nat.le_refl _)
        have hva5 : Hid (∀ i, i < n → Apt (vals i) (.slice xa Lr.length xca)) := fun i hi => Apt.later (HLA.out.ks.own.each i hi) ownw3 hb12.size
        have hvb5 : Hid (∀ i, i < n → Apt (vals i) (.slice xb Lr.length xcb)) := fun i hi => Apt.later (HLA.out.ks.own.each i hi) ownw4 hb13.size
        have HM8 := hidS hm8
        go_wp2_with (first
          | (go_at_call 14; with_reducible refine HKp.out.mono ?_; rintro e w5 ⟨rfl, hb5⟩; have HB5 := hidS hb5; have HL5 := hidS (HLA.out.below (btS hb14 hb5)); clear hb5)
          | (at_builtin; refine wpList_append_lies _ rfl _ _ 28 rfl W.heap.size 30 s0 (.slice none 0 0) 1 24 Try.underlying28 hs hs0 hs1 hs2 rfl (by decide) _ n ((List.range n).map vals) rfl (HL5.out.ks.own.row.alloc _) ⟨_, 0, none⟩ 2 2 [.slice xa Lr.length xca, .slice xb Lr.length xcb] rfl rfl ?x1 ?x2 (by decide) ?x3 ?x4 ?x5 (w5.heap.size + 1) (by simp) ?_))
        case x1 =>
          intro j u hj
          match j, hj with
          | 0, hj => simp at hj; subst hj; simp [Addr.add]
          | 1, hj => simp at hj; subst hj; simp [Addr.add]
          | (j + 2), hj => simp at hj
        case x2 => intro u hu; simp at hu; rcases hu with rfl | rfl <;> rfl
        case x3 => unfold maxLen; omega
        case x4 => omega
        case x5 => have := HL5.out.bl.size; simp; omega
        intro g7 c7 w7 own7 hg7 hor7 _
        have hwr7 := hidS ((HL5.out.ks.wrow.alloc _).kept hg7 (Apt.of HL5.out.ks.sep).symm.l)
        have HX7 := hidS ((HL5.out.kw.alloc _).kty (HL5.out.ks.own.row.alloc _) (by decide) (by decide) hg7)
        have HB7 := hidS (grown_below HL5.out.bl HL5.out.bl.size HL5.out.ks.own.row hg7)
        have HO7 := hidS own7
        have HG7 := hidS hg7
        have HR7 := hidS hor7
        clear own7 hg7 hor7
        go_wp2_with (at_builtin; refine wpList_append_lies _ rfl _ _ 28 rfl W.heap.size 30 s0 (.slice none 0 0) 1 24 Try.underlying28 hs hs0 hs1 hs2 rfl (by decide) _ n ((List.range n).map wv) rfl (hwr7.out.alloc _) ⟨_, 0, none⟩ 2 2 [.slice xq Lr.length xcq, .slice xq Lr.length xcq] rfl rfl ?z1 ?z2 (by decide) ?z3 ?z4 ?z5 (w7.heap.size + 1) (by simp) ?_)
        case z1 =>
          intro j u hj
          match j, hj with
          | 0, hj => simp at hj; subst hj; simp [Addr.add]
          | 1, hj => simp at hj; subst hj; simp [Addr.add]
          | (j + 2), hj => simp at hj
        case z2 => intro u hu; simp at hu; subst hu; rfl
        case z3 => unfold maxLen; omega
        case z4 => omega
        case z5 => have := HB7.out.size; simp; omega
        intro g8 c8 w8 own8 hg8 hor8 _
        have HK8 := hidS (ks_ext (L := Lr) HL5.out.ks (own_below ha5.out HB5.out) (own_below hbb5.out HB5.out) (own_below hq5.out HB5.out) hab5.out hva5.out hvb5.out HO7.out HG7.out HR7.out own8 hg8 hor8)
        have HX8 := hidS ((HX7.out.alloc _).kty (hwr7.out.alloc _) (by decide) (by decide) hg8)
        have HB8 := hidS (grown_below HB7.out HB7.out.size hwr7.out hg8)
        have HZ8 := hidS (extS_le HLA.out.zl HM8.out)
        clear own8 hg8 hor8
        go_wp2_with fail
        go_roundw
        case rel => exact ⟨t + 1, _, _, _, _, _, _, _, _, _, _, _, _, _, _, _, _, by omega, by go_num, rfl, rfl, rfl, rfl, ⟨by have := HLA.out.n2; omega, Nat.le_trans HLA.out.m2 (by omega), HZ8.out, HLA.out.yl, HK8.out, HX8.out, HB8.out⟩⟩
        case measure => simp [intOf]; omega
      have HLe := hidS (lent_any zo zc zs wA (by have := HOk.out.zl; simp only at this; omega) (HRd.out wA (Below.refl _ _)).2.2)
      have k9 : wA.cell? ⟨wr.heap.size, 9, none⟩ = some (.slice zo zs.length zc) := (HOA.out wA (Below.refl _ _)).c9
      have hzl : zs.length ≤ 1048576 := HOk.out.zl
      have hCa : (C == 0) = false := by simpa using hC0
      have hCb : (C == 1) = false := by simpa using hC1
      have hCc : (C == 2) = false := by simpa using hC2
      have hCd : (C == 3) = false := by simpa using hC3
      go_wp2_with fail
      rw [← HAl.out]
      clear c0 c1 c2 c3 c4 c5 c6 c7 c8 c9 HAl
      clear hC0 hC1 hC2 hC3
      go_wp2_with fail
      with_reducible refine HLe.out.mono ?_
      rintro e w1 ⟨v1, rfl, own1, hb1⟩
      obtain ⟨g, cf, rfl, hcf⟩ := own_form own1 (by omega)
      have k1 : w1.cell? ⟨wr.heap.size, 1, none⟩ = some (.int .u32 a1) := (HOA.out w1 hb1).c1
      have k2 : w1.cell? ⟨wr.heap.size, 2, none⟩ = some (.int .u32 a2) := (HOA.out w1 hb1).c2
      have k9 : w1.cell? ⟨wr.heap.size, 9, none⟩ = some (.slice zo zs.length zc) := (HOA.out w1 hb1).c9
      have HDl := hidS (dcutA zo zc zs a1 a2 w1 hzl HOk.out.a.1 HOk.out.a.2 (HRd.out w1 hb1).2.2)
      have hcfI : (zs.length : Int) ≤ (cf : Int) := by omega
      clear HLe
      go_wp2_with fail
      with_reducible refine HDl.out.mono ?_
      rintro e w2 ⟨⟨v2, rfl, own2⟩, hb2⟩
      have HPl : Hid (∀ W', Below w2.heap.size w2 W' → Calls Try.prog 17 #[.slice (some ⟨g, 0, none⟩) zs.length cf, .agg #[.int .u32 a1, .int .u32 a2]] W' fun e w' => (∃ v, e = .returned (.tuple #[v, .int .i64 (ctE zs (a1, a2))]) ∧ w'.ownsRow W'.heap.size 5 1 v (cutV zs (a1, a2)).length (bv (cutV zs (a1, a2)))) ∧ Below W'.heap.size W' w') := fun W' hW' => lcutA g cf zs a1 a2 W' hzl (by omega) HOk.out.a.1 HOk.out.a.2 (reads_own (own_below (own_below own1 hb2) hW') (by simp))
      have hb12 := btS hb1 hb2
      have k1b : w2.cell? ⟨wr.heap.size, 1, none⟩ = some (.int .u32 a1) := (HOA.out w2 hb12).c1
      have k2b : w2.cell? ⟨wr.heap.size, 2, none⟩ = some (.int .u32 a2) := (HOA.out w2 hb12).c2
      have k9b : w2.cell? ⟨wr.heap.size, 9, none⟩ = some (.slice zo zs.length zc) := (HOA.out w2 hb12).c9
      have hm8 : (cutV zs (a1, a2)).length ≤ 8388608 := Nat.le_trans (cutV_len zs _) (by omega)
      generalize hEr : ctE zs (a1, a2) = er at *
      generalize hLr : cutV zs (a1, a2) = Lr at *
      clear HDl k1 k2 hEr hLr
      clear k9
      go_wp2_with fail
      refine (fun (hrest : ?P3) => ?main3) ?sub3
      case main3 =>
        go_region_with (go_at_call 17; with_reducible refine (HPl.out _ (Below.refl _ _).drew).mono ?_; rintro e w3 ⟨⟨vw3, rfl, ownw3⟩, hbw3⟩)
        all_goals
          revert ownw3 hbw3
          revert vw3
          revert w3
          exact hrest
      intro w3 vw3 hbw3 ownw3
      replace hbw3 : Below w2.heap.size w2 w3 := (Below.refl w2.heap.size w2).drew.trans hbw3
      replace ownw3 : w3.ownsRow w2.heap.size 5 1 vw3 Lr.length (bv Lr) := ownw3
      have hb13 := btS hb12 hbw3
      have k1c : w3.cell? ⟨wr.heap.size, 1, none⟩ = some (.int .u32 a1) := (HOA.out w3 hb13).c1
      have k2c : w3.cell? ⟨wr.heap.size, 2, none⟩ = some (.int .u32 a2) := (HOA.out w3 hb13).c2
      have k9c : w3.cell? ⟨wr.heap.size, 9, none⟩ = some (.slice zo zs.length zc) := (HOA.out w3 hb13).c9
      go_wp2_with fail
      refine (fun (hrest : ?P4) => ?main4) ?sub4
      case main4 =>
        go_region_with (go_at_call 17; with_reducible refine (HPl.out _ hbw3.drew).mono ?_; rintro e w4 ⟨⟨vw4, rfl, ownw4⟩, hbw4⟩)
        all_goals
          revert ownw4 hbw4
          revert vw4
          revert w4
          exact hrest
      intro w4 vw4 hbw4 ownw4
      replace hbw4 : Below w3.heap.size w3 w4 := (Below.refl w3.heap.size w3).drew.trans hbw4
      replace ownw4 : w4.ownsRow w3.heap.size 5 1 vw4 Lr.length (bv Lr) := ownw4
      have hb14 := btS hb13 hbw4
      have k94 : w4.cell? ⟨wr.heap.size, 9, none⟩ = some (.slice zo zs.length zc) := (HOA.out w4 hb14).c9
      have HKp := hidS (kept_any zo zc zs g cf w4 (by omega) (HRd.out w4 hb14).2.2 (fun i hi => own_get (own_below own1 (btS hb2 (btS hbw3 hbw4))) (by simpa [marks_len] using hi)))
      clear HPl k1b k2b k9b k1c k2c k9c
      obtain ⟨xq, xcq, rfl⟩ := own_form0' own2
      obtain ⟨xa, xca, rfl⟩ := own_form0' ownw3
      obtain ⟨xb, xcb, rfl⟩ := own_form0' ownw4
      have hn2 : m ≤ 2 * 1048576 := by have := HLA.out.m2; omega
      have ha5 := hidS (own_monoB (own_below ownw3 hbw4) (show W.heap.size ≤ w2.heap.size by have := HLA.out.bl.size; have := hb12.size; omega))
      have hbb5 := hidS (own_monoB ownw4 (show W.heap.size ≤ w3.heap.size by have := HLA.out.bl.size; have := hb13.size; omega))
      have hq5 := hidS (own_monoB (own_below own2 (btS hbw3 hbw4)) (show W.heap.size ≤ w1.heap.size by have := HLA.out.bl.size; have := hb1.size; omega))
      have hab5 : Hid (Apt (.slice xa Lr.length xca) (.slice xb Lr.length xcb)) := Apt.later ownw3 ownw4 (Nat.le_refl _)
      have hva5 : Hid (∀ i, i < m → Apt (cv i) (.slice xa Lr.length xca)) := fun i hi => Apt.later (HLA.out.kw.own.each i hi) ownw3 hb12.size
      have hvb5 : Hid (∀ i, i < m → Apt (cv i) (.slice xb Lr.length xcb)) := fun i hi => Apt.later (HLA.out.kw.own.each i hi) ownw4 hb13.size
      have HM8 := hidS hm8
      go_wp2_with (first
        | (go_at_call 18; with_reducible refine HKp.out.mono ?_; rintro e w5 ⟨rfl, mk5, hq5e⟩; have hb5 : Below w4.heap.size w4 w5 := (by rw [hq5e]; exact below_drewN (Below.refl _ _) _); have HB5 := hidS hb5; have HL5 := hidS (HLA.out.below (btS hb14 hb5)); clear hb5 hq5e)
        | (at_builtin; refine wpList_append_lies _ rfl _ _ 29 rfl W.heap.size 32 j0 (.slice none 0 0) 1 24 Try.underlying29 hj hy0 hy1 hy2 rfl (by decide) _ m ((List.range m).map cv) rfl (HL5.out.kw.own.row.alloc _) ⟨_, 0, none⟩ 2 2 [.slice xa Lr.length xca, .slice xb Lr.length xcb] rfl rfl ?x1 ?x2 (by decide) ?x3 ?x4 ?x5 (w5.heap.size + 1) (by simp) ?_))
      case x1 =>
        intro j u hj
        match j, hj with
        | 0, hj => simp at hj; subst hj; simp [Addr.add]
        | 1, hj => simp at hj; subst hj; simp [Addr.add]
        | (j + 2), hj => simp at hj
      case x2 => intro u hu; simp at hu; rcases hu with rfl | rfl <;> rfl
      case x3 => unfold maxLen; omega
      case x4 => omega
      case x5 => have := HL5.out.bl.size; simp; omega
      intro g7 c7 w7 own7 hg7 hor7 _
      have hwr7 := hidS ((HL5.out.kw.wrow.alloc _).kept hg7 (Apt.of HL5.out.kw.sep).symm.l)
      have HX7 := hidS ((HL5.out.ks.alloc _).kty (HL5.out.kw.own.row.alloc _) (by decide) (by decide) hg7)
      have HB7 := hidS (grown_below HL5.out.bl HL5.out.bl.size HL5.out.kw.own.row hg7)
      have HF7 := hidS (((own_below own1 (btS hb2 (btS hbw3 (btS hbw4 HB5.out)))).alloc _).kept hg7 (rows_type (e := 5) (e' := 32) (by decide) (own_below own1 (btS hb2 (btS hbw3 (btS hbw4 HB5.out)))) HL5.out.kw.own.row))
      have HO7 := hidS own7
      have HG7 := hidS hg7
      have HR7 := hidS hor7
      clear own7 hg7 hor7
      go_wp2_with (at_builtin; refine wpList_append_lies _ rfl _ _ 29 rfl W.heap.size 32 j0 (.slice none 0 0) 1 24 Try.underlying29 hj hy0 hy1 hy2 rfl (by decide) _ m ((List.range m).map pv) rfl (hwr7.out.alloc _) ⟨_, 0, none⟩ 2 2 [.slice xq Lr.length xcq, .slice xq Lr.length xcq] rfl rfl ?z1 ?z2 (by decide) ?z3 ?z4 ?z5 (w7.heap.size + 1) (by simp) ?_)
      case z1 =>
        intro j u hj
        match j, hj with
        | 0, hj => simp at hj; subst hj; simp [Addr.add]
        | 1, hj => simp at hj; subst hj; simp [Addr.add]
        | (j + 2), hj => simp at hj
      case z2 => intro u hu; simp at hu; subst hu; rfl
      case z3 => unfold maxLen; omega
      case z4 => omega
      case z5 => have := HB7.out.size; simp; omega
      intro g8 c8 w8 own8 hg8 hor8 _
      have HK8 := hidS (kw_ext (L := Lr) HL5.out.kw (own_below ha5.out HB5.out) (own_below hbb5.out HB5.out) (own_below hq5.out HB5.out) hab5.out hva5.out hvb5.out HO7.out HG7.out HR7.out own8 hg8 hor8)
      have HX8 := hidS ((HX7.out.alloc _).kty (hwr7.out.alloc _) (by decide) (by decide) hg8)
      have HB8 := hidS (grown_below HB7.out HB7.out.size hwr7.out hg8)
      have HZ8 := hidS (extZ_le HLA.out.yl HM8.out)
      have HF8 := hidS ((HF7.out.alloc _).kept hg8 (rows_type (e := 5) (e' := 32) (by decide) HF7.out hwr7.out))
      have hgA := (own1.lt g rfl)
      have HNe : Hid (∀ i, i < m + 2 → (ext cv m (.slice xa Lr.length xca) (.slice xb Lr.length xcb) i).ownBlock ≠ some g ∧ (ext pv m (.slice xq Lr.length xcq) (.slice xq Lr.length xcq) i).ownBlock ≠ some g) := fun i hi =>
        ⟨ext_ne (fun i hi => own_lt_ne (HLA.out.kw.own.each i hi) hgA.1) (own_ge_ne ownw3 (by have := hb2.size; omega)) (own_ge_ne ownw4 (by have := hb2.size; have := hbw3.size; omega)) i hi, ext_ne (fun i hi => own_lt_ne (HLA.out.kw.weach i hi) hgA.1) (own_ge_ne own2 (by omega)) (own_ge_ne own2 (by omega)) i hi⟩
      have HOv := hidS (over_any g cf (zs.length + 64) (zs.length + 64) wA.heap.size (zs ++ marks 0 64) w8 (by omega) (Nat.le_refl _) (by simp [marks_len]) HF8.out)
      clear own8 hg8 hor8
      go_wp2_with (go_at_call 19; with_reducible refine HOv.out.mono ?_; rintro e w9 ⟨rfl, hf9, hb9, hs9, hg9⟩; have HG9 := hidS (And.intro hb9 hg9); clear hf9 hb9 hs9 hg9)
      go_roundw
      case rel => exact ⟨t + 1, _, _, _, _, _, _, _, _, _, _, _, _, _, _, _, _, by omega, by go_num, rfl, rfl, rfl, rfl, ⟨Nat.le_trans HLA.out.n2 (by omega), by have := HLA.out.m2; omega, HLA.out.zl, HZ8.out, HX8.out.kty HF8.out (by decide) (by decide) HG9.out.2, HK8.out.over HF8.out HG9.out.2 HNe.out, HB8.out.trans (HG9.out.1.mono HLA.out.bl.size)⟩⟩
      case measure => simp [intOf]; omega
    · have htN : t = N := by omega
      subst htN
      have hltI : ¬ (t : Int) < (t : Int) := by omega
      clear hL HSc
      have hn4 : n ≤ 4194304 := by have := HL.out.n2; omega
      have hm4 : m ≤ 67108864 := by have := HL.out.m2; omega
      generalize wr = wz at *
      go_wp2_with fail
      go_loopw [23] (fun i wi => ∃ k q : Nat, k ≤ n ∧ i = .int .i64 k ∧ wi = wz.drewN q) (fun i _ => n - (intOf i).toNat)
      case atStart => exact ⟨0, 0, Nat.zero_le _, rfl, rfl⟩
      case round =>
        obtain ⟨k, q, hk, rfl, hw2⟩ := hrel
        have HW2 : Hid (wr = wz.drewN q) := hw2
        by_cases hlt2 : k < n
        · obtain ⟨g0, rfl⟩ := own_pos' HL.out.ks.own.row (by omega)
          obtain ⟨g1, rfl⟩ := own_pos' HL.out.ks.wrow (by omega)
          have hc0 := own_at HL.out.ks.own.row hlt2
          have hc1 := own_at HL.out.ks.wrow hlt2
          obtain ⟨x0, ca0, hv0, hr0⟩ := own_srd (HL.out.ks.own.each k hlt2)
          obtain ⟨x1, ca1, hv1, hr1⟩ := own_srd (HL.out.ks.weach k hlt2)
          rw [hv0] at hc0
          rw [hv1] at hc1
          have hlk := HL.out.zl k hlt2
          have hkI : (k : Int) < (n : Int) := by omega
          have HS : Hid (∀ q, Calls Try.prog 20 #[.slice x0 (Z k).length ca0, .slice x1 (Z k).length ca1] (wr.drewN q) fun e w' => e = .returned (.bool true) ∧ ∃ m, w' = (wr.drewN q).drewN m) := fun q => by
            have := sameS_any x0 x1 ca0 ca1 (Z k) (Z k) (wr.drewN q) (by omega) (by rw [hw2]; exact hr0) (by rw [hw2]; exact hr1)
            rwa [decide_eq_true rfl] at this
          have hd0 : wr.cell? ⟨g0, k, none⟩ = some (.slice x0 (Z k).length ca0) := by rw [hw2]; exact hc0
          have hd1 : wr.cell? ⟨g1, k, none⟩ = some (.slice x1 (Z k).length ca1) := by rw [hw2]; exact hc1
          clear hc0 hc1 hv0 hv1 hr0 hr1 hw2 hb
          go_wp2_with fail
          go_quiet ((go_at_call 20; exact Calls.quiet_of (HS.out _)))
          go_wp2_with fail
          go_roundw
          case rel => exact ⟨k + 1, _, by omega, by go_num, by rw [HW2.out, World.drewN_drewN]⟩
          case measure => simp [intOf]; omega
        · have hkI : ¬ (k : Int) < (n : Int) := by omega
          have HLz := hidS (HL.out.below (wx := wr) (by rw [hw2]; exact below_drewN (Below.refl _ _) q))
          have HAp := hidS (apartS_any lo lc n W.heap.size vals Z wr hn4 (fun i hi => Nat.le_trans (HLz.out.zl i hi) (by decide)) HLz.out.bl.size HLz.out.ks.own)
          clear hw2 HW2 hb HL
          go_wp2_with fail
          with_reducible refine HAp.out.mono ?_
          rintro e w5 ⟨rfl, hT5⟩
          have hB5 : Below W.heap.size W w5 := HLz.out.bl.trans (hT5.below HLz.out.bl.size (fun i b hi hbk => ((HLz.out.ks.own.each i hi).lt b hbk).1))
          have HK5 := hidS (HLz.out.kw.touch HLz.out.ks.own.each hT5)
          have HKe := hidS (keep_any co po cc pc m W.heap.size cv pv Y w5 hm4 (fun i hi => Nat.le_trans (HLz.out.yl i hi) (by decide)) hB5.size HK5.out)
          have HB5 := hidS hB5
          clear hT5 HAp hB5
          go_wp2_with fail
          with_reducible refine HKe.out.mono ?_
          rintro e w6 ⟨rfl, hT6⟩
          have HB6 := hidS (HB5.out.trans (hT6.below HB5.out.size (fun i b hi hbk => ((HK5.out.own.each i hi).lt b hbk).1)))
          clear hT6 HKe
          go_wp2_with fail
          go_ret
          exact ⟨rfl, HB6.out⟩
end Go.Proofs.Ytbaigjckimpkmaa
