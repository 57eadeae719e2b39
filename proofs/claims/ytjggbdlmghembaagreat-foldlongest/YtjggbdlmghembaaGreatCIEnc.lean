import Derived.Test.YtjggbdlmghembaaGreatCDRl
import Derived.Test.YtjggbdlmghembaaGreatCDPn
import Derived.Laws.AppendOwnNone
import Derived.Deep.RegionHeld3
namespace Go.Proofs.YtjggbdlmghembaaGreat
open Go.RowKit
set_option maxRecDepth 100000

theorem Tryz.infoB : (Tryz.prog.info? 5).map (fun i => (i.zero, i.size, i.bytes)) = some (some (.int .u8 0), 1, 1) := by kernel_rfl
theorem wpList_append_nones {P : Program} {w : World} {ops : Array Oper} {rest : List Oper} {o : Oper} {a : Act} {Q : Exit → Act → World → Prop} (hgd : o.guard = none) (s x : Operand) (t : TypeId)
    (ho : o.op = .call { callee := .builtin .append, args := #[s, x], argTypes := #[t, t] })
    (e : TypeId) (i : TypeInfo) (z : Value) (ht : P.underlying t = some (.slice e)) (hi : P.info? e = some i) (hz : i.zero = some z)
    (ad : Addr) (n c c2 : Nat) (hs : a.eval s = .slice (some ad) n c) (hx : a.eval x = .slice none 0 c2) (hnc : n ≤ c)
    (h : wpList P ops Q rest (a.put o.dst (.slice (some ad) n c)) w) : wpList P ops Q (o :: rest) a w := by
  refine wpList_plain hgd fun _ hK => ?_
  have hr : (Builtin.append_ #[t, t] o.type #[.slice (some ad) n c, .slice none 0 c2]).run P w = .ok (.slice (some ad) n c) w := by
    simp [Builtin.append_, run_underlying ht, sizeOf, typeInfo, zeroValue, hi, hz, Builtin.lenOf, hnc, run_firstCells_none, storeCells]
  unfold Oper.wp execOp
  simp only [ho, resolve, invoke, builtin, Sem.run_bind, Sem.run_pure, Result.andThen_ok, List.map_toArray, List.map_cons, List.map_nil, hs, hx, hr]
  exact hK _ _ h
theorem enc_err (L : List (Nat × Nat)) (k : Nat) (hk : k < L.length) (h : ∀ j, j < k → okI (L.getD j (0, 0)) = true) (hb : okI (L.getD k (0, 0)) = false) (hl : ¬ 16384 < L.length) :
    encB L = [] ∧ encI L = k ∧ encX L = erV (L.getD k (0, 0)).1 (L.getD k (0, 0)).2 := by
  obtain ⟨e1, e2⟩ := badAt_of L k hk h hb
  simp [encB, encI, encX, hl, e1, e2]
theorem enc_ok (L : List (Nat × Nat)) (h : ∀ j, j < L.length → okI (L.getD j (0, 0)) = true) (hl : ¬ 16384 < L.length) :
    encB L = encF L ∧ encI L = 0 ∧ encX L = 0 := by
  simp [encB, encI, encX, hl, allOk_of L h]
theorem enc_long (L : List (Nat × Nat)) (hl : 16384 < L.length) : encB L = [] ∧ encI L = 16384 ∧ encX L = 73 := by
  simp [encB, encI, encX, hl]
theorem fresh_ne {w : World} {B e sz : Nat} {v : Value} {n : Nat} {xs : List Value} (h : w.ownsRow B e sz v n xs) : some w.heap.size ≠ v.ownBlock := by
  intro e
  have := (h.lt _ e.symm).2
  omega
theorem iown_cap {w : World} {B e sz g n c : Nat} {xs : List Value} (h : w.ownsRow B e sz (.slice (some ⟨g, 0, none⟩) n c) n xs) : n ≤ c := by
  by_cases hn : 0 < n
  · obtain ⟨g', c', e, hc⟩ := own_form h hn
    simp only [Value.slice.injEq] at e
    omega
  · omega
theorem grown_below2 {B e sz : Nat} {a w w' : World} {xs : List Value} {v : Value} {n : Nat} (h : Below B a w) (hB : B ≤ w.heap.size) (hown : w.ownsRow B e sz v n xs) (hg : w.grownBy w' v.ownBlock) : Below B a w' :=
  h.grown hg hB (fun k e => (hown.lt k e).1)
end Go.Proofs.YtjggbdlmghembaaGreat
namespace Go.Proofs.YtjggbdlmghembaaGreat
open Go.RowKit
set_option maxRecDepth 100000

theorem opWd_ne : ∀ k, k < 60 → 1 ≤ k → ¬ (opWd k).toList = [] := by decide +kernel
theorem Tryz.infoC : (Tryz.prog.info? 34).map (fun i => (i.zero, i.size, i.bytes)) = some (some (.agg #[.int .u8 0, .int .u32 0]), 2, 8) := by kernel_rfl
def fit1 (p : Nat × Nat) : Nat × Nat := (1 + p.1 % 59, if opMo (1 + p.1 % 59) < 4294967295 then p.2 % (opMo (1 + p.1 % 59) + 1) else p.2)
def fitL (L : List (Nat × Nat)) : List (Nat × Nat) := (L.take 16384).map fit1
theorem fit_take (L : List (Nat × Nat)) (k : Nat) (h : k < L.length) : (L.take (k + 1)).map fit1 = (L.take k).map fit1 ++ [fit1 (L.getD k (0, 0))] := by
  rw [ptake (0, 0) L k h, List.map_append]; rfl
theorem fit_ok (p : Nat × Nat) (h : p.2 < 4294967296) : okI (fit1 p) = true := by
  have hI : isOp (1 + p.1 % 59) = true := decide_eq_true (by omega)
  have hM := opMo_lt (1 + p.1 % 59)
  unfold okI fit1 erV
  simp only [hI]
  rw [if_neg (by simp), if_neg]
  · rfl
  · split
    · have := Nat.mod_lt p.2 (show opMo (1 + p.1 % 59) + 1 > 0 by omega); omega
    · omega
theorem fitL_ok (L : List (Nat × Nat)) (h : Wfc L) : allOk (fitL L) = true := by
  rw [allOk, List.all_eq_true]
  intro p hp
  obtain ⟨q, hq, rfl⟩ := List.mem_map.1 hp
  exact fit_ok q (h q (List.mem_of_mem_take hq)).2
theorem fitL_len (L : List (Nat × Nat)) : (fitL L).length ≤ 16384 := by simp [fitL]; omega
theorem fit_wf (p : Nat × Nat) (h : p.2 < 4294967296) : (fit1 p).1 < 256 ∧ (fit1 p).2 < 4294967296 := by
  refine ⟨by simp only [fit1]; omega, ?_⟩
  simp only [fit1]
  split
  · exact Nat.lt_of_le_of_lt (Nat.mod_le _ _) h
  · exact h
theorem fitL_wf (L : List (Nat × Nat)) (h : Wfc L) : Wfc (fitL L) := by
  intro p hp
  obtain ⟨q, hq, rfl⟩ := List.mem_map.1 hp
  exact fit_wf q (h q (List.mem_of_mem_take hq)).2
theorem own_snocC {w1 : World} {B : Nat} {v' : Value} {L M : List (Nat × Nat)} {n : Nat} {p : Nat × Nat} (hM : M = L ++ [p]) (hn : n = L.length)
    (h : w1.ownsRow B 34 2 v' (n + 1) (cv L ++ [.int .u8 p.1, .int .u32 p.2])) : w1.ownsRow B 34 2 v' M.length (cv M) := by
  subst hM hn
  rw [cv_append, List.length_append]
  exact h
theorem cellE {w W : World} {b i : Nat} {v : Value} (h : Below w.heap.size w W) (hb : b < w.heap.size) (hc : w.cell? ⟨b, i, none⟩ = some v) (o : Obj) : (W.alloc o).cell? ⟨b, i, none⟩ = some v := by
  have := h.size
  rw [World.cell?_alloc_old _ _ _ (by show b ≠ W.heap.size; omega)]
  exact (h.cell (p := ⟨b, i, none⟩) hb).trans hc
end Go.Proofs.YtjggbdlmghembaaGreat
namespace Go.Proofs.YtjggbdlmghembaaGreat
open Go.RowKit
set_option maxRecDepth 100000

theorem take_ne {xs ys : List Int} {k : Nat} (h : xs.getD k 0 ≠ ys.getD k 0) : xs ≠ ys := by
  intro e; subst e; exact h rfl

end Go.Proofs.YtjggbdlmghembaaGreat
namespace Go.Proofs.YtjggbdlmghembaaGreat
open Go.RowKit
set_option maxRecDepth 100000

theorem wpList_append_row {P : Program} {w : World} {ops : Array Oper} {rest : List Oper} {o : Oper} {a : Act} {Q : Exit → Act → World → Prop} (hgd : o.guard = none) (s x : Operand) (t : TypeId)
    (ho : o.op = .call { callee := .builtin .append, args := #[s, x], argTypes := #[t, t] })
    (base : Nat) (e : TypeId) (i : TypeInfo) (z : Value) (size bytes : Nat) (ht : P.underlying t = some (.slice e)) (hi : P.info? e = some i) (hz : i.zero = some z)
    (hsize : i.size = size) (hby : i.bytes = bytes) (hzs : z.cells.size = size) (hsz : 0 < size)
    (v : Value) (n : Nat) (xs : List Value) (hs : a.eval s = v) (hown : w.ownsRow base e size v n xs)
    (u : Value) (m B : Nat) (news : List Value) (hx : a.eval x = u) (hou : w.ownsRow B e size u m news) (h1 : ∀ u ∈ news, u.oneCell' = true)
    (h63 : n + m ≤ maxLen) (hbytes : (n + m) * bytes ≤ 140737488355328) (hbase : base ≤ w.heap.size)
    (h : ∀ v' w', w'.ownsRow base e size v' (n + m) (xs ++ news) → w.grownBy w' v.ownBlock → wpList P ops Q rest (a.put o.dst v') w') : wpList P ops Q (o :: rest) a w := by
  rcases hou.2 with ⟨rfl, rfl⟩ | ⟨g, cap, cur, rfl, _⟩
  · have hnl : news = [] := List.eq_nil_of_length_eq_zero (by simpa using hou.1)
    subst hnl
    refine wpList_append_own_none hgd s x t ho base e i size ht hi v n xs hs hown hx ?_
    exact h v w (by simpa using hown) (World.grownBy.refl _ _)
  · exact wpList_append_own w hgd s x t ho base e i z size bytes ht hi hz hsize hby hzs hsz v n xs hs hown ⟨g, 0, none⟩ m cap news hx hou.1 (hou.cells rfl) h1 h63 hbytes hbase (fun v' w' h1 h2 _ => h v' w' h1 h2)
theorem cv_one' (L : List (Nat × Nat)) : ∀ u ∈ cv L, u.oneCell' = true := by
  intro u hu
  simp [cv] at hu
  obtain ⟨a, b, _, h | h⟩ := hu <;> subst h <;> rfl
theorem bv_one' (L : List Int) : ∀ u ∈ bv L, u.oneCell' = true := by
  intro u hu; simp [bv] at hu; obtain ⟨z, _, rfl⟩ := hu; rfl
theorem cv_get (L : List (Nat × Nat)) : ∀ j, j < L.length → (cv L)[j * 2]? = some (.int .u8 (L.getD j (0, 0)).1) ∧ (cv L)[j * 2 + 1]? = some (.int .u32 (L.getD j (0, 0)).2) := by
  induction L with
  | nil => intro j hj; simp at hj
  | cons p L ih =>
    intro j hj
    have e : cv (p :: L) = .int .u8 p.1 :: .int .u32 p.2 :: cv L := rfl
    cases j with
    | zero => rw [e]; exact ⟨rfl, rfl⟩
    | succ j =>
      have := ih j (by simpa using hj)
      rw [e, show (j + 1) * 2 = j * 2 + 1 + 1 by omega]
      exact this
theorem own_crd {w : World} {B : Nat} {v : Value} {L : List (Nat × Nat)} (h : w.ownsRow B 34 2 v L.length (cv L)) : ∃ ao cap, v = .slice ao L.length cap ∧ CRd w ao L w.heap.size := by
  rcases h.2 with ⟨rfl, h0⟩ | ⟨g, cap, cur, rfl, hh⟩
  · exact ⟨none, 0, by rw [h0], fun hp => absurd hp (by omega)⟩
  · refine ⟨some ⟨g, 0, none⟩, cap, rfl, fun _ => ⟨g, 0, rfl, (h.lt g rfl).2, fun j hj => ?_⟩⟩
    obtain ⟨c0, c1⟩ := cv_get L j hj
    have a0 := h.cells (g := g) rfl _ _ c0
    have a1 := h.cells (g := g) rfl _ _ c1
    rw [Go.WideShapes.add_plain] at a0 a1
    exact ⟨a0, by rw [Nat.add_assoc]; exact a1⟩
theorem own_crd2 {w : World} {B : Nat} {ao : Option Addr} {cap : Nat} {L : List (Nat × Nat)} (h : w.ownsRow B 34 2 (.slice ao L.length cap) L.length (cv L)) : CRd w ao L w.heap.size := by
  obtain ⟨a, c, e, hr⟩ := own_crd h
  simp only [Value.slice.injEq] at e
  rw [e.1]; exact hr
theorem own_reads5 {w : World} {B : Nat} {v : Value} {zs : List Int} (h : w.ownsRow B 5 1 v zs.length (bv zs)) : ∃ ao cap, v = .slice ao zs.length cap ∧ Reads w ao zs w.heap.size := own_reads h
theorem ones_apart {w : World} {B C e e' s s' n n' : Nat} {v v' : Value} {xs xs' : List Value} {wl : World} (h : wl.ownsRow B e s v n xs) (h' : w.ownsRow C e' s' v' n' xs') (hl : wl.heap.size ≤ C) : v.ownBlock = none ∨ v.ownBlock ≠ v'.ownBlock := by
  cases hb : v.ownBlock with
  | none => exact .inl rfl
  | some b =>
    right
    intro e
    have h1 := (h.lt b hb).2
    have h2 := (h'.lt b e.symm).1
    omega
theorem encB_ok (L : List (Nat × Nat)) (h : allOk L = true) (hl : L.length ≤ 16384) : encB L = encF L ∧ encI L = 0 ∧ encX L = 0 := by
  simp [encB, encI, encX, h, show ¬ 16384 < L.length by omega]
theorem below_drew0 {w : World} (n : Nat) : Below w.heap.size w (w.drewN n) := below_drewN (Below.refl _ _) n
end Go.Proofs.YtjggbdlmghembaaGreat
namespace Go.Proofs.YtjggbdlmghembaaGreat
open Go.RowKit
set_option maxRecDepth 100000

def mk0 (i : Nat) : Nat × Nat := (200, 1000003 + i)
def mksC (m : Nat) : List (Nat × Nat) := (List.range m).map mk0
theorem mksC_succ (m : Nat) : mksC (m + 1) = mksC m ++ [mk0 m] := by unfold mksC; rw [List.range_succ, List.map_append]; rfl
theorem mksC_len (m : Nat) : (mksC m).length = m := by simp [mksC]
theorem infoI2 : (Tryz.prog.info? 34).map (·.size) = some 2 := by kernel_rfl
set_option maxRecDepth 100000 in
theorem undI2 : ∃ fs, Tryz.prog.underlying 34 = some (.struct fs) := by
  have h : (match Tryz.prog.underlying 34 with | some (.struct _) => true | _ => false) = true := by kernel_rfl
  split at h
  · exact ⟨_, by assumption⟩
  · cases h
set_option maxRecDepth 100000 in
set_option maxHeartbeats 1000000 in
theorem markc_any (i : Nat) (w : World) (hi : i ≤ 64) :
    Calls Tryz.prog 10 #[.int .i64 0, .int .i64 i] w fun e w' => e = .returned (.agg #[.int .u8 200, .int .u32 (1000003 + (i : Int))]) ∧ w' = w.alloc (.cells #[.int .u8 200, .int .u32 (1000003 + (i : Int))] 34) := by
  have hiI : (i : Int) ≤ 64 := by omega
  clear hi
  go_enter Tryz.func10, Tryz.ntmps10
  go_wp2
  obtain ⟨fs, hu⟩ := undI2
  exact bodyPost_ret (results_cell_row (p := 4) (ty := 34) (by kernel_rfl) _ _ w.heap.size 34 #[.int .u8 200, .int .u32 (1000003 + (i : Int))] (0, 0) _ rfl (heap_alloc_last w _) hu rfl (by rw [infoI2]; rfl)) rfl ⟨rfl, rfl⟩
set_option maxRecDepth 100000 in
set_option maxHeartbeats 2000000 in
theorem lentc_any (ao : Option Addr) (cap : Nat) (L : List (Nat × Nat)) (w : World) (hn : L.length ≤ 17592186044352) (hr : CRd w ao L w.heap.size) :
    Calls Tryz.prog 4 #[.slice ao L.length cap] w fun e w' => ∃ v, e = .returned v ∧ w'.ownsRow w.heap.size 34 2 v (L.length + 64) (cv (L ++ mksC 64)) ∧ Below w.heap.size w w' := by
  obtain ⟨i0, hi, hz0, hz1, hz2⟩ := info_parts Tryz.infoC
  go_enter Tryz.func4, Tryz.ntmps4
  go_wp2
  go_loopw [3, 4] (fun v i wr => ∃ k : Nat, k ≤ L.length ∧ i = .int .i64 k ∧ wr.ownsRow w.heap.size 34 2 v k (cv (L.take k)) ∧ Below w.heap.size w wr)
    (fun _ i _ => L.length - (intOf i).toNat)
  case atStart => exact ⟨0, Nat.zero_le _, rfl, World.ownsRow_nil _ _ _ _, Below.refl _ _⟩
  case round =>
    obtain ⟨k, hk, rfl, hown, hb⟩ := hrel
    by_cases hlt : k < L.length
    · obtain ⟨b, off, rfl, hbl, hc⟩ := (hr.below hb) (by omega)
      obtain ⟨x0, x1⟩ := hc k hlt
      have hB := hb.size
      clear hc
      have HS := hid_of (ptake (0, 0) L k hlt)
      generalize L.getD k (0, 0) = c at x0 x1 HS
      have hltI : (k : Int) < (L.length : Int) := by omega
      go_wp2_with (at_builtin; refine wpList_append_own _ rfl _ _ 22 rfl w.heap.size 34 i0 (.agg #[.int .u8 0, .int .u32 0]) 2 8 Tryz.underlying22 hi hz0 hz1 hz2 rfl (by decide) _ _ _ rfl (hown.alloc _) ⟨wr.heap.size, 0, none⟩ 1 1 [.int .u8 c.1, .int .u32 c.2] rfl rfl ?c1 ?c2 ?c3 ?c4 ?c5 ?_)
      case c1 =>
        intro j u hj
        match j, hj with
        | 0, hj => simp at hj; subst hj; simp [Addr.add]
        | 1, hj => simp at hj; subst hj; simp [Addr.add]
      case c2 => intro u hu; simp at hu; rcases hu with rfl | rfl <;> rfl
      case c3 => unfold maxLen; omega
      case c4 => omega
      case c5 => simp; omega
      intro v' w1 hown' hgrow _
      have R1 : w1.ownsRow w.heap.size 34 2 v' (k + 1) (cv (L.take (k + 1))) := by rw [HS.out, cv_append]; exact hown'
      have R2 := grown_below hb hB hown hgrow
      clear hown' hgrow hown x0 x1
      go_wp2
      go_roundw
      case rel => exact ⟨k + 1, by omega, by go_num, R1, R2⟩
      case measure => simp [intOf]; omega
    · go_wp2
      go_loopw [3, 5] (fun v i wr => ∃ k : Nat, k ≤ 64 ∧ i = .int .i64 k ∧ wr.ownsRow w.heap.size 34 2 v (L.length + k) (cv (L ++ mksC k)) ∧ Below w.heap.size w wr)
        (fun _ i _ => 64 - (intOf i).toNat)
      case atStart => exact ⟨0, by omega, rfl, by simpa [mksC, show k = L.length by omega] using hown, hb⟩
      case round =>
        clear hown hb
        obtain ⟨j, hj, rfl, hown, hb⟩ := hrel
        have hB := hb.size
        by_cases hlt2 : j < 64
        · have hltI : (j : Int) < 64 := by omega
          have hM := markc_any j wr (by omega)
          go_wp2_with (first
            | (go_at_call 10; with_reducible refine hM.mono ?_; rintro e wq ⟨rfl, hq⟩; subst wq)
            | (at_builtin; refine wpList_append_own _ rfl _ _ 22 rfl w.heap.size 34 i0 (.agg #[.int .u8 0, .int .u32 0]) 2 8 Tryz.underlying22 hi hz0 hz1 hz2 rfl (by decide) _ _ _ rfl ((hown.alloc _).alloc _) ⟨_, 0, none⟩ 1 1 [.int .u8 200, .int .u32 (1000003 + (j : Int))] rfl rfl ?d1 ?d2 ?d3 ?d4 ?d5 ?_))
          case d1 =>
            intro j u hj
            match j, hj with
            | 0, hj => simp at hj; subst hj; simp [Addr.add]
            | 1, hj => simp at hj; subst hj; simp [Addr.add]
          case d2 => intro u hu; simp at hu; rcases hu with rfl | rfl <;> rfl
          case d3 => unfold maxLen; omega
          case d4 => omega
          case d5 => simp; omega
          intro v' w1 hown' hgrow _
          have R1 : w1.ownsRow w.heap.size 34 2 v' (L.length + (j + 1)) (cv (L ++ mksC (j + 1))) := by
            rw [mksC_succ, ← List.append_assoc, cv_append]; exact hown'
          have R2 : Below w.heap.size w w1 := grown_below (bel hb) (bel hb).size (hown.alloc _) hgrow
          clear hown' hgrow hown hM
          go_wp2
          go_roundw
          case rel => exact ⟨j + 1, by omega, by go_num, R1, R2⟩
          case measure => simp [intOf]; omega
        · go_wp2
          go_ret
          obtain rfl : j = 64 := by omega
          exact ⟨_, rfl, hown, hb⟩
end Go.Proofs.YtjggbdlmghembaaGreat
namespace Go.Proofs.YtjggbdlmghembaaGreat
open Go.RowKit
set_option maxRecDepth 100000

theorem gC {w W : World} {b o : Nat} {v0 v1 : Value} (hb : b < w.heap.size) (h0 : w.cell? ⟨b, o, none⟩ = some v0) (h1 : w.cell? ⟨b, o + 1, none⟩ = some v1) (h : Below w.heap.size w W) : W.cell? ⟨b, o, none⟩ = some v0 ∧ W.cell? ⟨b, o + 1, none⟩ = some v1 :=
  ⟨(h.cell (p := ⟨b, o, none⟩) hb).trans h0, (h.cell (p := ⟨b, o + 1, none⟩) hb).trans h1⟩
theorem getD_app_left {L M : List (Nat × Nat)} {k : Nat} (h : k < L.length) : (L ++ M).getD k (0, 0) = L.getD k (0, 0) := by
  simp [List.getD, List.getElem?_append_left h]
theorem getD_app_right {L M : List (Nat × Nat)} {j : Nat} : (L ++ M).getD (L.length + j) (0, 0) = M.getD j (0, 0) := by
  simp only [List.getD]
  rw [List.getElem?_append_right (by omega), Nat.add_sub_cancel_left]
theorem mksC_get {j : Nat} (h : j < 64) : (mksC 64).getD j (0, 0) = (200, 1000003 + j) := by
  simp [mksC, mk0, List.getD, h]
set_option maxRecDepth 100000 in
set_option maxHeartbeats 2000000 in
theorem keptc_any (ao : Option Addr) (cap : Nat) (L : List (Nat × Nat)) (g capF : Nat) (w : World) (hn : L.length ≤ 17592186044352) (hr : CRd w ao L w.heap.size)
    (hcl : CRd w (some ⟨g, 0, none⟩) (L ++ mksC 64) w.heap.size) :
    Calls Tryz.prog 7 #[.slice (some ⟨g, 0, none⟩) (L.length + 64) capF, .slice ao L.length cap] w fun e w' => e = .returned (.bool true) ∧ Below w.heap.size w w' := by
  obtain ⟨b', off', e', hgl, hcc⟩ := hcl (by simp [mksC_len])
  simp only [Option.some.injEq, Addr.mk.injEq] at e'
  obtain ⟨rfl, rfl, _⟩ := e'
  have HC := hid_of hcc
  clear hcc hcl
  go_enter Tryz.func7, Tryz.ntmps7
  go_wp2
  go_loopw [5] (fun i wr => ∃ k : Nat, k ≤ L.length ∧ i = .int .i64 k ∧ Below w.heap.size w wr)
    (fun i _ => L.length - (intOf i).toNat)
  case atStart => exact ⟨0, Nat.zero_le _, rfl, Below.refl _ _⟩
  case round =>
    obtain ⟨k, hk, rfl, hb⟩ := hrel
    by_cases hlt : k < L.length
    · obtain ⟨b, off, rfl, hbl, hc⟩ := (hr.below hb) (by omega)
      obtain ⟨x0, x1⟩ := hc k hlt
      have hk0 := HC.out k (by simp [mksC_len]; omega)
      rw [getD_app_left hlt, Nat.zero_add] at hk0
      obtain ⟨y0, y1⟩ := gC hgl hk0.1 hk0.2 hb
      clear hc hk0
      generalize L.getD k (0, 0) = c at x0 x1 y0 y1
      have hlt' : (k : Int) < (L.length : Int) := by omega
      have hlt2 : (k : Int) < (L.length : Int) + 64 := by omega
      go_wp2
      go_quiet (fail)
      go_wp2
      go_roundw
      case rel => exact ⟨k + 1, by omega, by go_num, bt hb (below_drew0 _)⟩
      case measure => simp [intOf]; omega
    · go_wp2
      go_loopw [6] (fun i wr => ∃ k : Nat, k ≤ 64 ∧ i = .int .i64 k ∧ Below w.heap.size w wr)
        (fun i _ => 64 - (intOf i).toNat)
      case atStart => exact ⟨0, by omega, rfl, hb⟩
      case round =>
        clear hb
        obtain ⟨j, hj, rfl, hb⟩ := hrel
        by_cases hlt2 : j < 64
        · have hk0 := HC.out (L.length + j) (by simp [mksC_len]; omega)
          rw [getD_app_right, mksC_get hlt2, Nat.zero_add] at hk0
          have hk1 : w.cell? ⟨g, (L.length + j) * 2, none⟩ = some (.int .u8 200) ∧ w.cell? ⟨g, (L.length + j) * 2 + 1, none⟩ = some (.int .u32 (1000003 + (j : Int))) := by
            refine ⟨hk0.1, ?_⟩
            rw [hk0.2]; simp
          obtain ⟨q, hq⟩ : ∃ q, q = L.length + j := ⟨_, rfl⟩
          rw [← hq] at hk1
          have hwr : IntKind.i64.wrap ((L.length : Int) + (j : Int)) = (q : Int) := by rw [IntKind.wrap_i64]; omega
          have hq0 : (0 : Int) ≤ (q : Int) := by omega
          have hq1 : (q : Int) < (L.length : Int) + 64 := by omega
          have hq2 : q < L.length + 64 := by omega
          have hbl2 : g < wr.heap.size := Nat.lt_of_lt_of_le hgl hb.size
          obtain ⟨y0, y1⟩ := gC hgl hk1.1 hk1.2 hb
          have hGC := fun W h => gC (W := W) hbl2 y0 y1 h
          have hlt3 : (L.length : Int) + (j : Int) < (L.length : Int) + 64 := by omega
          have hltI : (j : Int) < 64 := by omega
          have hM := fun w => markc_any j w (by omega)
          clear hk0 hk1 hq
          have HB : Below wr.heap.size wr wr := Below.refl _ _
          go_wp2
          go_region_held3 (fun w' => w'.cell? ⟨g, q * 2, none⟩ = some (.int .u8 200) ∧ w'.cell? ⟨g, q * 2 + 1, none⟩ = some (.int .u32 (1000003 + (j : Int)))) ((refine hGC _ ?_; (repeat (first | exact HB | exact Below.refl _ _ | with_reducible refine bel ?_ | with_reducible refine Below.drew ?_)))) (first
            | (go_at_call 10; with_reducible refine (hM _).mono ?_; rintro e wq ⟨rfl, hq⟩; subst wq))
          clear hM hGC
          go_wp2
          go_roundw
          case rel => exact ⟨j + 1, by omega, by go_num, bt hb (by (repeat (first | exact HB | exact Below.refl _ _ | with_reducible refine bel ?_ | with_reducible refine Below.drew ?_)))⟩
          case measure => simp [intOf]; omega
        · go_wp2
          go_ret
          exact ⟨rfl, hb⟩
end Go.Proofs.YtjggbdlmghembaaGreat
namespace Go.Proofs.YtjggbdlmghembaaGreat
open Go.RowKit Go.WideShapes
set_option maxRecDepth 100000

/-- an instruction turned: a constant is one more -/
def tn1 (p : Nat × Nat) : Nat × Nat := if p.1 = 8 then (p.1, (p.2 + 1) % 4294967296) else p
def tnL (L : List (Nat × Nat)) : List (Nat × Nat) := L.map tn1
theorem tnL_len (L : List (Nat × Nat)) : (tnL L).length = L.length := by simp [tnL]
theorem tnL_wf {L : List (Nat × Nat)} (h : Wfc L) : Wfc (tnL L) := by
  intro p hp
  obtain ⟨q, hq, rfl⟩ := List.mem_map.1 hp
  have := h q hq
  unfold tn1
  split
  · exact ⟨this.1, Nat.mod_lt _ (by decide)⟩
  · exact this
theorem tnL_getD {L : List (Nat × Nat)} {k : Nat} (h : k < L.length) : (tnL L).getD k (0, 0) = tn1 (L.getD k (0, 0)) := by
  rw [List.getD_eq_getElem?_getD, List.getD_eq_getElem?_getD, tnL, List.getElem?_map, List.getElem?_eq_getElem h]; rfl
theorem takeP (L : List (Nat × Nat)) (k : Nat) (h : k < L.length) : L.take (k + 1) = L.take k ++ [L.getD k (0, 0)] := by
  rw [List.take_add_one, List.getD_eq_getElem?_getD, List.getElem?_eq_getElem h]; rfl
theorem cv_set : ∀ (M : List (Nat × Nat)) (j : Nat) (p : Nat × Nat), cv (M.set j p) = ((cv M).set (j * 2) (.int .u8 (p.1 : Nat))).set (j * 2 + 1) (.int .u32 (p.2 : Nat))
  | [], j, p => by simp [cv]
  | a :: M, 0, p => by simp [cv]
  | a :: M, j + 1, p => by
    rw [List.set_cons_succ, show cv (a :: M.set j p) = .int .u8 a.1 :: .int .u32 a.2 :: cv (M.set j p) from rfl, cv_set M j p, show cv (a :: M) = .int .u8 a.1 :: .int .u32 a.2 :: cv M from rfl, show (j + 1) * 2 + 1 = (j * 2 + 1) + 2 by omega, show (j + 1) * 2 = j * 2 + 2 by omega]
    simp [List.set_cons_succ]
set_option maxHeartbeats 2000000 in
theorem turn_any (ao : Option Addr) (cap : Nat) (L : List (Nat × Nat)) (w : World) (hn : L.length ≤ 17592186044352) (hwf : Wfc L) (hr : CRd w ao L w.heap.size) :
    Calls Tryz.prog 8 #[.slice ao L.length cap] w fun e w' => ∃ v, e = .returned v ∧ w'.ownsRow w.heap.size 34 2 v L.length (cv (tnL L)) ∧ Below w.heap.size w w' := by
  obtain ⟨i0, hi, hz0, hz1, hz2⟩ := infoDI
  go_enter Tryz.func8, Tryz.ntmps8
  go_wp2
  go_loopw [3, 4] (fun v i wr => ∃ k : Nat, k ≤ L.length ∧ i = .int .i64 k ∧ wr.ownsRow w.heap.size 34 2 v k (cv ((tnL L).take k)) ∧ Below w.heap.size w wr)
    (fun _ i _ => L.length - (intOf i).toNat)
  case atStart => exact ⟨0, Nat.zero_le _, rfl, World.ownsRow_nil _ _ _ _, Below.refl _ _⟩
  case round =>
    obtain ⟨k, hk, rfl, hown, hb⟩ := hrel
    by_cases hlt : k < L.length
    · obtain ⟨b, off, rfl, hbl, hc⟩ := (hr.below hb) (by omega)
      obtain ⟨x0, x1⟩ := hc k hlt
      obtain ⟨hop, harg⟩ := hwf.at hlt
      have hB := hb.size
      clear hc
      have HS := dhid (takeP (tnL L) k (by rw [tnL_len]; exact hlt))
      rw [tnL_getD hlt] at HS
      generalize L.getD k (0, 0) = c at x0 x1 HS hop harg
      have hltI : (k : Int) < (L.length : Int) := by omega
      by_cases h8 : c.1 = 8
      · have HT : Hid (tn1 c = (8, (c.2 + 1) % 4294967296)) := dhid (by rw [tn1, if_pos h8, h8])
        rw [h8] at x0
        generalize c.2 = y at *
        go_wp2_with (at_builtin; refine wpList_append_own _ rfl _ _ 22 rfl w.heap.size 34 i0 (.agg #[.int .u8 0, .int .u32 0]) 2 8 Tryz.underlying22 hi hz0 hz1 hz2 rfl (by decide) _ _ _ rfl ((hown.alloc _).alloc _) ⟨_, 0, none⟩ 1 1 [.int .u8 8, .int .u32 (((y : Int) + 1) % 4294967296)] rfl rfl ?c1 ?c2 ?c3 ?c4 ?c5 ?_)
        case c1 =>
          intro j u hj
          match j, hj with
          | 0, hj => simp at hj; subst hj; simp [Addr.add]
          | 1, hj => simp at hj; subst hj; simp [Addr.add]
        case c2 => intro u hu; simp at hu; rcases hu with rfl | rfl <;> rfl
        case c3 => unfold maxLen; omega
        case c4 => omega
        case c5 => simp; omega
        intro v' w1 hown' hgrow _
        have R1 : w1.ownsRow w.heap.size 34 2 v' (k + 1) (cv ((tnL L).take (k + 1))) := by
          rw [HS.out, HT.out, cv_append, show cv [(8, (y + 1) % 4294967296)] = [.int .u8 8, .int .u32 (((y : Int) + 1) % 4294967296)] by simp [cv]]
          exact hown'
        have R2 : Below w.heap.size w w1 := grown_below (hb.alloc hB _) (by simp; omega) (hown.alloc _) hgrow
        clear hown' hgrow hown x0 x1
        go_wp2
        go_roundw
        case rel => exact ⟨k + 1, by omega, by go_num, R1, R2⟩
        case measure => simp [intOf]; omega
      · have HT : Hid (tn1 c = c) := dhid (by rw [tn1, if_neg h8])
        have d8 : ((c.1 : Int) == 8) = false := by rw [beq_eq_false_iff_ne]; omega
        clear h8
        go_wp2_with (at_builtin; refine wpList_append_own _ rfl _ _ 22 rfl w.heap.size 34 i0 (.agg #[.int .u8 0, .int .u32 0]) 2 8 Tryz.underlying22 hi hz0 hz1 hz2 rfl (by decide) _ _ _ rfl ((hown.alloc _).alloc _) ⟨_, 0, none⟩ 1 1 [.int .u8 c.1, .int .u32 c.2] rfl rfl ?c1 ?c2 ?c3 ?c4 ?c5 ?_)
        case c1 =>
          intro j u hj
          match j, hj with
          | 0, hj => simp at hj; subst hj; simp [Addr.add]
          | 1, hj => simp at hj; subst hj; simp [Addr.add]
        case c2 => intro u hu; simp at hu; rcases hu with rfl | rfl <;> rfl
        case c3 => unfold maxLen; omega
        case c4 => omega
        case c5 => simp; omega
        intro v' w1 hown' hgrow _
        have R1 : w1.ownsRow w.heap.size 34 2 v' (k + 1) (cv ((tnL L).take (k + 1))) := by
          rw [HS.out, HT.out, cv_append]
          exact hown'
        have R2 : Below w.heap.size w w1 := grown_below (hb.alloc hB _) (by simp; omega) (hown.alloc _) hgrow
        clear hown' hgrow hown x0 x1
        go_wp2
        go_roundw
        case rel => exact ⟨k + 1, by omega, by go_num, R1, R2⟩
        case measure => simp [intOf]; omega
    · have hltI : ¬ (k : Int) < (L.length : Int) := by omega
      have hke : k = L.length := by omega
      rw [hke, show (tnL L).take L.length = tnL L by rw [← tnL_len L, List.take_length]] at hown
      clear hke
      go_wp2
      go_ret
      exact ⟨_, rfl, hown, hb⟩
end Go.Proofs.YtjggbdlmghembaaGreat
