import Derived.Test.YtpahpdgkahomlaaGreatDoorCIBas
import Derived.Test.YtpahpdgkahomlaaGreatDoorCLNum
import Derived.Laws.AppendOwnNone
import Derived.Deep.RegionHeld3
import Derived.Test.YtpahpdgkahomlaaGreatDoorCPWt
import Derived.Test.YtpahpdgkahomlaaGreatDoorCPTk
namespace Go.Proofs.YtpahpdgkahomlaaGreatDoor
open Go.RowKit
set_option maxRecDepth 100000

theorem opWd_ne : ∀ k, k < 60 → 1 ≤ k → ¬ (opWd k).toList = [] := by decide +kernel
theorem Tryz.infoC : (Tryz.prog.info? 70).map (fun i => (i.zero, i.size, i.bytes)) = some (some (.agg #[.int .u8 0, .int .u32 0]), 2, 8) := by kernel_rfl
def fit1 (p : Nat × Nat) : Nat × Nat := (1 + p.1 % 59, if opMo (1 + p.1 % 59) < 4294967295 then p.2 % (opMo (1 + p.1 % 59) + 1) else p.2)
def fitL (L : List (Nat × Nat)) : List (Nat × Nat) := (L.take 16384).map fit1
theorem fit_take (L : List (Nat × Nat)) (k : Nat) (h : k < L.length) : (L.take (k + 1)).map fit1 = (L.take k).map fit1 ++ [fit1 (L.getD k (0, 0))] := by
  rw [ptake (0, 0) L k h, List.map_append]; rfl
theorem fit_ok (p : Nat × Nat) (h : p.2 < 4294967296) : okI (fit1 p) = true := by
  have hI : isOp (1 + p.1 % 59) = true := decide_eq_true (by omega)
  have hM := opMo_lt (1 + p.1 % 59)
  unfold okI fit1 erV
  simp only [hI]
  rw [if_neg (by simp), if_neg]
  · rfl
  · split
    · have := Nat.mod_lt p.2 (show opMo (1 + p.1 % 59) + 1 > 0 by omega); omega
    · omega
theorem fitL_ok (L : List (Nat × Nat)) (h : Wfc L) : allOk (fitL L) = true := by
  rw [allOk, List.all_eq_true]
  intro p hp
  obtain ⟨q, hq, rfl⟩ := List.mem_map.1 hp
  exact fit_ok q (h q (List.mem_of_mem_take hq)).2
theorem fitL_len (L : List (Nat × Nat)) : (fitL L).length ≤ 16384 := by simp [fitL]; omega
theorem fit_wf (p : Nat × Nat) (h : p.2 < 4294967296) : (fit1 p).1 < 256 ∧ (fit1 p).2 < 4294967296 := by
  refine ⟨by simp only [fit1]; omega, ?_⟩
  simp only [fit1]
  split
  · exact Nat.lt_of_le_of_lt (Nat.mod_le _ _) h
  · exact h
theorem fitL_wf (L : List (Nat × Nat)) (h : Wfc L) : Wfc (fitL L) := by
  intro p hp
  obtain ⟨q, hq, rfl⟩ := List.mem_map.1 hp
  exact fit_wf q (h q (List.mem_of_mem_take hq)).2
theorem own_snocC {w1 : World} {B : Nat} {v' : Value} {L M : List (Nat × Nat)} {n : Nat} {p : Nat × Nat} (hM : M = L ++ [p]) (hn : n = L.length)
    (h : w1.ownsRow B 70 2 v' (n + 1) (cv L ++ [.int .u8 p.1, .int .u32 p.2])) : w1.ownsRow B 70 2 v' M.length (cv M) := by
  subst hM hn
  rw [cv_append, List.length_append]
  exact h
theorem cellE {w W : World} {b i : Nat} {v : Value} (h : Below w.heap.size w W) (hb : b < w.heap.size) (hc : w.cell? ⟨b, i, none⟩ = some v) (o : Obj) : (W.alloc o).cell? ⟨b, i, none⟩ = some v := by
  have := h.size
  rw [World.cell?_alloc_old _ _ _ (by show b ≠ W.heap.size; omega)]
  exact (h.cell (p := ⟨b, i, none⟩) hb).trans hc
end Go.Proofs.YtpahpdgkahomlaaGreatDoor
namespace Go.Proofs.YtpahpdgkahomlaaGreatDoor
open Go.RowKit
set_option maxRecDepth 100000

theorem take_ne {xs ys : List Int} {k : Nat} (h : xs.getD k 0 ≠ ys.getD k 0) : xs ≠ ys := by
  intro e; subst e; exact h rfl

end Go.Proofs.YtpahpdgkahomlaaGreatDoor
namespace Go.Proofs.YtpahpdgkahomlaaGreatDoor
open Go.RowKit
set_option maxRecDepth 100000

theorem wpList_append_row {P : Program} {w : World} {ops : Array Oper} {rest : List Oper} {o : Oper} {a : Act} {Q : Exit → Act → World → Prop} (hgd : o.guard = none) (s x : Operand) (t : TypeId)
    (ho : o.op = .call { callee := .builtin .append, args := #[s, x], argTypes := #[t, t] })
    (base : Nat) (e : TypeId) (i : TypeInfo) (z : Value) (size bytes : Nat) (ht : P.underlying t = some (.slice e)) (hi : P.info? e = some i) (hz : i.zero = some z)
    (hsize : i.size = size) (hby : i.bytes = bytes) (hzs : z.cells.size = size) (hsz : 0 < size)
    (v : Value) (n : Nat) (xs : List Value) (hs : a.eval s = v) (hown : w.ownsRow base e size v n xs)
    (u : Value) (m B : Nat) (news : List Value) (hx : a.eval x = u) (hou : w.ownsRow B e size u m news) (h1 : ∀ u ∈ news, u.oneCell' = true)
    (h63 : n + m ≤ maxLen) (hbytes : (n + m) * bytes ≤ 140737488355328) (hbase : base ≤ w.heap.size)
    (h : ∀ v' w', w'.ownsRow base e size v' (n + m) (xs ++ news) → w.grownBy w' v.ownBlock → wpList P ops Q rest (a.put o.dst v') w') : wpList P ops Q (o :: rest) a w := by
  rcases hou.2 with ⟨rfl, rfl⟩ | ⟨g, cap, cur, rfl, _⟩
  · have hnl : news = [] := List.eq_nil_of_length_eq_zero (by simpa using hou.1)
    subst hnl
    refine wpList_append_own_none hgd s x t ho base e i size ht hi v n xs hs hown hx ?_
    exact h v w (by simpa using hown) (World.grownBy.refl _ _)
  · exact wpList_append_own w hgd s x t ho base e i z size bytes ht hi hz hsize hby hzs hsz v n xs hs hown ⟨g, 0, none⟩ m cap news hx hou.1 (hou.cells rfl) h1 h63 hbytes hbase (fun v' w' h1 h2 _ => h v' w' h1 h2)
theorem cv_one' (L : List (Nat × Nat)) : ∀ u ∈ cv L, u.oneCell' = true := by
  intro u hu
  simp [cv] at hu
  obtain ⟨a, b, _, h | h⟩ := hu <;> subst h <;> rfl
theorem bv_one' (L : List Int) : ∀ u ∈ bv L, u.oneCell' = true := by
  intro u hu; simp [bv] at hu; obtain ⟨z, _, rfl⟩ := hu; rfl
theorem cv_get (L : List (Nat × Nat)) : ∀ j, j < L.length → (cv L)[j * 2]? = some (.int .u8 (L.getD j (0, 0)).1) ∧ (cv L)[j * 2 + 1]? = some (.int .u32 (L.getD j (0, 0)).2) := by
  induction L with
  | nil => intro j hj; simp at hj
  | cons p L ih =>
    intro j hj
    have e : cv (p :: L) = .int .u8 p.1 :: .int .u32 p.2 :: cv L := rfl
    cases j with
    | zero => rw [e]; exact ⟨rfl, rfl⟩
    | succ j =>
      have := ih j (by simpa using hj)
      rw [e, show (j + 1) * 2 = j * 2 + 1 + 1 by omega]
      exact this
theorem own_crd {w : World} {B : Nat} {v : Value} {L : List (Nat × Nat)} (h : w.ownsRow B 70 2 v L.length (cv L)) : ∃ ao cap, v = .slice ao L.length cap ∧ CRd w ao L w.heap.size := by
  rcases h.2 with ⟨rfl, h0⟩ | ⟨g, cap, cur, rfl, hh⟩
  · exact ⟨none, 0, by rw [h0], fun hp => absurd hp (by omega)⟩
  · refine ⟨some ⟨g, 0, none⟩, cap, rfl, fun _ => ⟨g, 0, rfl, (h.lt g rfl).2, fun j hj => ?_⟩⟩
    obtain ⟨c0, c1⟩ := cv_get L j hj
    have a0 := h.cells (g := g) rfl _ _ c0
    have a1 := h.cells (g := g) rfl _ _ c1
    rw [Go.WideShapes.add_plain] at a0 a1
    exact ⟨a0, by rw [Nat.add_assoc]; exact a1⟩
theorem own_crd2 {w : World} {B : Nat} {ao : Option Addr} {cap : Nat} {L : List (Nat × Nat)} (h : w.ownsRow B 70 2 (.slice ao L.length cap) L.length (cv L)) : CRd w ao L w.heap.size := by
  obtain ⟨a, c, e, hr⟩ := own_crd h
  simp only [Value.slice.injEq] at e
  rw [e.1]; exact hr
theorem own_reads5 {w : World} {B : Nat} {v : Value} {zs : List Int} (h : w.ownsRow B 5 1 v zs.length (bv zs)) : ∃ ao cap, v = .slice ao zs.length cap ∧ Reads w ao zs w.heap.size := own_reads h
theorem ones_apart {w : World} {B C e e' s s' n n' : Nat} {v v' : Value} {xs xs' : List Value} {wl : World} (h : wl.ownsRow B e s v n xs) (h' : w.ownsRow C e' s' v' n' xs') (hl : wl.heap.size ≤ C) : v.ownBlock = none ∨ v.ownBlock ≠ v'.ownBlock := by
  cases hb : v.ownBlock with
  | none => exact .inl rfl
  | some b =>
    right
    intro e
    have h1 := (h.lt b hb).2
    have h2 := (h'.lt b e.symm).1
    omega
theorem encB_ok (L : List (Nat × Nat)) (h : allOk L = true) (hl : L.length ≤ 16384) : encB L = encF L ∧ encI L = 0 ∧ encX L = 0 := by
  simp [encB, encI, encX, h, show ¬ 16384 < L.length by omega]
theorem encode_ok (ao : Option Addr) (cap : Nat) (L : List (Nat × Nat)) (w : World) (hwf : Wfc L) (hr : CRd w ao L w.heap.size) (h : allOk L = true) (hl : L.length ≤ 16384) :
    Calls Tryz.prog 33 #[.slice ao L.length cap] w fun e w' => ∃ v, e = .returned (.tuple #[v, .int .i64 0, .int .i64 0]) ∧ w'.ownsRow w.heap.size 5 1 v (encF L).length (bv (encF L)) ∧ Below w.heap.size w w' := by
  refine (encode_any ao cap L w (by omega) hwf hr).mono ?_
  obtain ⟨e1, e2, e3⟩ := encB_ok L h hl
  rintro e w' ⟨v, rfl, h1, h2⟩
  rw [e1] at h1
  exact ⟨v, by rw [e2, e3]; rfl, h1, h2⟩
theorem encode_n (ao : Option Addr) (cap n : Nat) (L : List (Nat × Nat)) (w : World) (hn : L.length = n) (hwf : Wfc L) (hr : CRd w ao L w.heap.size) (h : allOk L = true) (hl : L.length ≤ 16384) :
    Calls Tryz.prog 33 #[.slice ao n cap] w fun e w' => ∃ v, e = .returned (.tuple #[v, .int .i64 0, .int .i64 0]) ∧ w'.ownsRow w.heap.size 5 1 v (encF L).length (bv (encF L)) ∧ Below w.heap.size w w' := by
  subst hn; exact encode_ok ao cap L w hwf hr h hl
theorem below_drew0 {w : World} (n : Nat) : Below w.heap.size w (w.drewN n) := below_drewN (Below.refl _ _) n
end Go.Proofs.YtpahpdgkahomlaaGreatDoor
namespace Go.Proofs.YtpahpdgkahomlaaGreatDoor
open Go.RowKit
set_option maxRecDepth 100000

def mk0 (i : Nat) : Nat × Nat := (200, 1000003 + i)
def mksC (m : Nat) : List (Nat × Nat) := (List.range m).map mk0
theorem mksC_succ (m : Nat) : mksC (m + 1) = mksC m ++ [mk0 m] := by unfold mksC; rw [List.range_succ, List.map_append]; rfl
theorem mksC_len (m : Nat) : (mksC m).length = m := by simp [mksC]
theorem infoI2 : (Tryz.prog.info? 70).map (·.size) = some 2 := by kernel_rfl
set_option maxRecDepth 100000 in
theorem undI2 : ∃ fs, Tryz.prog.underlying 70 = some (.struct fs) := by
  have h : (match Tryz.prog.underlying 70 with | some (.struct _) => true | _ => false) = true := by kernel_rfl
  split at h
  · exact ⟨_, by assumption⟩
  · cases h
set_option maxRecDepth 100000 in
set_option maxHeartbeats 1000000 in
theorem markc_any (i : Nat) (w : World) (hi : i ≤ 64) :
    Calls Tryz.prog 46 #[.int .i64 0, .int .i64 i] w fun e w' => e = .returned (.agg #[.int .u8 200, .int .u32 (1000003 + (i : Int))]) ∧ w' = w.alloc (.cells #[.int .u8 200, .int .u32 (1000003 + (i : Int))] 70) := by
  have hiI : (i : Int) ≤ 64 := by omega
  clear hi
  go_enter Tryz.func46, Tryz.ntmps46
  go_wp2
  obtain ⟨fs, hu⟩ := undI2
  exact bodyPost_ret (results_cell_row (p := 4) (ty := 70) (by kernel_rfl) _ _ w.heap.size 70 #[.int .u8 200, .int .u32 (1000003 + (i : Int))] (0, 0) _ rfl (heap_alloc_last w _) hu rfl (by rw [infoI2]; rfl)) rfl ⟨rfl, rfl⟩
set_option maxRecDepth 100000 in
set_option maxHeartbeats 2000000 in
theorem lentc_any (ao : Option Addr) (cap : Nat) (L : List (Nat × Nat)) (w : World) (hn : L.length ≤ 17592186044352) (hr : CRd w ao L w.heap.size) :
    Calls Tryz.prog 17 #[.slice ao L.length cap] w fun e w' => ∃ v, e = .returned v ∧ w'.ownsRow w.heap.size 70 2 v (L.length + 64) (cv (L ++ mksC 64)) ∧ Below w.heap.size w w' := by
  obtain ⟨i0, hi, hz0, hz1, hz2⟩ := info_parts Tryz.infoC
  go_enter Tryz.func17, Tryz.ntmps17
  go_wp2
  go_loopw [3, 4] (fun v i wr => ∃ k : Nat, k ≤ L.length ∧ i = .int .i64 k ∧ wr.ownsRow w.heap.size 70 2 v k (cv (L.take k)) ∧ Below w.heap.size w wr)
    (fun _ i _ => L.length - (intOf i).toNat)
  case atStart => exact ⟨0, Nat.zero_le _, rfl, World.ownsRow_nil _ _ _ _, Below.refl _ _⟩
  case round =>
    obtain ⟨k, hk, rfl, hown, hb⟩ := hrel
    by_cases hlt : k < L.length
    · obtain ⟨b, off, rfl, hbl, hc⟩ := (hr.below hb) (by omega)
      obtain ⟨x0, x1⟩ := hc k hlt
      have hB := hb.size
      clear hc
      have HS := hid_of (ptake (0, 0) L k hlt)
      generalize L.getD k (0, 0) = c at x0 x1 HS
      have hltI : (k : Int) < (L.length : Int) := by omega
      go_wp2_with (at_builtin; refine wpList_append_own _ rfl _ _ 22 rfl w.heap.size 70 i0 (.agg #[.int .u8 0, .int .u32 0]) 2 8 Tryz.underlying22 hi hz0 hz1 hz2 rfl (by decide) _ _ _ rfl (hown.alloc _) ⟨wr.heap.size, 0, none⟩ 1 1 [.int .u8 c.1, .int .u32 c.2] rfl rfl ?c1 ?c2 ?c3 ?c4 ?c5 ?_)
      case c1 =>
        intro j u hj
        match j, hj with
        | 0, hj => simp at hj; subst hj; simp [Addr.add]
        | 1, hj => simp at hj; subst hj; simp [Addr.add]
      case c2 => intro u hu; simp at hu; rcases hu with rfl | rfl <;> rfl
      case c3 => unfold maxLen; omega
      case c4 => omega
      case c5 => simp; omega
      intro v' w1 hown' hgrow _
      have R1 : w1.ownsRow w.heap.size 70 2 v' (k + 1) (cv (L.take (k + 1))) := by rw [HS.out, cv_append]; exact hown'
      have R2 := grown_below hb hB hown hgrow
      clear hown' hgrow hown x0 x1
      go_wp2
      go_roundw
      case rel => exact ⟨k + 1, by omega, by go_num, R1, R2⟩
      case measure => simp [intOf]; omega
    · go_wp2
      go_loopw [3, 5] (fun v i wr => ∃ k : Nat, k ≤ 64 ∧ i = .int .i64 k ∧ wr.ownsRow w.heap.size 70 2 v (L.length + k) (cv (L ++ mksC k)) ∧ Below w.heap.size w wr)
        (fun _ i _ => 64 - (intOf i).toNat)
      case atStart => exact ⟨0, by omega, rfl, by simpa [mksC, show k = L.length by omega] using hown, hb⟩
      case round =>
        clear hown hb
        obtain ⟨j, hj, rfl, hown, hb⟩ := hrel
        have hB := hb.size
        by_cases hlt2 : j < 64
        · have hltI : (j : Int) < 64 := by omega
          have hM := markc_any j wr (by omega)
          go_wp2_with (first
            | (go_at_call 46; with_reducible refine hM.mono ?_; rintro e wq ⟨rfl, hq⟩; subst wq)
            | (at_builtin; refine wpList_append_own _ rfl _ _ 22 rfl w.heap.size 70 i0 (.agg #[.int .u8 0, .int .u32 0]) 2 8 Tryz.underlying22 hi hz0 hz1 hz2 rfl (by decide) _ _ _ rfl ((hown.alloc _).alloc _) ⟨_, 0, none⟩ 1 1 [.int .u8 200, .int .u32 (1000003 + (j : Int))] rfl rfl ?d1 ?d2 ?d3 ?d4 ?d5 ?_))
          case d1 =>
            intro j u hj
            match j, hj with
            | 0, hj => simp at hj; subst hj; simp [Addr.add]
            | 1, hj => simp at hj; subst hj; simp [Addr.add]
          case d2 => intro u hu; simp at hu; rcases hu with rfl | rfl <;> rfl
          case d3 => unfold maxLen; omega
          case d4 => omega
          case d5 => simp; omega
          intro v' w1 hown' hgrow _
          have R1 : w1.ownsRow w.heap.size 70 2 v' (L.length + (j + 1)) (cv (L ++ mksC (j + 1))) := by
            rw [mksC_succ, ← List.append_assoc, cv_append]; exact hown'
          have R2 : Below w.heap.size w w1 := grown_below (bel hb) (bel hb).size (hown.alloc _) hgrow
          clear hown' hgrow hown hM
          go_wp2
          go_roundw
          case rel => exact ⟨j + 1, by omega, by go_num, R1, R2⟩
          case measure => simp [intOf]; omega
        · go_wp2
          go_ret
          obtain rfl : j = 64 := by omega
          exact ⟨_, rfl, hown, hb⟩
end Go.Proofs.YtpahpdgkahomlaaGreatDoor
namespace Go.Proofs.YtpahpdgkahomlaaGreatDoor
open Go.RowKit
set_option maxRecDepth 100000

theorem Tryz.infoInt0W : (Tryz.prog.info? 25).map (fun i => (i.zero, i.size, i.bytes)) = some (some (.int .u32 0), 1, 4) := by kernel_rfl
/-- numbers as values -/
def biW (L : List Int) : List Value := L.map (Value.int .u32)
theorem bi_appendW (L M : List Int) : biW (L ++ M) = biW L ++ biW M := by simp [biW]
theorem bi_lenW (L : List Int) : (biW L).length = L.length := by simp [biW]
theorem bi_oneW (x : Int) : biW [x] = [.int .u32 x] := rfl
def imkW (k i : Int) : Int := (1000003 * (k + 1) + i) % 4294967296
set_option maxHeartbeats 400000 in
theorem imark_anyW (k i : Int) (w : World) (hk : -1 ≤ k ∧ k ≤ 1000000000) (hi : 0 ≤ i ∧ i ≤ 1000000000000) :
    Calls Tryz.prog 47 #[.int .i64 k, .int .i64 i] w fun e w' => e = .returned (.int .u32 (imkW k i)) ∧ w' = w := by
  obtain ⟨hk0, hk1⟩ := hk
  obtain ⟨hi0, hi1⟩ := hi
  go_enter Tryz.func47, Tryz.ntmps47
  go_wp2
  go_ret
  exact ⟨ret_int (by rw [imkW]), rfl⟩
def imarksW (k : Int) (m : Nat) : List Int := (List.range m).map fun (i : Nat) => imkW k (i : Int)
theorem imarks_succW (k : Int) (m : Nat) : imarksW k (m + 1) = imarksW k m ++ [imkW k (m : Int)] := by
  unfold imarksW; rw [List.range_succ, List.map_append]; rfl
theorem imarks_lenW (k : Int) (m : Nat) : (imarksW k m).length = m := by simp [imarksW]
theorem imarks_takeW (k : Int) (n m : Nat) : imarksW k n = (imarksW k (n + m)).take n := by
  unfold imarksW; rw [← List.map_take, List.take_range, Nat.min_eq_left (by omega)]
theorem iown_getW {w1 : World} {B g n cap : Nat} {L : List Int} (h : w1.ownsRow B 25 1 (.slice (some ⟨g, 0, none⟩) n cap) n (biW L)) {i : Nat} (hi : i < L.length) : w1.cell? ⟨g, i, none⟩ = some (.int .u32 (L.getD i 0)) := by
  have := h.cells (g := g) rfl i (.int .u32 (L.getD i 0)) (by simp [biW, List.getD, List.getElem?_eq_getElem hi])
  rw [Go.WideShapes.add_plain, Nat.zero_add] at this
  exact this
end Go.Proofs.YtpahpdgkahomlaaGreatDoor
namespace Go.Proofs.YtpahpdgkahomlaaGreatDoor
open Go.RowKit Go.WideShapes

def mksW (m : Nat) : List Nat := (List.range m).map fun i => 1000003 + i
theorem mksW_succ (m : Nat) : mksW (m + 1) = mksW m ++ [1000003 + m] := by unfold mksW; rw [List.range_succ, List.map_append]; rfl
theorem mksW_len (m : Nat) : (mksW m).length = m := by simp [mksW]
theorem mksW_get {j : Nat} (h : j < 64) : (mksW 64).getD j 0 = 1000003 + j := by simp [mksW, h]
theorem markw0 (i : Nat) (w : World) (hi : i ≤ 64) :
    Calls Tryz.prog 47 #[.int .i64 0, .int .i64 i] w fun e w' => e = .returned (.int .u32 (1000003 + (i : Int))) ∧ w' = w := by
  refine (imark_anyW 0 i w (by omega) (by omega)).mono ?_
  rintro e w' ⟨rfl, rfl⟩
  refine ⟨?_, rfl⟩
  rw [imkW, show (1000003 * (0 + 1) + (i : Int)) % 4294967296 = 1000003 + (i : Int) by omega]
theorem ownJ {w : World} {B : Nat} {g cap n : Nat} {J : List Nat} (h : w.ownsRow B 25 1 (.slice (some ⟨g, 0, none⟩) n cap) n (dv J)) (hn : J.length = n) : JRd w (some ⟨g, 0, none⟩) J w.heap.size := fun hp => ⟨g, 0, rfl, (h.lt g rfl).2, fun j hj => by
  rw [Nat.zero_add, h.cellAt j (by omega)]
  simp [dv, hj]⟩
set_option maxRecDepth 100000 in
set_option maxHeartbeats 1000000 in
theorem lentw_any (ao : Option Addr) (cap : Nat) (J : List Nat) (w : World) (hn : J.length ≤ 35184372088704) (hr : JRd w ao J w.heap.size) :
    Calls Tryz.prog 18 #[.slice ao J.length cap] w fun e w' => ∃ v, e = .returned v ∧ w'.ownsRow w.heap.size 25 1 v (J.length + 64) (dv (J ++ mksW 64)) ∧ Below w.heap.size w w' := by
  obtain ⟨i0, hi, hz0, hz1, hz2⟩ := info_parts Tryz.infoD
  go_enter Tryz.func18, Tryz.ntmps18
  go_wp2
  go_loopw [3, 4] (fun v i wr => ∃ k : Nat, k ≤ J.length ∧ i = .int .i64 k ∧ wr.ownsRow w.heap.size 25 1 v k (dv (J.take k)) ∧ Below w.heap.size w wr)
    (fun _ i _ => J.length - (intOf i).toNat)
  case atStart => exact ⟨0, Nat.zero_le _, rfl, World.ownsRow_nil _ _ _ _, Below.refl _ _⟩
  case round =>
    obtain ⟨k, hk, rfl, hown, hb⟩ := hrel
    by_cases hlt : k < J.length
    · obtain ⟨b, off, rfl, hbl, hc⟩ := (hr.below hb) (by omega)
      have x0 := hc k hlt
      have hB := hb.size
      clear hc
      have HS := hid_of (takeN J k hlt)
      generalize J.getD k 0 = c at x0 HS
      have hltI : (k : Int) < (J.length : Int) := by omega
      go_wp2_with (at_builtin; refine wpList_append_own _ rfl _ _ 23 rfl w.heap.size 25 i0 (.int .u32 0) 1 4 Tryz.underlying23 hi hz0 hz1 hz2 rfl (by decide) _ _ _ rfl (hown.alloc _) ⟨wr.heap.size, 0, none⟩ 1 1 [.int .u32 c] rfl rfl ?c1 ?c2 ?c3 ?c4 ?c5 ?_)
      case c1 =>
        intro j u hj
        match j, hj with
        | 0, hj => simp at hj; subst hj; simp [Addr.add]
      case c2 => intro u hu; simp at hu; subst hu; rfl
      case c3 => unfold maxLen; omega
      case c4 => omega
      case c5 => simp; omega
      intro v' w1 hown' hgrow _
      have R1 : w1.ownsRow w.heap.size 25 1 v' (k + 1) (dv (J.take (k + 1))) := by rw [HS.out, dv_snoc]; exact hown'
      have R2 := grown_below hb hB hown hgrow
      clear hown' hgrow hown x0
      go_wp2
      go_roundw
      case rel => exact ⟨k + 1, by omega, by go_num, R1, R2⟩
      case measure => simp [intOf]; omega
    · go_wp2
      go_loopw [3, 5] (fun v i wr => ∃ k : Nat, k ≤ 64 ∧ i = .int .i64 k ∧ wr.ownsRow w.heap.size 25 1 v (J.length + k) (dv (J ++ mksW k)) ∧ Below w.heap.size w wr)
        (fun _ i _ => 64 - (intOf i).toNat)
      case atStart => exact ⟨0, by omega, rfl, by simpa [mksW, show k = J.length by omega] using hown, hb⟩
      case round =>
        clear hown hb
        obtain ⟨j, hj, rfl, hown, hb⟩ := hrel
        have hB := hb.size
        by_cases hlt2 : j < 64
        · have hltI : (j : Int) < 64 := by omega
          have hM := hid_of (fun W => markw0 j W (by omega))
          go_wp2_with (first
            | (go_at_call 47; with_reducible refine (hM.out _).mono ?_; rintro e wq ⟨rfl, hq⟩; subst wq)
            | (at_builtin; refine wpList_append_own _ rfl _ _ 23 rfl w.heap.size 25 i0 (.int .u32 0) 1 4 Tryz.underlying23 hi hz0 hz1 hz2 rfl (by decide) _ _ _ rfl (hown.alloc _) ⟨_, 0, none⟩ 1 1 [.int .u32 (1000003 + (j : Int))] rfl rfl ?d1 ?d2 ?d3 ?d4 ?d5 ?_))
          case d1 =>
            intro j u hj
            match j, hj with
            | 0, hj => simp at hj; subst hj; simp [Addr.add]
          case d2 => intro u hu; simp at hu; subst hu; rfl
          case d3 => unfold maxLen; omega
          case d4 => omega
          case d5 => simp; omega
          intro v' w1 hown' hgrow _
          have R1 : w1.ownsRow w.heap.size 25 1 v' (J.length + (j + 1)) (dv (J ++ mksW (j + 1))) := by
            rw [mksW_succ, ← List.append_assoc, dv_snoc, show ((1000003 + j : Nat) : Int) = 1000003 + (j : Int) by omega]; exact hown'
          have R2 : Below w.heap.size w w1 := grown_below hb hB hown hgrow
          clear hown' hgrow hown hM
          go_wp2
          go_roundw
          case rel => exact ⟨j + 1, by omega, by go_num, R1, R2⟩
          case measure => simp [intOf]; omega
        · go_wp2
          go_ret
          obtain rfl : j = 64 := by omega
          exact ⟨_, rfl, hown, hb⟩
/-- a block of cells, of that many -/
def Blk (w : World) (g t m : Nat) : Prop := ∃ cs : Array Value, w.heap[g]? = some (.cells cs t (0, 0)) ∧ m ≤ cs.size
theorem Blk.set {w : World} {g t m i : Nat} (h : Blk w g t m) (v : Value) : Blk (w.setCell ⟨g, i, none⟩ v) g t m := by
  obtain ⟨cs, h1, h2⟩ := h
  exact ⟨_, heap_setCell_same w g i cs t v h1, by simpa using h2⟩
theorem Blk.cell {w : World} {g t m i : Nat} (h : Blk w g t m) (hi : i < m) : (∃ v, w.cell? ⟨g, i, none⟩ = some v) ∧ w.frozen? ⟨g, i, none⟩ = false := by
  obtain ⟨cs, h1, h2⟩ := h
  exact ⟨⟨cs[i], by rw [obj_cell h1, Array.getElem?_eq_getElem (by omega)]⟩, obj_frozen h1 i⟩
set_option maxRecDepth 100000 in
set_option maxHeartbeats 1000000 in
theorem markcm_any (k : Nat) (w : World) (hk : k ≤ 4611686018427387904) :
    Calls Tryz.prog 46 #[.int .i64 (-1), .int .i64 k] w fun e w' => e = .returned (.agg #[.int .u8 199, .int .u32 ((k : Int) % 4294967296)]) ∧ w' = w.alloc (.cells #[.int .u8 199, .int .u32 ((k : Int) % 4294967296)] 70) := by
  go_enter Tryz.func46, Tryz.ntmps46
  go_wp2
  obtain ⟨fs, hu⟩ := undI2
  exact bodyPost_ret (results_cell_row (p := 4) (ty := 70) (by kernel_rfl) _ _ w.heap.size 70 #[.int .u8 199, .int .u32 ((k : Int) % 4294967296)] (0, 0) _ rfl (heap_alloc_last w _) hu rfl (by rw [infoI2]; rfl)) rfl ⟨rfl, rfl⟩
theorem Blk.alloc {w : World} {g t m : Nat} (h : Blk w g t m) (o : Obj) : Blk (w.alloc o) g t m := by
  obtain ⟨cs, h1, h2⟩ := h
  exact ⟨cs, (Below.heap_alloc w o g (Array.getElem?_eq_some_iff.1 h1).1).trans h1, h2⟩
end Go.Proofs.YtpahpdgkahomlaaGreatDoor
