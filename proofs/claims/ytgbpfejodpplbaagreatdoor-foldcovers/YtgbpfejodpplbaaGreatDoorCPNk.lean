import Derived.Test.YtgbpfejodpplbaaGreatDoorCPOf
import Derived.Test.YtgbpfejodpplbaaGreatDoorCPFa
namespace Go.Proofs.YtgbpfejodpplbaaGreatDoor
open Go.RowKit Go.WideShapes Go.Shelf
set_option maxRecDepth 100000

/-- names that are read -/
def NRd (w : World) (ao : Option Addr) (M : List (ByteArray × Nat)) (B : Nat) : Prop :=
  0 < M.length → ∃ b off, ao = some ⟨b, off, none⟩ ∧ b < B ∧ ∀ j, j < M.length → w.cell? ⟨b, off + j * 2, none⟩ = some (.string (M.getD j (.empty, 0)).1) ∧ w.cell? ⟨b, off + j * 2 + 1, none⟩ = some (.int .u32 ((M.getD j (.empty, 0)).2 : Nat))
theorem NRd.below {w w' : World} {ao : Option Addr} {M : List (ByteArray × Nat)} {B : Nat} (h : NRd w ao M B) (hb : Below B w w') : NRd w' ao M B := by
  intro hl
  obtain ⟨b, off, e, hlt, hc⟩ := h hl
  exact ⟨b, off, e, hlt, fun j hj => ⟨(hb.cell (p := ⟨b, off + j * 2, none⟩) hlt).trans (hc j hj).1, (hb.cell (p := ⟨b, off + j * 2 + 1, none⟩) hlt).trans (hc j hj).2⟩⟩
/-- does a name stand for a procedure? -/
def okN (L : List (Nat × Nat)) (M : List (ByteArray × Nat)) (i : Nat) : Bool := isEn L (M.getD i (.empty, 0)).2
/-- what checkNames answers -/
def NmR (L : List (Nat × Nat)) (M : List (ByteArray × Nat)) (i x : Nat) : Prop :=
  (i = 0 ∧ x = 0 ∧ ∀ j, j < M.length → okN L M j = true) ∨ (x = 135 ∧ i < M.length ∧ okN L M i = false ∧ ∀ j, j < i → okN L M j = true)
set_option maxHeartbeats 2000000 in
theorem checkn_any {B pp p1 g1 p2 g2 n : Nat} {lv : Value} {Ps : List (Nat × Nat × Nat)} {L : List (Nat × Nat)} {A C : List Nat} (an : Option Addr) (capn : Nat) (M : List (ByteArray × Nat)) (w : World) (hA : ∀ x, hasW A x = isEn L x) (hn : M.length ≤ 9223372036854775807) (hM : ∀ j, j < M.length → (M.getD j (.empty, 0)).2 < 4294967296) (hr : NRd w an M w.heap.size)
    (h : PrS w B pp p1 g1 p2 g2 n lv Ps A C) :
    Calls Tryz.prog 27 #[.pointer (some ⟨pp, 0, none⟩), .slice an M.length capn] w fun e w' => ∃ i x : Nat, e = .returned (.tuple #[.int .i64 i, .int .i64 x]) ∧ NmR L M i x ∧ Below w.heap.size w w' := by
  have HB : Hid (∀ (z : Nat) W, z < 4294967296 → Below w.heap.size w W → Calls Tryz.prog 51 #[.pointer (some ⟨pp, 0, none⟩), .int .u32 z] W fun e w' => e = .returned (.bool (isEn L z)) ∧ w' = W) := hidS (fun z W hz hW => by rw [← hA]; exact pbegins_any _ W hz (h.below hW))
  clear h
  go_enter Tryz.func27, Tryz.ntmps27
  go_wp2
  go_loopw [10] (fun u wr => ∃ k : Nat, u = .int .i64 k ∧ k ≤ M.length ∧ (∀ j, j < k → okN L M j = true) ∧ Below w.heap.size w wr)
    (fun u _ => M.length - (intOf u).toNat)
  case atStart => exact ⟨0, rfl, Nat.zero_le _, fun j hj => absurd hj (by omega), Below.refl _ _⟩
  case round =>
    obtain ⟨k, rfl, hk, hok, hbw⟩ := hrel
    have HOk := hidS hok
    have HBW := hidS hbw
    clear hok
    by_cases hlt : k < M.length
    · have hltI : (k : Int) < (M.length : Int) := by omega
      obtain ⟨b, off, rfl, hb, hc⟩ := hr (by omega)
      have v0 := (hbw.cell (p := ⟨b, off + k * 2, none⟩) hb).trans (hc k hlt).1
      have v1 := (hbw.cell (p := ⟨b, off + k * 2 + 1, none⟩) hb).trans (hc k hlt).2
      have hz := hM k hlt
      have HOKK : Hid (okN L M k = isEn L (M.getD k (.empty, 0)).2) := hidS rfl
      generalize (M.getD k (.empty, 0)).2 = z at v1 hz HOKK
      generalize (M.getD k (.empty, 0)).1 = s at v0
      have hBg := HB.out z (wr.alloc (Obj.cells #[.string s, .int .u32 (z : Int)] 64)) hz (belP hbw)
      clear hc
      cases hen : isEn L z with
      | true =>
        rw [hen] at hBg
        go_wp2_with (go_at_call 51; refine hBg.mono ?_; rintro e w3 ⟨rfl, hw3⟩; have hw3 := hw3.symm; subst hw3)
        go_roundw
        case rel => exact ⟨k + 1, by go_num, by omega, fun j hj => by
          by_cases hj2 : j < k
          · exact HOk.out j hj2
          · rw [show j = k by omega, HOKK.out, hen], belP HBW.out⟩
        case measure => simp [intOf]; omega
      | false =>
        rw [hen] at hBg
        go_wp2_with (go_at_call 51; refine hBg.mono ?_; rintro e w3 ⟨rfl, hw3⟩; have hw3 := hw3.symm; subst hw3)
        refine bodyPost_ret (results_tmp2 rfl _ _ _) rfl ?_
        exact ⟨k, 135, rfl, .inr ⟨rfl, hlt, by rw [HOKK.out, hen], HOk.out⟩, belP HBW.out⟩
    · have hke : k = M.length := by omega
      subst hke
      have hltI : ¬ (M.length : Int) < (M.length : Int) := by omega
      go_wp2
      refine bodyPost_ret (results_tmp2 rfl _ _ _) rfl ?_
      exact ⟨0, 0, rfl, .inl ⟨rfl, rfl, HOk.out⟩, hbw⟩
end Go.Proofs.YtgbpfejodpplbaaGreatDoor
namespace Go.Proofs.YtgbpfejodpplbaaGreatDoor
open Go.RowKit Go.WideShapes Go.Shelf
set_option maxRecDepth 100000
attribute [local go_sem] Oper.semAt_some

theorem range_pre {k m : Nat} (h : k ≤ m) : List.range k <+: List.range m := ⟨List.range' k (m - k), by
  rw [List.range_eq_range', List.range_eq_range', show List.range' 0 m = List.range' 0 (k + (m - k)) by rw [show k + (m - k) = m by omega], ← List.range'_append_1, Nat.zero_add]⟩
theorem PRd.step {A C : World} {row : Option Nat} {ao : Option Addr} {Ps : List (Nat × Nat × Nat)} {B : Nat} (h : PRd A ao Ps B) (hg : A.grownBy C row) (hr : ∀ r, row = some r → ∃ o : Obj, A.heap[r]? = some o ∧ o.isCells = false) : PRd C ao Ps B := by
  intro hp
  obtain ⟨b, off, e, hb, hx⟩ := h hp
  exact ⟨b, off, e, hb, fun j hj => ⟨cell_kept (hx j hj).1 hg hr, cell_kept (hx j hj).2.1 hg hr, cell_kept (hx j hj).2.2.1 hg hr, cell_kept (hx j hj).2.2.2 hg hr⟩⟩
abbrev encP (Ps : List (Nat × Nat × Nat)) (j : Nat) : Array Value := #[.int .i64 j, .agg #[.int .u32 ((Ps.getD j (0, 0, 0)).1 : Nat), .int .u32 ((Ps.getD j (0, 0, 0)).2.1 : Nat), .int .u32 ((Ps.getD j (0, 0, 0)).2.2 : Nat), .int .i64 0]]
/-- what the iterator over procedures keeps by it -/
structure InA (Ps : List (Nat × Nat × Nat)) (Bl : Nat) (ao : Option Addr) (cap B0 : Nat) (W : World) : Prop where
  bl : Boxed W Bl 55 (.slice ao Ps.length cap)
  ps : PRd W ao Ps B0
theorem InA.step {Ps : List (Nat × Nat × Nat)} {Bl : Nat} {ao : Option Addr} {cap B0 : Nat} {A C : World} {row : Option Nat} (h : InA Ps Bl ao cap B0 A) (hg : A.grownBy C row) (hr : ∀ r, row = some r → ∃ o : Obj, A.heap[r]? = some o ∧ o.isCells = false) : InA Ps Bl ao cap B0 C :=
  ⟨boxed_stepP h.bl hg hr, h.ps.step hg hr⟩
theorem InA.below {Ps : List (Nat × Nat × Nat)} {Bl : Nat} {ao : Option Addr} {cap B0 B : Nat} {A C : World} (h : InA Ps Bl ao cap B0 A) (hb : Below B A C) (h1 : Bl < B) (h4 : B0 ≤ B) : InA Ps Bl ao cap B0 C :=
  ⟨(hb.block Bl h1).trans h.bl, h.ps.below (hb.mono h4)⟩
abbrev KeA (Ps : List (Nat × Nat × Nat)) (Bl : Nat) (ao : Option Addr) (cap B0 : Nat) (W W' : World) : Prop := InA Ps Bl ao cap B0 W → InA Ps Bl ao cap B0 W'
theorem KeA_t {Ps : List (Nat × Nat × Nat)} {Bl : Nat} {ao : Option Addr} {cap B0 : Nat} {A B C : World} (h : KeA Ps Bl ao cap B0 A B) (k : KeA Ps Bl ao cap B0 B C) : KeA Ps Bl ao cap B0 A C := fun x => k (h x)
theorem KeA_b {Ps : List (Nat × Nat × Nat)} {Bl : Nat} {ao : Option Addr} {cap B0 : Nat} {w : World} (W : World) (l : Nat) (o o' : Obj) (_ : w.heap.size ≤ l) (h : W.heap[l]? = some o) (hc : o.isCells = false) (_ : o.isWalk = false) : KeA Ps Bl ao cap B0 W (W.putObj l o') :=
  fun x => x.step (grownBy_putObj' W l o') (fun r e => by cases e; exact ⟨o, h, hc⟩)
set_option maxHeartbeats 2000000 in
theorem all1_in (n : Nat) (hn1 : 2 ≤ n) (l Bl B0 : Nat) (ao : Option Addr) (cap : Nat) (Ps : List (Nat × Nat × Nat)) (J Jx : List Nat → World → Prop) (W : World) (hl : Ps.length ≤ 16384) (hJ : OwnFrom W.heap.size J)
    (hY : ∀ pre x W1, J pre W1 → pre.length < 16385 → pre ++ [x] <+: List.range Ps.length → YieldAt Fence.wide (n - 1) Tryz.prog l (encP Ps x) W1 fun en W' =>
      (en = .returned (.bool true) ∧ J (pre ++ [x]) W' ∧ KeA Ps Bl ao cap B0 W1 W' ∧ Upon W.heap.size W1 W') ∨ (en = .returned (.bool false) ∧ Jx (pre ++ [x]) W' ∧ Upon W.heap.size W1 W'))
    (hP : InA Ps Bl ao cap B0 W) (_hB0 : B0 ≤ W.heap.size) (h0 : J [] W) :
    CallsIn Fence.wide n Tryz.prog 57 #[.func (.yield l) #[] #[], .pointer (some ⟨Bl, 0, none⟩)] W fun en W' => (∃ v, en = .returned v) ∧
      ((∃ ys, ys = List.range Ps.length ∧ J ys W') ∨ (∃ pre, pre <+: List.range Ps.length ∧ Jx pre W')) := by
  refine callsIn_of_wp Tryz.func57 rfl trivial ?_ rfl
  simp only [Tryz.ntmps57, List.size_toArray, List.length_cons, List.length_nil, Nat.reduceAdd, Nat.reduceSub, Array.replicate_succ, Array.replicate_zero, List.push_toArray, List.append_toArray, List.nil_append, List.cons_append]
  have hn0 : 1 ≤ n := by omega
  have HP := hidS hP
  have HJ := hidS hJ
  have c1 := hP.bl.cell
  clear hP hJ
  gi_wp2
  gi_loopw [7] (fun u wr => ∃ k : Nat, u = .int .i64 k ∧ k ≤ Ps.length ∧ InA Ps Bl ao cap B0 wr ∧ W.heap.size ≤ wr.heap.size ∧ J (List.range k) wr)
    (fun u _ => Ps.length - (intOf u).toNat)
  case atStart => exact ⟨0, rfl, Nat.zero_le _, HP.out, Nat.le_refl _, h0⟩
  case round =>
    clear c1 h0 HP
    obtain ⟨k, rfl, hk, hP, hsz, hj⟩ := hrel
    by_cases hlt : k < Ps.length
    · have hlI : (k : Int) < (Ps.length : Int) := by omega
      obtain ⟨b, off, rfl, hb, hc⟩ := hP.ps (by omega)
      obtain ⟨v0, v1, v2, v3⟩ := hc k hlt
      obtain ⟨pb, pe, pf, hq⟩ : ∃ pb pe pf, Ps.getD k (0, 0, 0) = (pb, pe, pf) := ⟨_, _, _, rfl⟩
      have hsp : List.range k ++ [k] <+: List.range Ps.length := by rw [← List.range_succ]; exact range_pre (by omega)
      have hlen : (List.range k).length < 16385 := by rw [List.length_range]; omega
      have hY2 := hY (List.range k) k (wr.alloc (Obj.cells #[.int .u32 (pb : Int), .int .u32 (pe : Int), .int .u32 (pf : Int), .int .i64 0] 94)) (HJ.out.alloc _ hj) hlen hsp
      rw [encP, hq] at hY2
      rw [hq] at v0 v1 v2
      obtain ⟨fn, tmps, assign, body, hy, hR⟩ := hY2
      have hy' : (Instr.yield l #[.int .i64 (k : Int), .agg #[.int .u32 (pb : Int), .int .u32 (pe : Int), .int .u32 (pf : Int), .int .i64 0]]).run Tryz.prog (wr.alloc (Obj.cells #[.int .u32 (pb : Int), .int .u32 (pe : Int), .int .u32 (pf : Int), .int .i64 0] 94)) = .ok (.round l fn tmps assign body) (wr.alloc (Obj.cells #[.int .u32 (pb : Int), .int .u32 (pe : Int), .int .u32 (pf : Int), .int .i64 0] 94)) := hy
      have HPp := hidS hP
      clear hc hP hY hy hsp hlen hq
      gi_wp2
      refine hR.mono ?_
      clear hy' hR v0 v1 v2 v3
      rintro en W3 (⟨rfl, hJ3, hk3, hu3⟩ | ⟨rfl, hJx3, hu3⟩)
      · have hP3 := hk3 (HPp.out.step (World.grownBy_alloc _ _ none) (fun r e => by cases e))
        have hs3 := hu3.size
        rw [World.size_alloc] at hs3
        gi_wp2
        go_roundw
        case rel => exact ⟨k + 1, by go_num, by omega, hP3, by omega, by rw [List.range_succ]; exact hJ3⟩
        case measure => simp [intOf]; omega
      · gi_wp2
        refine bodyPost_ret (results_none rfl _ _ _) rfl ?_
        exact ⟨⟨_, rfl⟩, .inr ⟨_, by rw [← List.range_succ]; exact range_pre (by omega), hJx3⟩⟩
    · have hke : k = Ps.length := by omega
      subst hke
      have hlI : ¬ (Ps.length : Int) < (Ps.length : Int) := by omega
      clear hY
      gi_wp2
      go_end0
      first | exact ⟨⟨_, rfl⟩, .inl hj⟩ | exact ⟨⟨_, rfl⟩, .inl ⟨_, rfl, hj⟩⟩
theorem seqA (n : Nat) (hn1 : 2 ≤ n) (Bl B0 : Nat) (ao : Option Addr) (cap : Nat) (Ps : List (Nat × Nat × Nat)) (w : World) (hl : Ps.length ≤ 16384) (hP : InA Ps Bl ao cap B0 w) (hB0 : B0 ≤ w.heap.size) :
    SeqOwn Fence.wide n Tryz.prog 57 #[.pointer (some ⟨Bl, 0, none⟩)] (encP Ps) (KeA Ps Bl ao cap B0) (fun ys => ys = List.range Ps.length) (fun pre => pre <+: List.range Ps.length) 16385 w :=
  fun l J Jx W hW hJ _ hY h0 => all1_in n hn1 l Bl B0 ao cap Ps J Jx W hl hJ hY (hP.below hW hP.bl.lt hB0) (Nat.le_trans hB0 hW.size) h0
theorem pall_any (a n cap : Nat) (ao : Option Addr) (w : World) (hc : w.cell? ⟨a, 0, none⟩ = some (.pointer (some ⟨a, 0, none⟩))) (hl : w.cell? ⟨a, 1, none⟩ = some (.slice ao n cap)) :
    Calls Tryz.prog 35 #[.pointer (some ⟨a, 0, none⟩)] w fun e w' => e = .returned (.func (.func 57) #[] #[.pointer (some ⟨w.heap.size, 0, none⟩)]) ∧ w' = w.alloc (.cells #[.slice ao n cap] 55) := by
  have HM := pheld_any a _ w hc hl
  go_enter Tryz.func35, Tryz.ntmps35
  go_wp2_with (go_at_call 56; refine HM.mono ?_; rintro e w2 ⟨rfl, hw2⟩; have hw2 := hw2.symm; subst hw2)
  go_ret
  exact ⟨rfl, rfl⟩
end Go.Proofs.YtgbpfejodpplbaaGreatDoor
