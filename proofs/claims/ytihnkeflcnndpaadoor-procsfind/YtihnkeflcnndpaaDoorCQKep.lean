import Derived.Test.YtihnkeflcnndpaaDoorCQLen
import Derived.Test.YtihnkeflcnndpaaDoorQRf
namespace Go.Proofs.YtihnkeflcnndpaaDoor
open Go.RowKit
set_option maxRecDepth 100000

theorem gC {w W : World} {b o : Nat} {v0 v1 : Value} (hb : b < w.heap.size) (h0 : w.cell? ⟨b, o, none⟩ = some v0) (h1 : w.cell? ⟨b, o + 1, none⟩ = some v1) (h : Below w.heap.size w W) : W.cell? ⟨b, o, none⟩ = some v0 ∧ W.cell? ⟨b, o + 1, none⟩ = some v1 :=
  ⟨(h.cell (p := ⟨b, o, none⟩) hb).trans h0, (h.cell (p := ⟨b, o + 1, none⟩) hb).trans h1⟩
theorem getD_app_left {L M : List (Nat × Nat)} {k : Nat} (h : k < L.length) : (L ++ M).getD k (0, 0) = L.getD k (0, 0) := by
  simp [List.getD, List.getElem?_append_left h]
theorem getD_app_right {L M : List (Nat × Nat)} {j : Nat} : (L ++ M).getD (L.length + j) (0, 0) = M.getD j (0, 0) := by
  simp only [List.getD]
  rw [List.getElem?_append_right (by omega), Nat.add_sub_cancel_left]
theorem mksC_get {j : Nat} (h : j < 64) : (mksC 64).getD j (0, 0) = (200, 1000003 + j) := by
  simp [mksC, mk0, List.getD, h]
set_option maxRecDepth 100000 in
set_option maxHeartbeats 2000000 in
theorem keptc_any (ao : Option Addr) (cap : Nat) (L : List (Nat × Nat)) (g capF : Nat) (w : World) (hn : L.length ≤ 17592186044352) (hr : CRd w ao L w.heap.size)
    (hcl : CRd w (some ⟨g, 0, none⟩) (L ++ mksC 64) w.heap.size) :
    Calls Tryd.prog 22 #[.slice (some ⟨g, 0, none⟩) (L.length + 64) capF, .slice ao L.length cap] w fun e w' => e = .returned (.bool true) ∧ Below w.heap.size w w' := by
  obtain ⟨b', off', e', hgl, hcc⟩ := hcl (by simp [mksC_len])
  simp only [Option.some.injEq, Addr.mk.injEq] at e'
  obtain ⟨rfl, rfl, _⟩ := e'
  have HC := hid_of hcc
  clear hcc hcl
  go_enter Tryd.func22, Tryd.ntmps22
  go_wp2
  go_loopw [5] (fun i wr => ∃ k : Nat, k ≤ L.length ∧ i = .int .i64 k ∧ Below w.heap.size w wr)
    (fun i _ => L.length - (intOf i).toNat)
  case atStart => exact ⟨0, Nat.zero_le _, rfl, Below.refl _ _⟩
  case round =>
    obtain ⟨k, hk, rfl, hb⟩ := hrel
    by_cases hlt : k < L.length
    · obtain ⟨b, off, rfl, hbl, hc⟩ := (hr.below hb) (by omega)
      obtain ⟨x0, x1⟩ := hc k hlt
      have hk0 := HC.out k (by simp [mksC_len]; omega)
      rw [getD_app_left hlt, Nat.zero_add] at hk0
      obtain ⟨y0, y1⟩ := gC hgl hk0.1 hk0.2 hb
      clear hc hk0
      generalize L.getD k (0, 0) = c at x0 x1 y0 y1
      have hlt' : (k : Int) < (L.length : Int) := by omega
      have hlt2 : (k : Int) < (L.length : Int) + 64 := by omega
      go_wp2
      go_quiet (fail)
      go_wp2
      go_roundw
      case rel => exact ⟨k + 1, by omega, by go_num, bt hb (below_drew0 _)⟩
      case measure => simp [intOf]; omega
    · go_wp2
      go_loopw [6] (fun i wr => ∃ k : Nat, k ≤ 64 ∧ i = .int .i64 k ∧ Below w.heap.size w wr)
        (fun i _ => 64 - (intOf i).toNat)
      case atStart => exact ⟨0, by omega, rfl, hb⟩
      case round =>
        clear hb
        obtain ⟨j, hj, rfl, hb⟩ := hrel
        by_cases hlt2 : j < 64
        · have hk0 := HC.out (L.length + j) (by simp [mksC_len]; omega)
          rw [getD_app_right, mksC_get hlt2, Nat.zero_add] at hk0
          have hk1 : w.cell? ⟨g, (L.length + j) * 2, none⟩ = some (.int .u8 200) ∧ w.cell? ⟨g, (L.length + j) * 2 + 1, none⟩ = some (.int .u32 (1000003 + (j : Int))) := by
            refine ⟨hk0.1, ?_⟩
            rw [hk0.2]; simp
          obtain ⟨q, hq⟩ : ∃ q, q = L.length + j := ⟨_, rfl⟩
          rw [← hq] at hk1
          have hwr : IntKind.i64.wrap ((L.length : Int) + (j : Int)) = (q : Int) := by rw [IntKind.wrap_i64]; omega
          have hq0 : (0 : Int) ≤ (q : Int) := by omega
          have hq1 : (q : Int) < (L.length : Int) + 64 := by omega
          have hq2 : q < L.length + 64 := by omega
          have hbl2 : g < wr.heap.size := Nat.lt_of_lt_of_le hgl hb.size
          obtain ⟨y0, y1⟩ := gC hgl hk1.1 hk1.2 hb
          have hGC := fun W h => gC (W := W) hbl2 y0 y1 h
          have hlt3 : (L.length : Int) + (j : Int) < (L.length : Int) + 64 := by omega
          have hltI : (j : Int) < 64 := by omega
          have hM := fun w => markc_any j w (by omega)
          clear hk0 hk1 hq
          have HB : Below wr.heap.size wr wr := Below.refl _ _
          go_wp2
          go_region_held3 (fun w' => w'.cell? ⟨g, q * 2, none⟩ = some (.int .u8 200) ∧ w'.cell? ⟨g, q * 2 + 1, none⟩ = some (.int .u32 (1000003 + (j : Int)))) ((refine hGC _ ?_; (repeat (first | exact HB | exact Below.refl _ _ | with_reducible refine bel ?_ | with_reducible refine Below.drew ?_)))) (first
            | (go_at_call 46; with_reducible refine (hM _).mono ?_; rintro e wq ⟨rfl, hq⟩; subst wq))
          clear hM hGC
          go_wp2
          go_roundw
          case rel => exact ⟨j + 1, by omega, by go_num, bt hb (by (repeat (first | exact HB | exact Below.refl _ _ | with_reducible refine bel ?_ | with_reducible refine Below.drew ?_)))⟩
          case measure => simp [intOf]; omega
        · go_wp2
          go_ret
          exact ⟨rfl, hb⟩
end Go.Proofs.YtihnkeflcnndpaaDoor
namespace Go.Proofs.YtihnkeflcnndpaaDoor
open Go.RowKit Go.WideShapes Go.Shelf
set_option maxRecDepth 100000

theorem Tryd.infoX : (Tryd.prog.info? 61).map (fun i => (i.zero, i.size, i.bytes)) = some (some (.agg #[.string ⟨#[]⟩, .int .u32 0]), 2, 24) := by kernel_rfl
theorem nv_append (A B : List (ByteArray × Nat)) : nv (A ++ B) = nv A ++ nv B := by simp [nv]
theorem nv_len (M : List (ByteArray × Nat)) : (nv M).length = M.length * 2 := by
  induction M with
  | nil => rfl
  | cons a t ih => simp [nv] at ih ⊢; omega
theorem crd_pre {w : World} {B g n c : Nat} {L X : List (Nat × Nat)} (h : w.ownsRow B 48 2 (.slice (some ⟨g, 0, none⟩) n c) n (cv (L ++ X))) (hn : (L ++ X).length = n) : CRd w (some ⟨g, 0, none⟩) L w.heap.size := fun hp => ⟨g, 0, rfl, (h.lt g rfl).2, fun j hj => by
  have hj2 : j < (L ++ X).length := by simp; omega
  obtain ⟨e1, e2⟩ := cv_all (L ++ X) j hj2
  rw [getD_app_left hj] at e1 e2
  rw [Nat.zero_add]
  exact ⟨(h.cellAt (j * 2) (by omega)).trans e1, (h.cellAt (j * 2 + 1) (by omega)).trans e2⟩⟩
theorem crd_all {w : World} {B g n c : Nat} {L : List (Nat × Nat)} (h : w.ownsRow B 48 2 (.slice (some ⟨g, 0, none⟩) n c) n (cv L)) (hn : L.length = n) : CRd w (some ⟨g, 0, none⟩) L w.heap.size := crd_pre (X := []) (by simpa using h) (by simpa using hn)
theorem jrd_pre {w : World} {B g n c : Nat} {J X : List Nat} (h : w.ownsRow B 32 1 (.slice (some ⟨g, 0, none⟩) n c) n (dv (J ++ X))) (hn : (J ++ X).length = n) : JRd w (some ⟨g, 0, none⟩) J w.heap.size := fun hp => ⟨g, 0, rfl, (h.lt g rfl).2, fun j hj => by
  rw [Nat.zero_add, h.cellAt j (by simp at hn; omega), dv, List.map_append, List.getElem?_append_left (by simpa using hj)]
  simp [hj]⟩
theorem nrd_pre {w : World} {B g n c : Nat} {M X : List (ByteArray × Nat)} (h : w.ownsRow B 61 2 (.slice (some ⟨g, 0, none⟩) n c) n (nv (M ++ X))) (hn : (M ++ X).length = n) : NRd w (some ⟨g, 0, none⟩) M w.heap.size := fun hp => ⟨g, 0, rfl, (h.lt g rfl).2, fun j hj => by
  have hj2 : j < (M ++ X).length := by simp; omega
  obtain ⟨e1, e2⟩ := nv_all (M ++ X) j hj2
  rw [show (M ++ X).getD j (.empty, 0) = M.getD j (.empty, 0) by simp [List.getD, List.getElem?_append_left hj]] at e1 e2
  rw [Nat.zero_add]
  exact ⟨(h.cellAt (j * 2) (by omega)).trans e1, (h.cellAt (j * 2 + 1) (by omega)).trans e2⟩⟩
theorem nv_one' (M : List (ByteArray × Nat)) : ∀ u ∈ nv M, u.oneCell' = true := by
  intro u hu
  simp [nv] at hu
  obtain ⟨a, b, _, h | h⟩ := hu <;> subst h <;> rfl
theorem append_nm {w : World} {ops : Array Oper} {rest : List Oper} {o : Oper} {a : Act} {Q : Exit → Act → World → Prop} (hgd : o.guard = none) (s x : Operand) (ho : o.op = .call { callee := .builtin .append, args := #[s, x], argTypes := #[24, 24] })
    (base : Nat) (hbase : base ≤ w.heap.size) (hs : a.eval s = .slice none 0 0) (an : Option Addr) (capn : Nat) (M : List (ByteArray × Nat)) (hx : a.eval x = .slice an M.length capn) (hrd : NRd w an M w.heap.size) (hnil : an = none → capn = 0) (hM : M.length ≤ 5864062014634)
    (h : ∀ v' w', w'.ownsRow base 61 2 v' M.length (nv M) → w.grownBy w' none → wpList Tryd.prog ops Q rest (a.put o.dst v') w') : wpList Tryd.prog ops Q (o :: rest) a w := by
  obtain ⟨i0, hi, hz0, hz1, hz2⟩ := info_parts Tryd.infoX
  cases han : an with
  | none =>
    have hM0 : M.length = 0 := by
      by_cases hp : 0 < M.length
      · obtain ⟨b, off, e, _⟩ := hrd hp
        rw [han] at e
        cases e
      · omega
    have hMn : M = [] := List.length_eq_zero_iff.1 hM0
    subst hMn
    rw [han, hnil han] at hx
    refine wpList_append_own_none hgd s x _ ho base 61 i0 2 Tryd.underlying24 hi (.slice none 0 0) 0 [] hs (World.ownsRow_nil _ _ _ _) hx ?_
    exact h _ _ (World.ownsRow_nil _ _ _ _) (World.grownBy.refl _ _)
  | some ad =>
    rw [han] at hx
    refine wpList_append_own w hgd s x _ ho base 61 i0 (.agg #[.string ⟨#[]⟩, .int .u32 0]) 2 24 Tryd.underlying24 hi hz0 hz1 hz2 rfl (by decide) (.slice none 0 0) 0 [] hs (World.ownsRow_nil _ _ _ _) ad M.length capn (nv M) hx (nv_len M) ?_ (nv_one' M) (by unfold maxLen; omega) (by omega) hbase (fun v' w' h1 h2 _ => h v' w' (by simpa using h1) (by simpa [Value.ownBlock] using h2))
    intro j u hj
    have hjl : j < M.length * 2 := by
      have := (List.getElem?_eq_some_iff.1 hj).1
      rw [nv_len] at this
      exact this
    obtain ⟨b, off, e, hlt, hc⟩ := hrd (by omega)
    rw [han] at e
    cases e
    obtain ⟨e1, e2⟩ := nv_all M (j / 2) (by omega)
    rw [add_plain]
    rcases Nat.mod_two_eq_zero_or_one j with hm | hm
    · have hj2 : j / 2 * 2 = j := by omega
      rw [hj2] at e1
      rw [e1] at hj
      have := (hc (j / 2) (by omega)).1
      rw [hj2] at this
      rw [this, ← hj]
    · have hj2 : j / 2 * 2 + 1 = j := by omega
      rw [hj2] at e2
      rw [e2] at hj
      have := (hc (j / 2) (by omega)).2
      rw [Nat.add_assoc, hj2] at this
      rw [this, ← hj]
abbrev mkN : List (ByteArray × Nat) := [(⟨#[109, 97, 114, 107]⟩, 77), (⟨#[109, 97, 114, 107]⟩, 78)]
/-- Find's answer, in one form -/
def FdV (w : World) (L : List (Nat × Nat)) (J : List Nat) (M : List (ByteArray × Nat)) (v : Value) (i x : Nat) (w' : World) : Prop :=
  (v = .pointer none ∧ x ≠ 0 ∧ FdB L J M i x) ∨
    (x = 0 ∧ i = 0 ∧ FdG L J M ∧ ∃ (B pp p1 g1 p2 g2 : Nat) (lv : Value) (A C : List Nat), v = .pointer (some ⟨pp, 0, none⟩) ∧ PrS w' B pp p1 g1 p2 g2 L.length lv (prL L) A C ∧ (∀ y, hasW A y = isEn L y) ∧ (∀ y, hasW C y = decide (y ∈ J)) ∧ (∀ k ∈ [pp, p1, g1, p2, g2], w.heap.size ≤ k) ∧ w.heap.size ≤ B)
theorem PrS.keptX {S : Nat → Prop} {X : Nat} {w w' : World} {B pp p1 g1 p2 g2 n : Nat} {lv : Value} {Ps : List (Nat × Nat × Nat)} {A C : List Nat} (h : PrS w B pp p1 g1 p2 g2 n lv Ps A C) (hk : Kp S w w') (hS : ∀ k, S k → k < X) (hlo : ∀ k ∈ [pp, p1, g1, p2, g2], X ≤ k) (hB : X ≤ B) : PrS w' B pp p1 g1 p2 g2 n lv Ps A C := by
  simp only [List.mem_cons, List.not_mem_nil, or_false, forall_eq_or_imp, forall_eq] at hlo
  obtain ⟨l1, l2, l3, l4, l5⟩ := hlo
  exact ⟨(hk.block pp (Array.getElem?_eq_some_iff.1 h.obj).1 (fun e => by have := hS _ e; omega)).trans h.obj, hk.own h.row (fun k e q => by have := hS _ q; have := (h.row.lt k e).1; omega), h.s1.kept hk (fun e => by have := hS _ e; omega) (fun e => by have := hS _ e; omega), h.s2.kept hk (fun e => by have := hS _ e; omega) (fun e => by have := hS _ e; omega), h.nd, h.lt⟩
theorem FdV.later {w w1 w2 : World} {L : List (Nat × Nat)} {J : List Nat} {M : List (ByteArray × Nat)} {v : Value} {i x : Nat} {S : Nat → Prop} (h : FdV w L J M v i x w1) (hk : Kp S w1 w2) (hS : ∀ k, S k → k < w.heap.size) : FdV w L J M v i x w2 := by
  rcases h with h | ⟨h1, h2, h3, B, pp, p1, g1, p2, g2, lv, A, C, e, hP, hA, hC, hl, hB⟩
  · exact .inl h
  · exact .inr ⟨h1, h2, h3, B, pp, p1, g1, p2, g2, lv, A, C, e, hP.keptX hk hS hl hB, hA, hC, hl, hB⟩
theorem FdV.low {w w0 w1 : World} {L : List (Nat × Nat)} {J : List Nat} {M : List (ByteArray × Nat)} {v : Value} {i x : Nat} (h : FdV w L J M v i x w1) (hs : w0.heap.size ≤ w.heap.size) : FdV w0 L J M v i x w1 := by
  rcases h with h | ⟨h1, h2, h3, B, pp, p1, g1, p2, g2, lv, A, C, e, hP, hA, hC, hl, hB⟩
  · exact .inl h
  · exact .inr ⟨h1, h2, h3, B, pp, p1, g1, p2, g2, lv, A, C, e, hP, hA, hC, fun k hk => Nat.le_trans hs (hl k hk), Nat.le_trans hs hB⟩
theorem FdV.eqn {w w1 : World} {L : List (Nat × Nat)} {J : List Nat} {M : List (ByteArray × Nat)} {v : Value} {i x : Nat} (h : FdV w L J M v i x w1) (W : World) : (binOp .eql 28 v (.pointer none)).run Tryd.prog W = .ok (.bool ((x : Int) != 0)) W := by
  rcases h with ⟨rfl, hx, _⟩ | ⟨rfl, _, _, B, pp, p1, g1, p2, g2, lv, A, C, rfl, _⟩
  · rw [show ((x : Int) != 0) = true from bne_iff_ne.2 (by omega)]
    have hh : ∀ d : Nat, (Op.equalIn (d + 1) 28 (.pointer none) (.pointer none)).run Tryd.prog W = .ok true W := fun d => by simp [Op.equalIn, run_underlying Tryd.underlying28]
    simp only [binOp]
    simp [Op.equal, Op.maxDepth, hh 9999]
  · have hh : ∀ d : Nat, (Op.equalIn (d + 1) 28 (.pointer (some ⟨pp, 0, none⟩)) (.pointer none)).run Tryd.prog W = .ok false W := fun d => by simp [Op.equalIn, run_underlying Tryd.underlying28]
    simp only [binOp]
    simp [Op.equal, Op.maxDepth, hh 9999]
theorem FdV.rf {w w1 W W' : World} {L : List (Nat × Nat)} {J : List Nat} {M : List (ByteArray × Nat)} {v : Value} {i x : Nat} {e : Ending} (h : FdV w L J M v i x w1) (hr : RfP W L J M e W') : e = .returned (.tuple #[.int .i64 i, .int .i64 x]) ∧ Below W.heap.size W W' := by
  obtain ⟨hb, i', x', rfl, hc⟩ := hr
  refine ⟨?_, hb⟩
  rcases h with ⟨_, hx, hB⟩ | ⟨rfl, rfl, hG, _⟩
  · rcases hc with ⟨hx', hB'⟩ | ⟨rfl, rfl, hG⟩
    · obtain ⟨rfl, rfl⟩ := fdB_det hB hx hB' hx'
      rfl
    · exact absurd (fdG_not hG hB) hx
  · rcases hc with ⟨hx', hB'⟩ | ⟨rfl, rfl, _⟩
    · exact absurd (fdG_not hG hB') hx'
    · rfl
theorem own_blk {w : World} {B e sz n g c : Nat} {xs : List Value} (h : w.ownsRow B e sz (.slice (some ⟨g, 0, none⟩) n c) n xs) : Blk w g e (n * sz) := by
  have h' := h
  rcases h.2 with ⟨e1, _⟩ | ⟨g', cap', cur', e1, e2, e3, e4⟩
  · cases e1
  · simp only [Value.slice.injEq, Option.some.injEq, Addr.mk.injEq, and_true, true_and] at e1
    obtain ⟨rfl, rfl⟩ := e1
    refine ⟨cur', e3, Nat.le_of_not_lt fun hlt => ?_⟩
    have h1 := h'.cellAt cur'.size hlt
    rw [obj_cell e3, Array.getElem?_eq_none (Nat.le_refl _), List.getElem?_eq_getElem (by have := h'.1; omega)] at h1
    cases h1
theorem Blk.kept {S : Nat → Prop} {w w' : World} {g t m : Nat} (h : Blk w g t m) (hk : Kp S w w') (hS : ¬ S g) : Blk w' g t m := by
  obtain ⟨cs, h1, h2⟩ := h
  exact ⟨cs, (hk.block g (Array.getElem?_eq_some_iff.1 h1).1 hS).trans h1, h2⟩
theorem fdp_v {w w' : World} {L : List (Nat × Nat)} {J : List Nat} {M : List (ByteArray × Nat)} {e : Ending} (h : FdP w L J M e w') : ∃ (v : Value) (i x : Nat), e = .returned (.tuple #[v, .int .i64 i, .int .i64 x]) ∧ FdV w L J M v i x w' ∧ Below w.heap.size w w' := by
  obtain ⟨hb, ⟨i, x, rfl, hx, hB⟩ | ⟨B, pp, p1, g1, p2, g2, lv, A, C, rfl, hP, hA, hC, h1, h2, hG⟩⟩ := h
  · exact ⟨_, i, x, rfl, .inl ⟨rfl, hx, hB⟩, hb⟩
  · exact ⟨_, 0, 0, rfl, .inr ⟨rfl, rfl, hG, B, pp, p1, g1, p2, g2, lv, A, C, rfl, hP, hA, hC, h1, h2⟩, hb⟩
set_option maxHeartbeats 4000000 in
theorem found_any (ao aj an : Option Addr) (cap capj capn : Nat) (L : List (Nat × Nat)) (J : List Nat) (M : List (ByteArray × Nat)) (w : World) (hn : L.length ≤ 17592186043904) (hJn : J.length ≤ 35184372087808) (hMn : M.length ≤ 5864062014634) (hnil : an = none → capn = 0) (hwf : Wfc L) (hJ : ∀ z ∈ J, z < 4294967296) (hM : ∀ j, j < M.length → (M.getD j (.empty, 0)).2 < 4294967296)
    (hr : CRd w ao L w.heap.size) (hrJ : JRd w aj J w.heap.size) (hrN : NRd w an M w.heap.size) (hT : TabW w) (hp : 0 < w.heap.size) :
    Calls Tryd.prog 7 #[.agg #[.slice ao L.length cap, .slice aj J.length capj, .slice an M.length capn]] w fun e w' => ∃ (v : Value) (i x : Nat), e = .returned (.tuple #[v, .bool true]) ∧ FdV w L J M v i x w' ∧ Below w.heap.size w w' := by
  obtain ⟨i0, hi, hz0, hz1, hz2⟩ := info_parts Tryd.infoX
  have HLC : Hid (∀ W, Below w.heap.size w W → Calls Tryd.prog 19 #[.slice ao L.length cap] W fun e w' => ∃ v, e = .returned v ∧ w'.ownsRow W.heap.size 48 2 v (L.length + 64) (cv (L ++ mksC 64)) ∧ Below W.heap.size W w') := hid_of (fun W hW => lentc_any ao cap L W (by omega) ((hr.below hW).mono hW.size))
  have HLW : Hid (∀ W, Below w.heap.size w W → Calls Tryd.prog 20 #[.slice aj J.length capj] W fun e w' => ∃ v, e = .returned v ∧ w'.ownsRow W.heap.size 32 1 v (J.length + 64) (dv (J ++ mksW 64)) ∧ Below W.heap.size W w') := hid_of (fun W hW => lentw_any aj capj J W (by omega) (fun q => by obtain ⟨b, o, e1, e2, e3⟩ := (hrJ.below hW) q; exact ⟨b, o, e1, Nat.lt_of_lt_of_le e2 hW.size, e3⟩))
  have HRd : Hid (∀ W, Below w.heap.size w W → CRd W ao L W.heap.size ∧ JRd W aj J W.heap.size ∧ NRd W an M W.heap.size) := hid_of (fun W hW => ⟨(hr.below hW).mono hW.size, fun q => by obtain ⟨b, o, e1, e2, e3⟩ := (hrJ.below hW) q; exact ⟨b, o, e1, Nat.lt_of_lt_of_le e2 hW.size, e3⟩, fun q => by obtain ⟨b, o, e1, e2, e3⟩ := (hrN.below hW) q; exact ⟨b, o, e1, Nat.lt_of_lt_of_le e2 hW.size, e3⟩⟩)
  clear hr hrJ hrN
  go_enter Tryd.func7, Tryd.ntmps7
  go_wp2_with fail
  obtain ⟨W0, hW0⟩ : ∃ W, w.alloc (Obj.cells #[.slice ao L.length cap, .slice aj J.length capj, .slice an M.length capn] 26) = W := ⟨_, rfl⟩
  have hb0 : Below w.heap.size w W0 := by rw [← hW0]; exact belP (Below.refl _ _)
  have o0 : W0.heap[w.heap.size]? = some (Obj.cells #[.slice ao L.length cap, .slice aj J.length capj, .slice an M.length capn] 26) := by rw [← hW0]; exact heap_alloc_new _ _
  have HBX : Hid (∀ W, Below W0.heap.size W0 W → W.cell? ⟨w.heap.size, 0, none⟩ = some (.slice ao L.length cap) ∧ W.cell? ⟨w.heap.size, 1, none⟩ = some (.slice aj J.length capj) ∧ W.cell? ⟨w.heap.size, 2, none⟩ = some (.slice an M.length capn)) := hid_of (fun W hW => by
    have o1 := (hW.block _ (Array.getElem?_eq_some_iff.1 o0).1).trans o0
    exact ⟨(obj_cell o1 0).trans rfl, (obj_cell o1 1).trans rfl, (obj_cell o1 2).trans rfl⟩)
  have hLC0 := HLC.out W0 hb0
  rw [hW0]
  clear hW0 o0
  refine hLC0.mono ?_
  rintro e w1 ⟨vC, rfl, oC1, hb1⟩
  clear hLC0
  have c1 := (HBX.out w1 hb1).2.1
  have hLW1 := HLW.out w1 (btP hb0 hb1)
  go_wp2_with fail
  refine hLW1.mono ?_
  rintro e w2 ⟨vJ, rfl, oJ2, hb2⟩
  clear hLW1 c1
  have hb12 := btP hb1 hb2
  have c2 := (HBX.out w2 hb12).2.2
  have hbW2 := btP hb0 hb12
  have hnN := (HRd.out w2 hbW2).2.2
  go_wp2_with (at_builtin; refine append_nm rfl _ _ rfl w2.heap.size (Nat.le_refl _) rfl an capn M rfl hnN hnil hMn ?_)
  intro vN1 w3 oN1 hg3
  have hb3 : Below w2.heap.size w2 w3 := (Below.refl _ w2).grown hg3 (Nat.le_refl _) (fun k e => by cases e)
  clear hg3 hnN c2
  obtain ⟨gC, cC, hvC⟩ : ∃ g c, vC = .slice (some ⟨g, 0, none⟩) (L.length + 64) c := by
    rcases oC1.2 with ⟨_, hz⟩ | ⟨g', cap', cur', e1, _⟩
    · omega
    · exact ⟨_, _, e1⟩
  obtain ⟨gJ, cJ, hvJ⟩ : ∃ g c, vJ = .slice (some ⟨g, 0, none⟩) (J.length + 64) c := by
    rcases oJ2.2 with ⟨_, hz⟩ | ⟨g', cap', cur', e1, _⟩
    · omega
    · exact ⟨_, _, e1⟩
  subst hvC hvJ
  go_wp2_with (at_builtin; refine wpList_append_own _ rfl _ _ 24 rfl w2.heap.size 61 i0 (.agg #[.string ⟨#[]⟩, .int .u32 0]) 2 24 Tryd.underlying24 hi hz0 hz1 hz2 rfl (by decide) _ _ _ rfl (oN1.alloc _) ⟨w3.heap.size, 0, none⟩ 2 2 (nv mkN) rfl rfl ?d1 ?d2 ?d3 ?d4 ?d5 ?_)
  case d1 =>
    intro j u hj
    match j, hj with
    | 0, hj => simp [nv] at hj; subst hj; simp [Addr.add]
    | 1, hj => simp [nv] at hj; subst hj; simp [Addr.add]
    | 2, hj => simp [nv] at hj; subst hj; simp [Addr.add]
    | 3, hj => simp [nv] at hj; subst hj; simp [Addr.add]
  case d2 => exact nv_one' mkN
  case d3 => unfold maxLen; omega
  case d4 => omega
  case d5 => have := hb3.size; simp; omega
  intro vN w4 oN4 hg4 _
  have hb4 : Below w2.heap.size w2 w4 := (belP hb3).grown hg4 (belP hb3).size (fun k e => (oN1.lt k e).1)
  obtain ⟨gN, cN, hvN⟩ : ∃ g c, vN = .slice (some ⟨g, 0, none⟩) (M.length + 2) c := by
    rcases oN4.2 with ⟨_, hz⟩ | ⟨g', cap', cur', e1, _⟩
    · omega
    · exact ⟨_, _, e1⟩
  subst hvN
  rw [← nv_append] at oN4
  clear hg4 oN1 hb3
  -- where things lie
  have hk4 : Kp (fun _ => False) w2 w4 := Kp.ofBelow hb4
  have oJ4 := hk4.own oJ2 (fun _ _ e => e)
  have oC4 := (Kp.ofBelow (S := fun _ => False) (btP hb2 hb4)).own oC1 (fun _ _ e => e)
  have hb04 : Below W0.heap.size W0 w4 := btP hb12 hb4
  have hbW4 : Below w.heap.size w w4 := btP hb0 hb04
  have lC := oC1.lt gC rfl
  have lJ := oJ2.lt gJ rfl
  have lN := oN4.lt gN rfl
  have hs2 := hb2.size
  have hs1 := hb1.size
  have hs0 := hb0.size
  have hs4 := hb4.size
  have HFd : Hid (∀ c1 c2 c3, Calls Tryd.prog 11 #[.slice (some ⟨gC, 0, none⟩) L.length c1, .slice (some ⟨gJ, 0, none⟩) J.length c2, .slice (some ⟨gN, 0, none⟩) M.length c3] w4.drew fun e w' => ∃ (v : Value) (i x : Nat), e = .returned (.tuple #[v, .int .i64 i, .int .i64 x]) ∧ FdV w4 L J M v i x w' ∧ Below w4.heap.size w4 w') := hid_of (fun c1 c2 c3 => by
    have hd : Below w4.heap.size w4 w4.drew := below_drewN (Below.refl _ _) 1
    refine (find_any (some ⟨gC, 0, none⟩) (some ⟨gJ, 0, none⟩) (some ⟨gN, 0, none⟩) c1 c2 c3 L J M w4.drew (by omega) (by omega) (by omega) hwf hJ hM (crd_pre oC4.drew (by simp [mksC_len])) (jrd_pre oJ4.drew (by simp [mksW_len])) (nrd_pre oN4.drew (by simp)) (hT.below (btP hbW4 hd) hp) (Nat.lt_of_lt_of_le hp (btP hbW4 hd).size)).mono ?_
    intro e w' h
    obtain ⟨v, i, x, h1, h2, h3⟩ := fdp_v h
    exact ⟨v, i, x, h1, h2, btP hd h3⟩)
  have cB := HBX.out w4 hb04
  have q1 : (L.length : Int) ≤ (L.length : Int) + 64 := by omega
  have HKS : Hid (∀ V, Below w4.heap.size w4 V → V.cell? ⟨w.heap.size, 0, none⟩ = some (.slice ao L.length cap) ∧ V.cell? ⟨w.heap.size, 1, none⟩ = some (.slice aj J.length capj) ∧ V.cell? ⟨w.heap.size, 2, none⟩ = some (.slice an M.length capn)) := hid_of (fun V hV => HBX.out V (btP hb04 hV))
  have HS4 : Hid (Below w4.heap.size w4 w4.drew) := hid_of (below_drewN (Below.refl _ _) 1)
  have HO := hid_of (And.intro oC4 (And.intro oJ4 oN4))
  have kC := own_cap oC4
  have kJ := own_cap oJ4
  have kN := own_cap oN4
  have kC1 : L.length ≤ cC := by omega
  have kJ1 : J.length ≤ cJ := by omega
  have kN1 : M.length ≤ cN := by omega
  have zL : (0 : Int) ≤ (L.length : Int) := by omega
  have zJ : (0 : Int) ≤ (J.length : Int) := by omega
  have zM : (0 : Int) ≤ (M.length : Int) := by omega
  have kC2 : (L.length : Int) ≤ (cC : Int) := by omega
  have kJ2 : (J.length : Int) ≤ (cJ : Int) := by omega
  have kN2 : (M.length : Int) ≤ (cN : Int) := by omega
  have HL := hid_of (And.intro lC (And.intro lJ (And.intro lN (And.intro hs2 (And.intro hs1 (And.intro hs0 hs4))))))
  clear oC4 oJ4 oN4 lC lJ lN oC1 oJ2 hs2 hs1 hs0 hs4 hk4
  go_wp2_with fail
  refine (wpIn_wide (n := 30)).1 ?_
  refine with_tmpsP fun T0 hT0 => ?_
  have HT0 := hid_of hT0
  clear hT0
  refine wpIn_mono (Q := fun e a V => e = .normal ∧ ∃ (v : Value) (i x : Nat), FdV w4 L J M v i x V ∧ Below w4.heap.size w4 V ∧ ∃ (u31 u32 u33 u34 u35 u36 u37 u38 u39 u40 u41 u42 u43 u44 u45 u46 u30 u47 u48 u49 : Value), a = { tmps := (((((((((((((((((((((((T0.setIfInBounds 31 u31).setIfInBounds 32 u32).setIfInBounds 33 u33).setIfInBounds 34 u34).setIfInBounds 35 u35).setIfInBounds 36 u36).setIfInBounds 37 u37).setIfInBounds 38 u38).setIfInBounds 39 u39).setIfInBounds 40 u40).setIfInBounds 41 u41).setIfInBounds 42 u42).setIfInBounds 43 u43).setIfInBounds 44 u44).setIfInBounds 45 u45).setIfInBounds 46 u46).setIfInBounds 30 u30).setIfInBounds 47 u47).setIfInBounds 48 u48).setIfInBounds 49 u49).setIfInBounds 7 v).setIfInBounds 8 (.int .i64 (i : Nat))).setIfInBounds 9 (.int .i64 (x : Nat))), defers := [] }) ?region ?rest
  case region =>
    rw [HT0.out]
    refine wpIn_wide.2 ?_
    go_region_held3 (fun V => V.cell? ⟨w.heap.size, 0, none⟩ = some (.slice ao L.length cap) ∧ V.cell? ⟨w.heap.size, 1, none⟩ = some (.slice aj J.length capj) ∧ V.cell? ⟨w.heap.size, 2, none⟩ = some (.slice an M.length capn)) (first | exact HKS.out _ HS4.out | exact HKS.out _ hb5 | exact HKS.out _ (below_drewN hb5 1)) (first
      | (go_at_call 11; with_reducible refine (HFd.out _ _ _).mono ?_; rintro e w5 ⟨v, i, x, rfl, hV5, hb5⟩))
    all_goals exact ⟨rfl, v, i, x, hV5, hb5, _, _, _, _, _, _, _, _, _, _, _, _, _, _, _, _, _, _, _, _, rfl⟩
  case rest =>
    rintro e a V ⟨rfl, v, i, x, hV, hbV, u31, u32, u33, u34, u35, u36, u37, u38, u39, u40, u41, u42, u43, u44, u45, u46, u30, u47, u48, u49, rfl⟩
    rw [HT0.out]
    simp only [List.setIfInBounds_toArray, List.set_cons_succ, List.set_cons_zero]
    have hb4V := hbV
    have hbWV := btP hbW4 hbV
    have HRF : Hid (Calls Tryd.prog 21 #[.slice ao L.length cap, .slice aj J.length capj, .slice an M.length capn] V fun e w' => e = .returned (.tuple #[.int .i64 (i : Nat), .int .i64 (x : Nat)]) ∧ Below V.heap.size V w') := hid_of ((rfind_any ao aj an cap capj capn L J M V (by omega) (by omega) (by omega) hwf hJ hM (HRd.out V hbWV).1 (HRd.out V hbWV).2.1 (HRd.out V hbWV).2.2).mono (fun e w' h => hV.rf h))
    obtain ⟨a0, ha0⟩ : ∃ a0, v = .pointer a0 := by
      rcases hV with ⟨h, _⟩ | ⟨_, _, _, B, pp, p1, g1, p2, g2, lv, A, C, h, _⟩
      · exact ⟨_, h⟩
      · exact ⟨_, h⟩
    subst ha0
    have HEQ := hid_of (fun W => hV.eqn W)
    have HKC : Hid (∀ W, Below w4.heap.size w4 W → Calls Tryd.prog 22 #[.slice (some ⟨gC, 0, none⟩) (L.length + 64) cC, .slice ao L.length cap] W fun e w' => e = .returned (.bool true) ∧ Below W.heap.size W w') := hid_of (fun W hW => keptc_any ao cap L gC cC W (by omega) (HRd.out W (btP hbW4 hW)).1 (crd_all ((Kp.ofBelow (S := fun _ => False) hW).own HO.out.1 (fun _ _ e => e)) (by simp [mksC_len])))
    have HKJ : Hid (∀ W, Below w4.heap.size w4 W → Calls Tryd.prog 23 #[.slice (some ⟨gJ, 0, none⟩) (J.length + 64) cJ, .slice aj J.length capj] W fun e w' => e = .returned (.bool true) ∧ Below W.heap.size W w') := hid_of (fun W hW => keptw_any aj capj J gJ cJ W (by omega) (HRd.out W (btP hbW4 hW)).2.1 (ownJ ((Kp.ofBelow (S := fun _ => False) hW).own HO.out.2.1 (fun _ _ e => e)) (by simp [mksW_len])))
    have HV := hid_of hV
    have d0 := HKS.out V hbV
    obtain ⟨d1, d2, d3⟩ := d0
    have hbX := hbV
    clear HT0 HFd HLC HLW hV cB
    go_wp2_with (first
      | (go_at_call 21; with_reducible refine HRF.out.mono ?_; rintro e6 w6 ⟨rfl, hb6⟩; have hbX := btP hbX hb6; have hEq := HEQ.out w6; have f1 := (HKS.out w6 hbX).1)
      | (go_at_call 22; with_reducible refine (HKC.out _ hbX).mono ?_; rintro e7 w7 ⟨rfl, hb7⟩; have hbX := btP hbX hb7; have f2 := (HKS.out w7 hbX).2.1)
      | (go_at_call 23; with_reducible refine (HKJ.out _ hbX).mono ?_; rintro e8 w8 ⟨rfl, hb8⟩; have hbX := btP hbX hb8))
    have HNm : Hid (∀ W, Below w4.heap.size w4 W → ∀ k, k < M.length + 2 → W.cell? ⟨gN, k * 2, none⟩ = some (.string ((M ++ mkN).getD k (.empty, 0)).1) ∧ W.cell? ⟨gN, k * 2 + 1, none⟩ = some (.int .u32 (((M ++ mkN).getD k (.empty, 0)).2 : Nat))) := hid_of (fun W hW k hk => by
      have hown := (Kp.ofBelow (S := fun _ => False) hW).own HO.out.2.2 (fun _ _ e => e)
      obtain ⟨e1, e2⟩ := nv_all (M ++ mkN) k (by simp; omega)
      exact ⟨(hown.cellAt (k * 2) (by omega)).trans e1, (hown.cellAt (k * 2 + 1) (by omega)).trans e2⟩)
    have HB8 := hid_of hbX
    clear hEq f1 f2 d1 d2 d3 HRF HEQ HKC HKJ hbX
    go_loopw [12] (fun u wr => ∃ k : Nat, u = .int .i64 k ∧ k ≤ M.length + 2 ∧ Below w8.heap.size w8 wr)
      (fun u _ => M.length + 2 - (intOf u).toNat)
    case atStart => exact ⟨0, rfl, Nat.zero_le _, Below.refl _ _⟩
    case round =>
      obtain ⟨k, rfl, hk, hbk⟩ := hrel
      have hb4k := btP HB8.out hbk
      have f3 := (HKS.out wr hb4k).2.2
      by_cases hlt : k < M.length + 2
      · have hltI : (k : Int) < (M.length : Int) + 2 := by omega
        by_cases hkM : k < M.length
        · have hkI : (k : Int) < (M.length : Int) := by omega
          have hbW8 := btP hbW4 hb4k
          obtain ⟨bn, offn, rfl, hbn, hcn⟩ := (HRd.out wr hbW8).2.2 (by omega)
          obtain ⟨x0, x1⟩ := hcn k hkM
          obtain ⟨y0, y1⟩ := HNm.out wr hb4k k hlt
          rw [show (M ++ mkN).getD k (.empty, 0) = M.getD k (.empty, 0) by simp [List.getD, List.getElem?_append_left hkM]] at y0 y1
          generalize (M.getD k (.empty, 0)).1 = sn at x0 y0
          generalize (M.getD k (.empty, 0)).2 = zn at x1 y1
          have lgN := (HO.out.2.2.lt gN rfl).2
          have f4 := fun o => (HKS.out (wr.alloc o) (belP hb4k)).2.2
          have hzr := hb4k.size
          have hbnr : bn < wr.heap.size := hbn
          have x2 := fun o => ((Kp.alloc (S := fun _ => False) wr o).cell (p := ⟨bn, offn + k * 2, none⟩) hbnr (fun e => e)).trans x0
          have x3 := fun o => ((Kp.alloc (S := fun _ => False) wr o).cell (p := ⟨bn, offn + k * 2 + 1, none⟩) hbnr (fun e => e)).trans x1
          have y2 := fun o => ((Kp.alloc (S := fun _ => False) wr o).cell (p := ⟨gN, k * 2, none⟩) (by show gN < wr.heap.size; omega) (fun e => e)).trans y0
          have y3 := fun o => ((Kp.alloc (S := fun _ => False) wr o).cell (p := ⟨gN, k * 2 + 1, none⟩) (by show gN < wr.heap.size; omega) (fun e => e)).trans y1
          clear hcn x0 x1 y0 y1 hzr
          go_wp2_with fail
          go_quiet (fail)
          go_wp2_with fail
          go_roundw
          case rel => exact ⟨k + 1, by go_num, by omega, below_drewN (belP hbk) nq⟩
          case measure => simp [intOf]; omega
        · by_cases hd : k = M.length
          · skip
            have hmk : (77 + (k : Int) - (M.length : Int)) % 4294967296 = 77 := by omega
            have hkI : ¬ (k : Int) < (M.length : Int) := by omega
            obtain ⟨y0, y1⟩ := HNm.out wr hb4k k hlt
            rw [show (M ++ mkN).getD k (.empty, 0) = (⟨#[109, 97, 114, 107]⟩, 77) by rw [show k = M.length + 0 by omega]; simp [List.getD]] at y0 y1
            have lgN := (HO.out.2.2.lt gN rfl).2
            have f4 := fun o => (HKS.out (wr.alloc o) (belP hb4k)).2.2
            have hzr := hb4k.size
            have y2 := fun o => ((Kp.alloc (S := fun _ => False) wr o).cell (p := ⟨gN, k * 2, none⟩) (by show gN < wr.heap.size; omega) (fun e => e)).trans y0
            have y3 : ∀ o, (wr.alloc o).cell? ⟨gN, k * 2 + 1, none⟩ = some (.int .u32 77) := fun o => ((Kp.alloc (S := fun _ => False) wr o).cell (p := ⟨gN, k * 2 + 1, none⟩) (by show gN < wr.heap.size; omega) (fun e => e)).trans y1
            clear y0 y1 hzr hkM hd
            go_wp2_with fail
            go_quiet (fail)
            go_wp2_with fail
            go_roundw
            case rel => exact ⟨k + 1, by go_num, by omega, below_drewN (belP hbk) nq⟩
            case measure => simp [intOf]; omega
          · skip
            have hmk : (77 + (k : Int) - (M.length : Int)) % 4294967296 = 78 := by omega
            have hkI : ¬ (k : Int) < (M.length : Int) := by omega
            obtain ⟨y0, y1⟩ := HNm.out wr hb4k k hlt
            rw [show (M ++ mkN).getD k (.empty, 0) = (⟨#[109, 97, 114, 107]⟩, 78) by rw [show k = M.length + 1 by omega]; simp [List.getD]] at y0 y1
            have lgN := (HO.out.2.2.lt gN rfl).2
            have f4 := fun o => (HKS.out (wr.alloc o) (belP hb4k)).2.2
            have hzr := hb4k.size
            have y2 := fun o => ((Kp.alloc (S := fun _ => False) wr o).cell (p := ⟨gN, k * 2, none⟩) (by show gN < wr.heap.size; omega) (fun e => e)).trans y0
            have y3 : ∀ o, (wr.alloc o).cell? ⟨gN, k * 2 + 1, none⟩ = some (.int .u32 78) := fun o => ((Kp.alloc (S := fun _ => False) wr o).cell (p := ⟨gN, k * 2 + 1, none⟩) (by show gN < wr.heap.size; omega) (fun e => e)).trans y1
            clear y0 y1 hzr hkM hd
            go_wp2_with fail
            go_quiet (fail)
            go_wp2_with fail
            go_roundw
            case rel => exact ⟨k + 1, by go_num, by omega, below_drewN (belP hbk) nq⟩
            case measure => simp [intOf]; omega
      · have hke : k = M.length + 2 := by omega
        have hltI : ¬ (k : Int) < (M.length : Int) + 2 := by omega
        have HBK := hid_of hbk
        have HBV8 := hid_of (btP (btP (btP hb6 hb7) hb8) hbk)
        have hk4 : Kp (fun _ => False) w4 wr := Kp.ofBelow hb4k
        have bC := own_blk (hk4.own HO.out.1 (fun _ _ e => e))
        have bJ := own_blk (hk4.own HO.out.2.1 (fun _ _ e => e))
        have bN := own_blk (hk4.own HO.out.2.2 (fun _ _ e => e))
        obtain ⟨l1, l2, l3, l4, l5, l6, l7⟩ := HL.out
        have gCJ : gJ ≠ gC := by omega
        have gCN : gN ≠ gC := by omega
        have gJN : gN ≠ gJ := by omega
        have hOC := overc_any gC (L.length + 64) cC wr (by omega) bC
        have HOJ : Hid (∀ W, Kp (fun q => q = gC) wr W → Calls Tryd.prog 25 #[.slice (some ⟨gJ, 0, none⟩) (J.length + 64) cJ] W fun e w' => (∃ v, e = .returned v) ∧ Kp (fun k => k = gJ) W w') := hid_of (fun W hW => by
          refine overw_any gJ (J.length + 64) cJ W (by omega) ?_
          have := bJ.kept hW gCJ
          rw [Nat.mul_one] at this
          exact this)
        have HBN := hid_of bN
        clear bC bJ bN hke hbk l1 l2 l3 l4 l5 l6 l7
        go_wp2_with (first
          | (go_at_call 24; with_reducible refine hOC.mono ?_; rintro e9 w9 ⟨⟨v9, rfl⟩, hk9⟩)
          | (go_at_call 25; with_reducible refine (HOJ.out _ hk9).mono ?_; rintro e10 w10 ⟨⟨v10, rfl⟩, hk10⟩))
        have hbN10 : Blk w10 gN 61 ((M.length + 2) * 2) := (HBN.out.kept hk9 gCN).kept hk10 gJN
        have HK10 := hid_of (And.intro hk9 hk10)
        clear hk9 hk10 hOC HOJ HBN
        go_loopw [14] (fun u wr2 => ∃ k : Nat, u = .int .i64 k ∧ k ≤ M.length + 2 ∧ Blk wr2 gN 61 ((M.length + 2) * 2) ∧ Kp (fun q => q = gN) w10 wr2)
          (fun u _ => M.length + 2 - (intOf u).toNat)
        case atStart => exact ⟨0, rfl, Nat.zero_le _, hbN10, Kp.refl _ _⟩
        case round =>
          clear hbN10
          obtain ⟨k2, rfl, hk2, hB2, hKp2⟩ := hrel
          by_cases hlt2 : k2 < M.length + 2
          · have hltI2 : (k2 : Int) < (M.length : Int) + 2 := by omega
            obtain ⟨⟨v0, c0⟩, f0⟩ := hB2.cell (i := k2 * 2) (by omega)
            obtain ⟨⟨v1, c1⟩, f1⟩ := hB2.cell (i := k2 * 2 + 1) (by omega)
            have HB2 := hid_of hB2
            clear hB2
            go_wp2_with fail
            go_roundw
            case rel => exact ⟨k2 + 1, by go_num, by omega, (HB2.out.set _).set _, (hKp2.trans (Kp.setCell (S := fun q => q = gN) _ _ _ rfl) (fun _ _ q => q)).trans (Kp.setCell (S := fun q => q = gN) _ _ _ rfl) (fun _ _ q => q)⟩
            case measure => simp [intOf]; omega
          · have hltI2 : ¬ (k2 : Int) < (M.length : Int) + 2 := by omega
            go_wp2_with fail
            refine bodyPost_ret (results_tmp2 rfl _ _ _) rfl ?_
            obtain ⟨l1, l2, l3, l4, l5, l6, l7⟩ := HL.out
            rename World => wE
            have hK1 : Kp (fun q => q = gC ∨ q = gJ ∨ q = gN) V wE := ((((Kp.ofBelow HBV8.out).trans HK10.out.1 (fun _ _ q => .inl q)).trans HK10.out.2 (fun _ _ q => .inr (.inl q))).trans hKp2 (fun _ _ q => .inr (.inr q)))
            refine ⟨.pointer a0, rfl, ⟨i, x, (HV.out.later hK1 (fun q hq => by omega)).low (by have := hbW4.size; omega)⟩, ?_⟩
            exact (btP hbW4 hb4V).trans (hK1.below (by have := (btP hbW4 hb4V).size; omega) (fun q hq => by omega))
end Go.Proofs.YtihnkeflcnndpaaDoor
