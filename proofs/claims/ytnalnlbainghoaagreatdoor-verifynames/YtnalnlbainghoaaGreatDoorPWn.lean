import Derived.Test.YtnalnlbainghoaaGreatDoorPIn
import Derived.RangeFuncKeeps
import Derived.LoopIn
import Derived.LoopNIn
import Derived.TacticsInMore
import Derived.OwnWalkIn
namespace Go.Proofs.YtnalnlbainghoaaGreatDoor
open Go.RowKit Go.WideShapes Go.Shelf
set_option maxRecDepth 100000
attribute [local go_sem] Oper.semAt_some

theorem nilU_eq (a : Option Addr) (n c : Nat) (w : World) : (binOp .eql 161 (.slice a n c) (.slice none 0 0)).run Tryz.prog w = .ok (.bool a.isNone) w := by
  have e : binOp .eql 161 (.slice a n c) (.slice none 0 0) = (do pure (.bool (← Op.equal 161 (.slice a n c) (.slice none 0 0)))) := rfl
  rw [e, Sem.run_bind, run_equal_slice_nil w _ _ a n c Tryz.underlying161]
  rfl
set_option maxHeartbeats 1000000 in
theorem cloneU_any (g cap : Nat) (ws : List Nat) (w : World) (hn : ws.length ≤ 70000) (hr : URd w g 0 ws) (hg : g < w.heap.size) :
    Calls Tryz.prog 99 #[.slice (some ⟨g, 0, none⟩) ws.length cap] w fun e w' => ∃ v, e = .returned v ∧ w'.ownsRow w.heap.size 77 1 v ws.length (uv ws) ∧ Below w.heap.size w w' := by
  obtain ⟨i0, hi, hz0, hz1, hz2⟩ := info_parts Tryz.infoU
  have hq := nilU_eq (some ⟨g, 0, none⟩) ws.length cap w
  have own0 := World.ownsRow_lit (size := 1) (base := w.heap.size) (e := 77) w #[] 0 (Nat.le_refl _) (by decide) rfl
  have hb0 : Below w.heap.size w (w.alloc (.cells #[] 77)) := (Below.refl w.heap.size w).alloc (Nat.le_refl _) _
  have HC : Hid (∀ j u, (uv ws)[j]? = some u → (w.alloc (.cells #[] 77)).cell? ((⟨g, 0, none⟩ : Addr).add j) = some u) := hidS (fun j u hj => by
    have hjl : j < ws.length := by
      have := (List.getElem?_eq_some_iff.1 hj).1
      simpa [uv] using this
    rw [add_plain, Nat.zero_add, hb0.cell (p := ⟨g, j, none⟩) hg]
    have := hr j hjl
    rw [Nat.zero_add] at this
    rw [this]
    simp [uv, hjl] at hj
    simp [hjl, hj])
  clear hr
  go_enter Tryz.func99, Tryz.ntmps99
  go_wp2_with (at_builtin; refine wpList_append_own _ rfl _ _ 161 rfl w.heap.size 77 i0 (.int .u64 0) 1 8 Tryz.underlying161 hi hz0 hz1 hz2 rfl (by decide) _ 0 [] rfl own0 ⟨g, 0, none⟩ ws.length cap (uv ws) rfl ?d0 HC.out ?d2 ?d3 ?d4 ?d5 ?_)
  case d0 => simp [uv]
  case d2 => intro u hu; simp [uv] at hu; obtain ⟨z, _, rfl⟩ := hu; rfl
  case d3 => unfold maxLen; omega
  case d4 => omega
  intro v' w1 hown' hgrow _
  have R2 : Below w.heap.size w w1 := hb0.grown hgrow (by simp) (fun k e => by simp [Value.ownBlock] at e; omega)
  clear hgrow own0 hb0 HC
  go_wp2
  go_ret
  exact ⟨_, rfl, hown', R2⟩
theorem own_ws {w : World} {B : Nat} {v : Value} {ws : List Nat} (h : w.ownsRow B 77 1 v ws.length (uv ws)) : ∃ ao cap, v = .slice ao ws.length cap ∧ Ws w ao ws w.heap.size := by
  have h' := h
  have hlt := h.lt
  rcases h.2 with ⟨rfl, hz⟩ | ⟨g, cap, cur, rfl, _⟩
  · exact ⟨none, 0, by rw [hz], fun hp => by omega⟩
  · refine ⟨_, cap, rfl, fun _ => ⟨g, 0, rfl, (hlt g rfl).2, fun j hj => ?_⟩⟩
    rw [Nat.zero_add, h'.cellAt j (by omega)]
    simp [uv, hj]
/-- what an iterator over words keeps by it -/
structure InP (ws : List Nat) (Bw Bf Be : Nat) (ao : Option Addr) (cap f e B0 : Nat) (W : World) : Prop where
  bw : Boxed W Bw 161 (.slice ao ws.length cap)
  bf : Boxed W Bf 3 (.int .i64 f)
  be : Boxed W Be 3 (.int .i64 e)
  ws : Ws W ao ws B0
  tab : TabW W
theorem InP.step {ws : List Nat} {Bw Bf Be : Nat} {ao : Option Addr} {cap f e B0 : Nat} {A C : World} {row : Option Nat} (h : InP ws Bw Bf Be ao cap f e B0 A) (hg : A.grownBy C row) (hr : ∀ r, row = some r → ∃ o : Obj, A.heap[r]? = some o ∧ o.isCells = false) : InP ws Bw Bf Be ao cap f e B0 C :=
  ⟨boxed_stepP h.bw hg hr, boxed_stepP h.bf hg hr, boxed_stepP h.be hg hr, h.ws.step hg hr, TabW.step h.tab hg hr⟩
theorem InP.below {ws : List Nat} {Bw Bf Be : Nat} {ao : Option Addr} {cap f e B0 B : Nat} {A C : World} (h : InP ws Bw Bf Be ao cap f e B0 A) (hb : Below B A C) (h1 : Bw < B) (h2 : Bf < B) (h3 : Be < B) (h4 : B0 ≤ B) (h5 : 2 < B) : InP ws Bw Bf Be ao cap f e B0 C :=
  ⟨(hb.block Bw h1).trans h.bw, (hb.block Bf h2).trans h.bf, (hb.block Be h3).trans h.be, h.ws.below (hb.mono h4), h.tab.below hb h5⟩
abbrev KeP (ws : List Nat) (Bw Bf Be : Nat) (ao : Option Addr) (cap f e B0 : Nat) (W W' : World) : Prop := InP ws Bw Bf Be ao cap f e B0 W → InP ws Bw Bf Be ao cap f e B0 W'
theorem KeP_t {ws : List Nat} {Bw Bf Be : Nat} {ao : Option Addr} {cap f e B0 : Nat} {A B C : World} (h : KeP ws Bw Bf Be ao cap f e B0 A B) (k : KeP ws Bw Bf Be ao cap f e B0 B C) : KeP ws Bw Bf Be ao cap f e B0 A C := fun x => k (h x)
theorem KeP_b {ws : List Nat} {Bw Bf Be : Nat} {ao : Option Addr} {cap f e B0 : Nat} {w : World} (W : World) (l : Nat) (o o' : Obj) (_ : w.heap.size ≤ l) (h : W.heap[l]? = some o) (hc : o.isCells = false) (_ : o.isWalk = false) : KeP ws Bw Bf Be ao cap f e B0 W (W.putObj l o') :=
  fun x => x.step (grownBy_putObj' W l o') (fun r e => by cases e; exact ⟨o, h, hc⟩)
theorem pre_snoc_len {pre L : List Nat} {x : Nat} (h : pre ++ [x] <+: L) : pre.length < L.length := by
  have := h.length_le
  simp at this
  omega
abbrev encuint32 (x : Nat) : Array Value := #[.int .u32 x]
set_option maxHeartbeats 2000000 in
theorem withinuint32_in (n : Nat) (hn1 : 2 ≤ n) (l Bw Bf Be B0 : Nat) (ao : Option Addr) (cap f e : Nat) (ws : List Nat) (J Jx : List Nat → World → Prop) (W : World)
    (hl : ws.length ≤ 16384) (hw : ∀ z ∈ ws, z < 2 ^ 64) (hf : f ≤ 64 * ws.length) (he : e ≤ 64 * ws.length)
    (hY : ∀ pre x W1, J pre W1 → pre.length < 1048577 → pre ++ [x] <+: rng (hasW ws) f e → YieldAt Fence.wide (n - 1) Tryz.prog l (encuint32 x) W1 fun en W' =>
      (en = .returned (.bool true) ∧ J (pre ++ [x]) W' ∧ KeP ws Bw Bf Be ao cap f e B0 W1 W' ∧ Upon W.heap.size W1 W') ∨ (en = .returned (.bool false) ∧ Jx (pre ++ [x]) W' ∧ Upon W.heap.size W1 W'))
    (hP : InP ws Bw Bf Be ao cap f e B0 W) (hB0 : B0 ≤ W.heap.size) (h0 : J [] W) :
    CallsIn Fence.wide n Tryz.prog 133 #[.func (.yield l) #[] #[], .pointer (some ⟨Bw, 0, none⟩), .pointer (some ⟨Bf, 0, none⟩), .pointer (some ⟨Be, 0, none⟩)] W fun en W' => (∃ v, en = .returned v) ∧
      ((∃ ys, ys = rng (hasW ws) f e ∧ J ys W') ∨ (∃ pre, pre <+: rng (hasW ws) f e ∧ Jx pre W')) := by
  refine callsIn_of_wp Tryz.func133 rfl trivial ?_ rfl
  simp only [Tryz.ntmps133, List.size_toArray, List.length_cons, List.length_nil, Nat.reduceAdd, Nat.reduceSub, Array.replicate_succ, Array.replicate_zero, List.push_toArray, List.append_toArray, List.nil_append, List.cons_append]
  have hX : ∀ (V : World) (x : Nat), InP ws Bw Bf Be ao cap f e B0 V → B0 ≤ V.heap.size → x ≤ 64 * ws.length → Calls Tryz.prog 134 #[.slice ao ws.length cap, .int .i64 x] V fun en w' => (∃ r : Nat, en = .returned (.int .i64 r) ∧ NextS (hasW ws) (64 * ws.length) x r) ∧ w' = V := fun V x hV hB hx => next_any ao cap ws x V (by omega) hx hw (fun hp => by obtain ⟨b, off, h1, h2, h3⟩ := hV.ws hp; exact ⟨b, off, h1, by omega, h3⟩) hV.tab
  have hn0 : 1 ≤ n := by omega
  have HX := hidS hX
  have HP := hidS hP
  have c1 := hP.bw.cell
  have c2 := hP.bf.cell
  have hA := hX W f hP hB0 hf
  clear hX hP
  gi_wp2_with ((first | refine ⟨trivial, fun _ => by omega, ?_⟩ | refine ⟨trivial, ?_⟩); gi_at_call 134; refine (callsIn_wide.2 hA).mono ?_; rintro en w2 ⟨⟨r, rfl, hr⟩, hw2⟩; subst hw2)
  rename World => W
  gi_loopw [5] (fun u wr => ∃ (q r : Nat) (pre : List Nat), u = .int .i64 r ∧ NextS (hasW ws) (64 * ws.length) q r ∧ q ≤ 64 * ws.length ∧ pre ++ rng (hasW ws) q e = rng (hasW ws) f e ∧ InP ws Bw Bf Be ao cap f e B0 wr ∧ W.heap.size ≤ wr.heap.size ∧ J pre wr)
    (fun u _ => 64 * ws.length - (intOf u).toNat)
  case atStart => exact ⟨f, r, [], rfl, hr, hf, rfl, HP.out, Nat.le_refl _, h0⟩
  case round =>
    clear c1 c2 h0 hr hA HP
    obtain ⟨q, r, pre, rfl, hr, hq, hpre, hP, hsz, hj⟩ := hrel
    have c3 := hP.be.cell
    have hrN := hr.le
    by_cases hlt : r < e
    · have hlI : (r : Int) < (e : Int) := by omega
      have hcut := rng_next hr hq he hlt
      rw [hcut] at hpre
      have hsp : pre ++ [r] <+: rng (hasW ws) f e := ⟨rng (hasW ws) (r + 1) e, by rw [← hpre]; simp⟩
      have hlen : pre.length < 1048577 := by
        have h1 := pre_snoc_len hsp
        have h2 := rng_len (hasW ws) f e
        omega
      obtain ⟨fn, tmps, assign, body, hy, hR⟩ := hY pre r wr hj hlen hsp
      have hy' : (Instr.yield l #[.int .u32 (r : Int)]).run Tryz.prog wr = .ok (.round l fn tmps assign body) wr := hy
      have HPre := hidS hpre
      have hr32 : r < 4294967296 := by omega
      clear hy hY hcut hpre hsp
      gi_wp2
      refine hR.mono ?_
      clear hy' hR c3
      rintro en W3 (⟨rfl, hJ3, hk3, hu3⟩ | ⟨rfl, hJx3, hu3⟩)
      · have hP3 := hk3 hP
        have hs3 := hu3.size
        have c1 := hP3.bw.cell
        have hA := HX.out W3 (r + 1) hP3 (by omega) (by omega)
        rw [show (((r + 1 : Nat)) : Int) = (r : Int) + 1 by omega] at hA
        gi_wp2_with ((first | refine ⟨trivial, fun _ => by omega, ?_⟩ | refine ⟨trivial, ?_⟩); gi_at_call 134; refine (callsIn_wide.2 hA).mono ?_; rintro en w2 ⟨⟨r2, rfl, hr2⟩, hw2⟩; subst hw2)
        go_roundw
        case rel => exact ⟨r + 1, r2, pre ++ [r], rfl, hr2, by omega, by rw [← HPre.out]; simp, hP3, by omega, hJ3⟩
        case measure => have := hr2.ge (by omega); simp [intOf]; omega
      · gi_wp2
        refine bodyPost_ret (results_none rfl _ _ _) rfl ?_
        exact ⟨⟨_, rfl⟩, .inr ⟨_, ⟨rng (hasW ws) (r + 1) e, by rw [← HPre.out]; simp⟩, hJx3⟩⟩
    · have hlI : ¬ (r : Int) < (e : Int) := by omega
      have hnil := rng_last hr (b := e) (by omega)
      rw [hnil, List.append_nil] at hpre
      clear hY
      gi_wp2
      go_end0
      rw [hpre] at hj
      first | exact ⟨⟨_, rfl⟩, .inl hj⟩ | exact ⟨⟨_, rfl⟩, .inl ⟨_, rfl, hj⟩⟩
theorem sequint32 (n : Nat) (hn1 : 2 ≤ n) (Bw Bf Be B0 : Nat) (ao : Option Addr) (cap f e : Nat) (ws : List Nat) (w : World) (hl : ws.length ≤ 16384) (hw : ∀ z ∈ ws, z < 2 ^ 64) (hf : f ≤ 64 * ws.length) (he : e ≤ 64 * ws.length)
    (hP : InP ws Bw Bf Be ao cap f e B0 w) (hB0 : B0 ≤ w.heap.size) (hp : 2 < w.heap.size) :
    SeqOwn Fence.wide n Tryz.prog 133 #[.pointer (some ⟨Bw, 0, none⟩), .pointer (some ⟨Bf, 0, none⟩), .pointer (some ⟨Be, 0, none⟩)] encuint32 (KeP ws Bw Bf Be ao cap f e B0) (fun ys => ys = rng (hasW ws) f e) (fun pre => pre <+: rng (hasW ws) f e) 1048577 w :=
  fun l J Jx W hW _ _ hY h0 => withinuint32_in n hn1 l Bw Bf Be B0 ao cap f e ws J Jx W hl hw hf he hY (hP.below hW hP.bw.lt hP.bf.lt hP.be.lt hB0 hp) (Nat.le_trans hB0 hW.size) h0
theorem withinuint32_any (ao : Option Addr) (n cap : Nat) (f e : Int) (w : World) :
    Calls Tryz.prog 101 #[.slice ao n cap, .int .i64 f, .int .i64 e] w fun en w' => en = .returned (.func (.func 133) #[] #[.pointer (some ⟨w.heap.size, 0, none⟩), .pointer (some ⟨w.heap.size + 1, 0, none⟩), .pointer (some ⟨w.heap.size + 2, 0, none⟩)]) ∧
      w' = ((w.alloc (.cells #[.slice ao n cap] 161)).alloc (.cells #[.int .i64 f] 3)).alloc (.cells #[.int .i64 e] 3) := by
  go_enter Tryz.func101, Tryz.ntmps101
  go_wp2
  go_ret
  exact ⟨rfl, rfl⟩
set_option maxHeartbeats 1000000 in
theorem setalluint32_any (p g bound n : Nat) (ws : List Nat) (w : World) (h : SetR w p g bound ws n) (hT : TabW w) :
    Calls Tryz.prog 68 #[.pointer (some ⟨p, 0, none⟩)] w fun en w' => ∃ (Bw Bf Be : Nat) (ao : Option Addr) (cap B0 : Nat), en = .returned (.func (.func 133) #[] #[.pointer (some ⟨Bw, 0, none⟩), .pointer (some ⟨Bf, 0, none⟩), .pointer (some ⟨Be, 0, none⟩)]) ∧
      InP ws Bw Bf Be ao cap 0 (64 * ws.length) B0 w' ∧ B0 ≤ w'.heap.size ∧ w.heap.size ≤ Bw ∧ w.heap.size ≤ Bf ∧ w.heap.size ≤ Be ∧ (∀ b off, ao = some ⟨b, off, none⟩ → w.heap.size ≤ b) ∧ Below w.heap.size w w' := by
  have hl : ws.length ≤ 16384 := by have := h.len; have := h.bd; omega
  have hp := h.ltp
  have hpt := hT.pos
  have hH := held_any p g bound n ws w h
  have hC := cloneU_any g ws.length ws w (by omega) h.reads h.ltg
  clear h
  go_enter Tryz.func68, Tryz.ntmps68
  go_wp2_with (first
    | (go_at_call 100; with_reducible refine hH.mono ?_; rintro e w1 ⟨rfl, hw1⟩; subst hw1)
    | (go_at_call 99; with_reducible refine hC.mono ?_; rintro e w2 ⟨v, rfl, ho2, hq2⟩; have ho3 := ho2; obtain ⟨ao, cap, rfl, hws⟩ := own_ws ho2; have hA := withinuint32_any ao ws.length cap 0 ((ws.length : Int) * 64) w2)
    | (go_at_call 101; with_reducible refine hA.mono ?_; rintro e w3 ⟨rfl, hw3⟩))
  go_ret
  subst hw3
  have hz := hq2.size
  refine ⟨w2.heap.size, w2.heap.size + 1, w2.heap.size + 2, ao, cap, w2.heap.size, rfl, ⟨((Boxed.new w2 _ _).alloc _).alloc _, ?_, ?_, hws.below (((Below.refl _ w2).alloc (Nat.le_refl _) _).alloc (by simp) _ |>.alloc (by simp; omega) _), (hT.below hq2 (by omega)).below (((Below.refl _ w2).alloc (Nat.le_refl _) _).alloc (by simp) _ |>.alloc (by simp; omega) _) (by omega)⟩, by simp; omega, hz, by omega, by omega, ?_, ((hq2.alloc hz _).alloc (by simp; omega) _).alloc (by simp; omega) _⟩
  · have := (Boxed.new (w2.alloc (.cells #[.slice ao ws.length cap] 161)) 3 (.int .i64 0)).alloc (.cells #[.int .i64 ((ws.length : Int) * 64)] 3)
    rw [World.size_alloc] at this
    exact this
  · have := Boxed.new ((w2.alloc (.cells #[.slice ao ws.length cap] 161)).alloc (.cells #[.int .i64 0] 3)) 3 (.int .i64 ((ws.length : Int) * 64))
    rw [World.size_alloc, World.size_alloc] at this
    rw [show ((64 * ws.length : Nat) : Int) = (ws.length : Int) * 64 by omega]
    exact this
  · rintro b off rfl
    exact (ho3.lt b rfl).1
end Go.Proofs.YtnalnlbainghoaaGreatDoor
