import Derived.Test.YtnlfgijmkgihcaaDoorPWu
import Derived.Test.YtnlfgijmkgihcaaDoorPSi
import Derived.RangeFuncKeeps
import Derived.LoopIn
import Derived.LoopNIn
import Derived.TacticsInMore
import Derived.OwnWalkIn
namespace Go.Proofs.YtnlfgijmkgihcaaDoor
open Go.RowKit Go.WideShapes Go.Shelf
set_option maxRecDepth 100000
attribute [local go_sem] Oper.semAt_some

abbrev encint (x : Nat) : Array Value := #[.int .i64 x]
set_option maxHeartbeats 2000000 in
theorem withinint_in (n : Nat) (hn1 : 2 ≤ n) (l Bw Bf Be B0 : Nat) (ao : Option Addr) (cap f e : Nat) (ws : List Nat) (J Jx : List Nat → World → Prop) (W : World)
    (hl : ws.length ≤ 16384) (hw : ∀ z ∈ ws, z < 2 ^ 64) (hf : f ≤ 64 * ws.length) (he : e ≤ 64 * ws.length)
    (hY : ∀ pre x W1, J pre W1 → pre.length < 1048577 → pre ++ [x] <+: rng (hasW ws) f e → YieldAt Fence.wide (n - 1) Tryd.prog l (encint x) W1 fun en W' =>
      (en = .returned (.bool true) ∧ J (pre ++ [x]) W' ∧ KeP ws Bw Bf Be ao cap f e B0 W1 W' ∧ Upon W.heap.size W1 W') ∨ (en = .returned (.bool false) ∧ Jx (pre ++ [x]) W' ∧ Upon W.heap.size W1 W'))
    (hP : InP ws Bw Bf Be ao cap f e B0 W) (hB0 : B0 ≤ W.heap.size) (h0 : J [] W) :
    CallsIn Fence.wide n Tryd.prog 60 #[.func (.yield l) #[] #[], .pointer (some ⟨Bw, 0, none⟩), .pointer (some ⟨Bf, 0, none⟩), .pointer (some ⟨Be, 0, none⟩)] W fun en W' => (∃ v, en = .returned v) ∧
      ((∃ ys, ys = rng (hasW ws) f e ∧ J ys W') ∨ (∃ pre, pre <+: rng (hasW ws) f e ∧ Jx pre W')) := by
  refine callsIn_of_wp Tryd.func60 rfl trivial ?_ rfl
  simp only [Tryd.ntmps60, List.size_toArray, List.length_cons, List.length_nil, Nat.reduceAdd, Nat.reduceSub, Array.replicate_succ, Array.replicate_zero, List.push_toArray, List.append_toArray, List.nil_append, List.cons_append]
  have hX : ∀ (V : World) (x : Nat), InP ws Bw Bf Be ao cap f e B0 V → B0 ≤ V.heap.size → x ≤ 64 * ws.length → Calls Tryd.prog 57 #[.slice ao ws.length cap, .int .i64 x] V fun en w' => (∃ r : Nat, en = .returned (.int .i64 r) ∧ NextS (hasW ws) (64 * ws.length) x r) ∧ w' = V := fun V x hV hB hx => next_any ao cap ws x V (by omega) hx hw (fun hp => by obtain ⟨b, off, h1, h2, h3⟩ := hV.ws hp; exact ⟨b, off, h1, by omega, h3⟩) hV.tab
  have hn0 : 1 ≤ n := by omega
  have HX := hidS hX
  have HP := hidS hP
  have c1 := hP.bw.cell
  have c2 := hP.bf.cell
  have hA := hX W f hP hB0 hf
  clear hX hP
  gi_wp2_with ((first | refine ⟨trivial, fun _ => by omega, ?_⟩ | refine ⟨trivial, ?_⟩); gi_at_call 57; refine (callsIn_wide.2 hA).mono ?_; rintro en w2 ⟨⟨r, rfl, hr⟩, hw2⟩; subst hw2)
  rename World => W
  gi_loopw [5] (fun u wr => ∃ (q r : Nat) (pre : List Nat), u = .int .i64 r ∧ NextS (hasW ws) (64 * ws.length) q r ∧ q ≤ 64 * ws.length ∧ pre ++ rng (hasW ws) q e = rng (hasW ws) f e ∧ InP ws Bw Bf Be ao cap f e B0 wr ∧ W.heap.size ≤ wr.heap.size ∧ J pre wr)
    (fun u _ => 64 * ws.length - (intOf u).toNat)
  case atStart => exact ⟨f, r, [], rfl, hr, hf, rfl, HP.out, Nat.le_refl _, h0⟩
  case round =>
    clear c1 c2 h0 hr hA HP
    obtain ⟨q, r, pre, rfl, hr, hq, hpre, hP, hsz, hj⟩ := hrel
    have c3 := hP.be.cell
    have hrN := hr.le
    by_cases hlt : r < e
    · have hlI : (r : Int) < (e : Int) := by omega
      have hcut := rng_next hr hq he hlt
      rw [hcut] at hpre
      have hsp : pre ++ [r] <+: rng (hasW ws) f e := ⟨rng (hasW ws) (r + 1) e, by rw [← hpre]; simp⟩
      have hlen : pre.length < 1048577 := by
        have h1 := pre_snoc_len hsp
        have h2 := rng_len (hasW ws) f e
        omega
      obtain ⟨fn, tmps, assign, body, hy, hR⟩ := hY pre r wr hj hlen hsp
      have hy' : (Instr.yield l #[.int .i64 (r : Int)]).run Tryd.prog wr = .ok (.round l fn tmps assign body) wr := hy
      have HPre := hidS hpre
      have hr32 : r < 4294967296 := by omega
      clear hy hY hcut hpre hsp
      gi_wp2
      refine hR.mono ?_
      clear hy' hR c3
      rintro en W3 (⟨rfl, hJ3, hk3, hu3⟩ | ⟨rfl, hJx3, hu3⟩)
      · have hP3 := hk3 hP
        have hs3 := hu3.size
        have c1 := hP3.bw.cell
        have hA := HX.out W3 (r + 1) hP3 (by omega) (by omega)
        rw [show (((r + 1 : Nat)) : Int) = (r : Int) + 1 by omega] at hA
        gi_wp2_with ((first | refine ⟨trivial, fun _ => by omega, ?_⟩ | refine ⟨trivial, ?_⟩); gi_at_call 57; refine (callsIn_wide.2 hA).mono ?_; rintro en w2 ⟨⟨r2, rfl, hr2⟩, hw2⟩; subst hw2)
        go_roundw
        case rel => exact ⟨r + 1, r2, pre ++ [r], rfl, hr2, by omega, by rw [← HPre.out]; simp, hP3, by omega, hJ3⟩
        case measure => have := hr2.ge (by omega); simp [intOf]; omega
      · gi_wp2
        refine bodyPost_ret (results_none rfl _ _ _) rfl ?_
        exact ⟨⟨_, rfl⟩, .inr ⟨_, ⟨rng (hasW ws) (r + 1) e, by rw [← HPre.out]; simp⟩, hJx3⟩⟩
    · have hlI : ¬ (r : Int) < (e : Int) := by omega
      have hnil := rng_last hr (b := e) (by omega)
      rw [hnil, List.append_nil] at hpre
      clear hY
      gi_wp2
      go_end0
      rw [hpre] at hj
      first | exact ⟨⟨_, rfl⟩, .inl hj⟩ | exact ⟨⟨_, rfl⟩, .inl ⟨_, rfl, hj⟩⟩
theorem seqint (n : Nat) (hn1 : 2 ≤ n) (Bw Bf Be B0 : Nat) (ao : Option Addr) (cap f e : Nat) (ws : List Nat) (w : World) (hl : ws.length ≤ 16384) (hw : ∀ z ∈ ws, z < 2 ^ 64) (hf : f ≤ 64 * ws.length) (he : e ≤ 64 * ws.length)
    (hP : InP ws Bw Bf Be ao cap f e B0 w) (hB0 : B0 ≤ w.heap.size) (hp : 0 < w.heap.size) :
    SeqOwn Fence.wide n Tryd.prog 60 #[.pointer (some ⟨Bw, 0, none⟩), .pointer (some ⟨Bf, 0, none⟩), .pointer (some ⟨Be, 0, none⟩)] encint (KeP ws Bw Bf Be ao cap f e B0) (fun ys => ys = rng (hasW ws) f e) (fun pre => pre <+: rng (hasW ws) f e) 1048577 w :=
  fun l J Jx W hW _ _ hY h0 => withinint_in n hn1 l Bw Bf Be B0 ao cap f e ws J Jx W hl hw hf he hY (hP.below hW hP.bw.lt hP.bf.lt hP.be.lt hB0 hp) (Nat.le_trans hB0 hW.size) h0
theorem withinint_any (ao : Option Addr) (n cap : Nat) (f e : Int) (w : World) :
    Calls Tryd.prog 46 #[.slice ao n cap, .int .i64 f, .int .i64 e] w fun en w' => en = .returned (.func (.func 60) #[] #[.pointer (some ⟨w.heap.size, 0, none⟩), .pointer (some ⟨w.heap.size + 1, 0, none⟩), .pointer (some ⟨w.heap.size + 2, 0, none⟩)]) ∧
      w' = ((w.alloc (.cells #[.slice ao n cap] 43)).alloc (.cells #[.int .i64 f] 3)).alloc (.cells #[.int .i64 e] 3) := by
  go_enter Tryd.func46, Tryd.ntmps46
  go_wp2
  go_ret
  exact ⟨rfl, rfl⟩
set_option maxHeartbeats 1000000 in
theorem setallint_any (p g bound n : Nat) (ws : List Nat) (w : World) (h : SetRI w p g bound ws n) (hT : TabW w) :
    Calls Tryd.prog 19 #[.pointer (some ⟨p, 0, none⟩)] w fun en w' => ∃ (Bw Bf Be : Nat) (ao : Option Addr) (cap B0 : Nat), en = .returned (.func (.func 60) #[] #[.pointer (some ⟨Bw, 0, none⟩), .pointer (some ⟨Bf, 0, none⟩), .pointer (some ⟨Be, 0, none⟩)]) ∧
      InP ws Bw Bf Be ao cap 0 (64 * ws.length) B0 w' ∧ B0 ≤ w'.heap.size ∧ w.heap.size ≤ Bw ∧ w.heap.size ≤ Bf ∧ w.heap.size ≤ Be ∧ (∀ b off, ao = some ⟨b, off, none⟩ → w.heap.size ≤ b) ∧ Below w.heap.size w w' := by
  have hl : ws.length ≤ 16384 := by have := h.len; have := h.bd; omega
  have hp := h.ltp
  have hH := held_anyI p g bound n ws w h
  have hC := cloneU_any g ws.length ws w (by omega) h.reads h.ltg
  clear h
  go_enter Tryd.func19, Tryd.ntmps19
  go_wp2_with (first
    | (go_at_call 42; with_reducible refine hH.mono ?_; rintro e w1 ⟨rfl, hw1⟩; subst hw1)
    | (go_at_call 45; with_reducible refine hC.mono ?_; rintro e w2 ⟨v, rfl, ho2, hq2⟩; have ho3 := ho2; obtain ⟨ao, cap, rfl, hws⟩ := own_ws ho2; have hA := withinint_any ao ws.length cap 0 ((ws.length : Int) * 64) w2)
    | (go_at_call 46; with_reducible refine hA.mono ?_; rintro e w3 ⟨rfl, hw3⟩))
  go_ret
  subst hw3
  have hz := hq2.size
  refine ⟨w2.heap.size, w2.heap.size + 1, w2.heap.size + 2, ao, cap, w2.heap.size, rfl, ⟨((Boxed.new w2 _ _).alloc _).alloc _, ?_, ?_, hws.below (((Below.refl _ w2).alloc (Nat.le_refl _) _).alloc (by simp) _ |>.alloc (by simp; omega) _), (hT.below hq2 (by omega)).below (((Below.refl _ w2).alloc (Nat.le_refl _) _).alloc (by simp) _ |>.alloc (by simp; omega) _) (by omega)⟩, by simp; omega, hz, by omega, by omega, ?_, ((hq2.alloc hz _).alloc (by simp; omega) _).alloc (by simp; omega) _⟩
  · have := (Boxed.new (w2.alloc (.cells #[.slice ao ws.length cap] 43)) 3 (.int .i64 0)).alloc (.cells #[.int .i64 ((ws.length : Int) * 64)] 3)
    rw [World.size_alloc] at this
    exact this
  · have := Boxed.new ((w2.alloc (.cells #[.slice ao ws.length cap] 43)).alloc (.cells #[.int .i64 0] 3)) 3 (.int .i64 ((ws.length : Int) * 64))
    rw [World.size_alloc, World.size_alloc] at this
    rw [show ((64 * ws.length : Nat) : Int) = (ws.length : Int) * 64 by omega]
    exact this
  · rintro b off rfl
    exact (ho3.lt b rfl).1
end Go.Proofs.YtnlfgijmkgihcaaDoor
