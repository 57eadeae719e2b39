import Derived.Test.YtacfiecobdbjaaaLNumS
import Derived.Laws.AppendOwnNone
namespace Go.Proofs.Ytacfiecobdbjaaa
open Go.RowKit

theorem wpList_append_q {w : World} {ops : Array Oper} {rest : List Oper} {o : Oper} {a : Act} {Q : Exit → Act → World → Prop} (hgd : o.guard = none) (s x : Operand)
    (ho : o.op = .call { callee := .builtin .append, args := #[s, x], argTypes := #[25, 25] })
    (base : Nat) (i : TypeInfo) (hi : Try.prog.info? 27 = some i) (hz : i.zero = some (.int .u64 0)) (hsize : i.size = 1) (hby : i.bytes = 8)
    (v : Value) (n : Nat) (xs : List Value) (hs : a.eval s = v) (hown : w.ownsRow base 27 1 v n xs)
    (no : Option Addr) (nc : Nat) (ns : List Int) (hx : a.eval x = .slice no ns.length nc) (hnil : no = none → ns = [] ∧ nc = 0) (hr : ReadsK w .u64 no ns w.heap.size)
    (hbytes : n + ns.length ≤ 16777216) (hbase : base ≤ w.heap.size)
    (h : ∀ v' w', w'.ownsRow base 27 1 v' (n + ns.length) (xs ++ bk .u64 ns) → w.grownBy w' v.ownBlock → wpList Try.prog ops Q rest (a.put o.dst v') w') :
    wpList Try.prog ops Q (o :: rest) a w := by
  cases no with
  | none =>
    obtain ⟨rfl, rfl⟩ := hnil rfl
    refine wpList_append_own_none hgd s x 25 ho base 27 i 1 Try.underlying25 hi v n xs hs hown hx ?_
    exact h v w (by simpa [bk] using hown) (World.grownBy.refl _ _)
  | some ad =>
    refine wpList_append_own w hgd s x 25 ho base 27 i (.int .u64 0) 1 8 Try.underlying25 hi hz hsize hby rfl (by decide) v n xs hs hown ad ns.length nc (bk .u64 ns) hx (by simp [bk]) ?_ ?_ (by unfold maxLen; omega) (by omega) hbase (fun v' w' h1 h2 _ => h v' w' h1 h2)
    · intro j u hj
      have hjl : j < ns.length := by
        have := (List.getElem?_eq_some_iff.1 hj).1
        simpa [bk] using this
      obtain ⟨b, off, e, hlt, hc⟩ := hr (by omega)
      simp only [Option.some.injEq] at e
      subst e
      rw [Go.WideShapes.add_plain, hc j hjl]
      simp [bk, hjl] at hj
      simp [hjl, hj]
    · intro u hu
      simp [bk] at hu
      obtain ⟨z, _, rfl⟩ := hu
      rfl

structure OCs (w : World) (so : Nat) (C : Int) (no : Option Addr) (nl nc : Nat) (oo : Option Addr) (zl oc : Nat) (A X : Int) : Prop where
  c0 : w.cell? ⟨so, 0, none⟩ = some (.int .i64 C)
  c2 : w.cell? ⟨so, 2, none⟩ = some (.slice no nl nc)
  c3 : w.cell? ⟨so, 3, none⟩ = some (.slice oo zl oc)
  c4 : w.cell? ⟨so, 4, none⟩ = some (.int .i64 A)
  c5 : w.cell? ⟨so, 5, none⟩ = some (.int .u64 X)
theorem OCs.below {w w' : World} {so B : Nat} {C : Int} {no : Option Addr} {nl nc : Nat} {oo : Option Addr} {zl oc : Nat} {A X : Int} (h : OCs w so C no nl nc oo zl oc A X) (hb : Below B w w') (hlt : so < B) : OCs w' so C no nl nc oo zl oc A X :=
  ⟨(hb.cell (p := ⟨so, 0, none⟩) hlt).trans h.c0, (hb.cell (p := ⟨so, 2, none⟩) hlt).trans h.c2, (hb.cell (p := ⟨so, 3, none⟩) hlt).trans h.c3, (hb.cell (p := ⟨so, 4, none⟩) hlt).trans h.c4, (hb.cell (p := ⟨so, 5, none⟩) hlt).trans h.c5⟩
theorem OCs.grown {w w' : World} {so : Nat} {row : Option Nat} {C : Int} {no : Option Addr} {nl nc : Nat} {oo : Option Addr} {zl oc : Nat} {A X : Int} (h : OCs w so C no nl nc oo zl oc A X) (hg : w.grownBy w' row) (hne : row ≠ some so) : OCs w' so C no nl nc oo zl oc A X :=
  ⟨hg.cell h.c0 (fun e => hne e.symm), hg.cell h.c2 (fun e => hne e.symm), hg.cell h.c3 (fun e => hne e.symm), hg.cell h.c4 (fun e => hne e.symm), hg.cell h.c5 (fun e => hne e.symm)⟩
theorem OCs.alloc {w : World} {so : Nat} {C : Int} {no : Option Addr} {nl nc : Nat} {oo : Option Addr} {zl oc : Nat} {A X : Int} (h : OCs w so C no nl nc oo zl oc A X) (hlt : so < w.heap.size) (o : Obj) : OCs (w.alloc o) so C no nl nc oo zl oc A X :=
  h.below ((Below.refl w.heap.size w).alloc (Nat.le_refl _) o) hlt
theorem cuts_cons (w : Nat) (x : Int) (xs : List Int) : cuts w (x :: xs) = x % 256 ^ w :: cuts w xs := rfl

theorem readsK_tail {w : World} {B g n c : Nat} {y : Int} {ys : List Int} (h : w.ownsRow B 27 1 (.slice (some ⟨g, 0, none⟩) n c) n (bk .u64 (y :: ys))) : ReadsK w .u64 (some ⟨g, 1, none⟩) ys w.heap.size := by
  intro _
  refine ⟨g, 1, rfl, (h.lt g rfl).2, fun j hj => ?_⟩
  have := own_getK h (i := 1 + j) (by simp; omega)
  rw [this, Nat.add_comm 1 j, List.getD_cons_succ]

set_option maxRecDepth 100000 in
set_option maxHeartbeats 60000000 in
theorem numbers_law (ao : Option Addr) (N cap : Nat) (S : Nat → NOp) (W : World) (hN : N ≤ 1048576) (hS : NScript W ao N S) :
    Calls Try.prog 3 #[.slice ao N cap] W fun e w' => e = .returned (.bool true) ∧ Below W.heap.size W w' := by
  obtain ⟨j0, hj, hy0, hy1, hy2⟩ := info_parts Try.infoL
  obtain ⟨q0, hqi, hq0, hq1, hq2⟩ := info_parts Try.infoQ
  have HSc : Hid (NScript W ao N S) := hS
  clear hS
  go_enter Try.func3, Try.ntmps3
  go_wp2_with fail
  refine (lives_any W).mono ?_
  rintro e w0 ⟨rfl, hb0⟩
  go_wp2_with fail
  go_loopw [3, 4, 5] (fun kv qv i wr => ∃ (t n : Nat) (lo : Option Addr) (lc : Nat) (wo : Option Addr) (wc : Nat) (vals wv : Nat → Value) (Z : Nat → List Int), t ≤ N ∧ i = .int .i64 t ∧ kv = .slice lo n lc ∧ qv = .slice wo n wc ∧ n ≤ 2 * t ∧ (∀ i, i < n → (Z i).length ≤ 8388608) ∧ KW wr W.heap.size lo lc wo wc n vals wv Z ∧ Below W.heap.size W wr)
    (fun _ _ i _ => N - (intOf i).toNat)
  case atStart =>
    refine ⟨0, 0, none, 0, none, 0, fun _ => .slice none 0 0, fun _ => .slice none 0 0, fun _ => [], Nat.zero_le _, rfl, rfl, rfl, Nat.zero_le _, fun i hi => absurd hi (Nat.not_lt_zero _), ⟨⟨World.ownsRow_nil _ _ _ _, fun i hi => absurd hi (Nat.not_lt_zero _), fun i j hi => absurd hi (Nat.not_lt_zero _)⟩, World.ownsRow_nil _ _ _ _, fun i hi => absurd hi (Nat.not_lt_zero _), .inl rfl⟩, hb0⟩
  case round =>
    clear hb0
    obtain ⟨t, n, lo, lc, wo, wc, vals, wv, Z, ht, rfl, rfl, rfl, hn2, hZl, hK, hb⟩ := hrel
    have HK : Hid (KW wr W.heap.size lo lc wo wc n vals wv Z) := hK
    have HZL : Hid (∀ i, i < n → (Z i).length ≤ 8388608) := hZl
    clear hK hZl
    have hB0 := hb.size
    by_cases hlt : t < N
    · obtain ⟨b, off, rfl, hbl, hAt, hOk⟩ := HSc.out t hlt
      generalize S t = op at hAt hOk
      obtain ⟨C, Wd, no, nc, ns, oo, oc, zs, A, X⟩ := op
      have c0 : wr.cell? ⟨b, off + t * 6, none⟩ = some (.int .i64 C) := (hb.cell (p := ⟨b, off + t * 6, none⟩) hbl).trans hAt.c0
      have c1 : wr.cell? ⟨b, off + t * 6 + 1, none⟩ = some (.int .i64 Wd) := (hb.cell (p := ⟨b, off + t * 6 + 1, none⟩) hbl).trans hAt.c1
      have c2 : wr.cell? ⟨b, off + t * 6 + 2, none⟩ = some (.slice no ns.length nc) := (hb.cell (p := ⟨b, off + t * 6 + 2, none⟩) hbl).trans hAt.c2
      have c3 : wr.cell? ⟨b, off + t * 6 + 3, none⟩ = some (.slice oo zs.length oc) := (hb.cell (p := ⟨b, off + t * 6 + 3, none⟩) hbl).trans hAt.c3
      have c4 : wr.cell? ⟨b, off + t * 6 + 4, none⟩ = some (.int .i64 A) := (hb.cell (p := ⟨b, off + t * 6 + 4, none⟩) hbl).trans hAt.c4
      have c5 : wr.cell? ⟨b, off + t * 6 + 5, none⟩ = some (.int .u64 X) := (hb.cell (p := ⟨b, off + t * 6 + 5, none⟩) hbl).trans hAt.c5
      obtain ⟨hnl, hzl, hnw, hzw, hnn, hnr, hzr, hA, hX⟩ := hOk
      simp only at hnl hzl hnw hzw hnn hnr hzr hA hX
      have HNW : Hid (∀ z ∈ ns, 0 ≤ z ∧ z < 18446744073709551616) := hnw
      have HZW : Hid (∀ z ∈ zs, 0 ≤ z ∧ z ≤ 255) := hzw
      have HNN : Hid (no = none → ns = [] ∧ nc = 0) := hnn
      clear hAt hnw hzw hnn
      have hbA := hb.alloc hB0 (.cells #[.int .i64 C, .int .i64 Wd, .slice no ns.length nc, .slice oo zs.length oc, .int .i64 A, .int .u64 X] 29)
      have hbA' : Below wr.heap.size wr (wr.alloc (.cells #[.int .i64 C, .int .i64 Wd, .slice no ns.length nc, .slice oo zs.length oc, .int .i64 A, .int .u64 X] 29)) := (Below.refl _ _).alloc (Nat.le_refl _) _
      have hwc := wd_cases Wd
      have hwd := width_any Wd
      generalize wd Wd = w at hwc hwd
      have hw8 : w ≤ 8 := by omega
      have hw1 : 1 ≤ w := by omega
      have hpp := pow256_pos w
      have hle := lent_any oo oc zs _ (by omega) ((hzr.below hbA).mono hbA.size)
      have hOA : OCs (wr.alloc (.cells #[.int .i64 C, .int .i64 Wd, .slice no ns.length nc, .slice oo zs.length oc, .int .i64 A, .int .u64 X] 29)) wr.heap.size C no ns.length nc oo zs.length oc A X := ⟨by simp, by simp, by simp, by simp, by simp⟩
      have hszA : (wr.alloc (.cells #[.int .i64 C, .int .i64 Wd, .slice no ns.length nc, .slice oo zs.length oc, .int .i64 A, .int .u64 X] 29)).heap.size = wr.heap.size + 1 := by simp
      have hKA := HK.out.below hbA'
      go_wp2_with (go_at_call 7; with_reducible refine (hwd _).mono ?_; rintro e wq ⟨rfl, hq⟩; subst wq)
      generalize wr.alloc _ = wA at *
      with_reducible refine hle.mono ?_
      rintro e w1 ⟨v, rfl, own1, hb1⟩
      obtain ⟨g, cf, rfl, hcf⟩ := own_form own1 (by omega)
      have hgl := own1.lt g rfl
      have hz1 := hb1.size
      have hcfI : (zs.length : Int) ≤ (cf : Int) := by omega
      have hO1 := hOA.below hb1 (by omega)
      have hK1 := hKA.below hb1
      have hbA1 := hbA.trans (hb1.mono hbA.size)
      have k2 := hO1.c2
      have k3 := hO1.c3
      have k5 := hO1.c5
      have own2 := World.ownsRow_lit (size := 1) (base := w1.heap.size) (e := 27) w1 #[.int .u64 X] 1 (Nat.le_refl _) (by decide) rfl
      have hbL : Below w1.heap.size w1 (w1.alloc (.cells #[.int .u64 X] 27)) := (Below.refl _ _).alloc (Nat.le_refl _) _
      have hnr1 : ReadsK (w1.alloc (.cells #[.int .u64 X] 27)) .u64 no ns (w1.alloc (.cells #[.int .u64 X] 27)).heap.size := (((hnr.below hbA1).mono hbA1.size).below hbL).mono hbL.size
      have k2L := (hO1.alloc (by omega) (.cells #[.int .u64 X] 27)).c2
      clear hle hKA hOA
      go_wp2_with (at_builtin; refine wpList_append_q rfl _ _ rfl w1.heap.size q0 hqi hq0 hq1 hq2 _ 1 [.int .u64 X] rfl own2 no nc ns rfl HNN.out hnr1 ?ha1 ?ha2 ?_)
      case ha1 => omega
      case ha2 => simp
      intro v2 w2 own3 hg2
      have hb2 : Below w1.heap.size w1 w2 := hbL.grown hg2 (by simp) (fun k e => by simp [Value.ownBlock] at e; omega)
      have own3' : w2.ownsRow w1.heap.size 27 1 v2 (X :: ns).length (bk .u64 (X :: ns)) := by
        rw [List.length_cons, Nat.add_comm]; exact own3
      obtain ⟨a2, cq, rfl, hcq, hr2⟩ := own_readsK own3'
      have hz2 := hb2.size
      have hcu := cut_any w hwc a2 cq (X :: ns) w2 (by simp; omega) (by intro z hz; rcases List.mem_cons.1 hz with rfl | hz; exact hX; exact HNW.out z hz) hr2
      rw [cuts_cons] at hcu
      have hcl : (X :: ns).length = ns.length + 1 := rfl
      rw [hcl] at hcu
      have hcl2 : 1 + ns.length = ns.length + 1 := Nat.add_comm _ _
      have hl1 : (cuts w ns).length = ns.length := by simp [cuts]
      have hcr := cuts_range w ns
      obtain ⟨y, hy⟩ : ∃ y, y = X % 256 ^ w := ⟨_, rfl⟩
      have hyr : 0 ≤ y ∧ y < 256 ^ w := by rw [hy]; exact ⟨Int.emod_nonneg _ (by omega), Int.emod_lt_of_pos _ hpp⟩
      have hpw : (256 : Int) ^ w ≤ 18446744073709551616 := by rcases hwc with rfl | rfl | rfl | rfl <;> decide
      rw [← hy] at hcu
      generalize cuts w ns = ys at hcu hl1 hcr
      have HL1 : Hid (ys.length = ns.length) := hl1
      have hK2 := hK1.below hb2
      have hO2 := hO1.below hb2 (by omega)
      have hf2 := own_below own1 hb2
      have hbA2 := hbA1.trans (hb2.mono hbA1.size)
      clear own2 own3 own3' hg2 hbL hnr1 hK1 hO1 own1 hl1 hy k2 k3 k5 hr2 hcl k2L
      go_wp2_with fail
      with_reducible refine hcu.mono ?_
      rintro e w3 ⟨v3, rfl, own3, hb3⟩
      obtain ⟨g3, cx3, rfl, hcx3⟩ := own_form own3 (by omega)
      have hz3 := hb3.size
      have hK3 := hK2.below hb3
      have hO3 := hO2.below hb3 (by omega)
      have hf3 := own_below hf2 hb3
      have hb3W := hbA2.trans (hb3.mono hbA2.size)
      have hzf : Reads w3 (some ⟨g, 0, none⟩) zs w3.heap.size := reads_own hf3 (by simp)
      have kC := hO3.c0
      have hKlt : ∀ i, i < n → (vals i).ownBlock ≠ some g ∧ (wv i).ownBlock ≠ some g := fun i hi => ⟨own_lt_ne (HK.out.own.each i hi) (by omega), own_lt_ne (HK.out.weach i hi) (by omega)⟩
      have hgw : g < w3.heap.size := by omega
      clear hcu hK2 hO2 hf2
      by_cases hC0 : C = 0
      · subst hC0
        by_cases hc1 : cx3 = 1
        · subst hc1
          have HN0 : Hid (ns.length = 0) := by show ns.length = 0; omega
          have hrd : ReadsK w3 .u64 (some ⟨g3, 0, none⟩) ys w3.heap.size := fun hp => by rw [HL1.out] at hp; have := HN0.out; omega
          have HL2 : Hid (ys.length = 0) := by rw [HL1.out]; exact HN0.out
          have hmL : 0 * w ≤ 8388608 := by omega
          have hrp := rput_any w 0 hw1 hw8 (some ⟨g3, 0, none⟩) 0 ys w3 HL2.out (by omega) (fun z hz => by have := hcr z hz; omega) hrd
          have hpv : ∀ W', Below w3.heap.size w3 W' → Calls Try.prog 11 #[.int .i64 w, .slice (some ⟨g3, 0, none⟩) 0 0] W' fun e w' => ∃ v, e = .returned (.tuple #[v, .bool true]) ∧ w'.ownsRow W'.heap.size 5 1 v (0 * w) (bv (puts w ys 0)) ∧ Below W'.heap.size W' w' := fun W' hb' => putv_any w hwc (some ⟨g3, 0, none⟩) 0 0 ys W' HL2.out (by omega) hcr ((ReadsK.below hrd hb').mono hb'.size)
          have HLm : Hid ((puts w ys 0).length = 0 * w) := puts_len w ys 0 (by rw [HL2.out]; exact Nat.le_refl _)
          generalize puts w ys 0 = L at hrp hpv HLm
          obtain ⟨m, hm⟩ : ∃ m, m = 0 * w := ⟨_, rfl⟩
          rw [← hm] at hrp hpv HLm hmL
          clear hm
          go_wp2_with fail
          with_reducible refine hrp.mono ?_
          rintro e w4 ⟨v4, rfl, own4, hb4⟩
          go_wp2_with fail
          with_reducible refine (hpv w4 hb4).mono ?_
          rintro e w5 ⟨v5, rfl, own5, hb5⟩
          go_wp2_with fail
          with_reducible refine (hpv w5 (hb4.trans (hb5.mono hb4.size))).mono ?_
          rintro e w6 ⟨v6, rfl, own6, hb6⟩
          clear hrp hpv
          obtain ⟨xa, xca, rfl⟩ := own_form0' own5
          obtain ⟨xb, xcb, rfl⟩ := own_form0' own6
          obtain ⟨xq, xcq, rfl⟩ := own_form0' own4
          have hz4 := hb4.size
          have hz5 := hb5.size
          have hz6 := hb6.size
          have hb36 : Below w3.heap.size w3 w6 := hb4.trans ((hb5.trans (hb6.mono hz5)).mono hz4)
          have hK6 := hK3.below hb36
          have hO6 := hO3.below hb36 (by omega)
          have hf6 := own_below hf3 hb36
          have hb6W := hb3W.trans (hb36.mono hb3W.size)
          have hB6 := hb6W.size
          have ha6 := own_monoB (own_below own5 hb6) (show W.heap.size ≤ w4.heap.size by omega)
          have hbb6 := own_monoB own6 (show W.heap.size ≤ w5.heap.size by omega)
          have hq6 := own_monoB (own_below own4 (hb5.trans (hb6.mono hz5))) (show W.heap.size ≤ w3.heap.size by omega)
          have hab6 : Apt (.slice xa m xca) (.slice xb m xcb) := Apt.later own5 own6 (Nat.le_refl _)
          have hva6 : ∀ i, i < n → Apt (vals i) (.slice xa m xca) := fun i hi => Apt.later (HK.out.own.each i hi) own5 (by omega)
          have hvb6 : ∀ i, i < n → Apt (vals i) (.slice xb m xcb) := fun i hi => Apt.later (HK.out.own.each i hi) own6 (by omega)
          have na : (Value.slice xa m xca).ownBlock ≠ some g := own_ge_ne own5 (by omega)
          have nb' : (Value.slice xb m xcb).ownBlock ≠ some g := own_ge_ne own6 (by omega)
          have nq' : (Value.slice xq m xcq).ownBlock ≠ some g := own_ge_ne own4 (by omega)
          clear own4 own5 own6 hb4 hb5 hb6 hK3 hO3 hf3 hzf kC
          go_wp2_with (at_builtin; refine wpList_append_lies _ rfl _ _ 24 rfl W.heap.size 26 j0 (.slice none 0 0) 1 24 Try.underlying24 hj hy0 hy1 hy2 rfl (by decide) _ n ((List.range n).map vals) rfl (hK6.own.row.alloc _) ⟨_, 0, none⟩ 2 2 [.slice xa m xca, .slice xb m xcb] rfl rfl ?x1 ?x2 (by decide) ?x3 ?x4 ?x5 (w6.heap.size + 1) (by simp) ?_)
          case x1 =>
            intro j u hj
            match j, hj with
            | 0, hj => simp at hj; subst hj; simp [Addr.add]
            | 1, hj => simp at hj; subst hj; simp [Addr.add]
            | (j + 2), hj => simp at hj
          case x2 => intro u hu; simp at hu; rcases hu with rfl | rfl <;> rfl
          case x3 => unfold maxLen; omega
          case x4 => omega
          case x5 => simp; omega
          intro g7 c7 w7 own7 hg7 hor7 _
          have hne7 : (Value.slice lo n lc).ownBlock ≠ some wr.heap.size := own_lt_ne HK.out.own.row (Nat.le_refl _)
          have hne8 : (Value.slice wo n wc).ownBlock ≠ some wr.heap.size := own_lt_ne HK.out.wrow (Nat.le_refl _)
          have hwr7 := (hK6.wrow.alloc _).kept hg7 (Apt.of hK6.sep).symm.l
          have hO7 := (hO6.alloc (by omega) _).grown hg7 hne7
          have hf7 := (hf6.alloc _).kept hg7 (rows_type (e := 5) (e' := 26) (by decide) hf6 hK6.own.row)
          have hb7W := grown_below hb6W hB6 hK6.own.row hg7
          have hz7 : w6.heap.size ≤ w7.heap.size := Nat.le_trans (by simp) hg7.size
          go_wp2_with (at_builtin; refine wpList_append_lies _ rfl _ _ 24 rfl W.heap.size 26 j0 (.slice none 0 0) 1 24 Try.underlying24 hj hy0 hy1 hy2 rfl (by decide) _ n ((List.range n).map wv) rfl (hwr7.alloc _) ⟨_, 0, none⟩ 2 2 [.slice xq m xcq, .slice xq m xcq] rfl rfl ?z1 ?z2 (by decide) ?z3 ?z4 ?z5 (w7.heap.size + 1) (by simp) ?_)
          case z1 =>
            intro j u hj
            match j, hj with
            | 0, hj => simp at hj; subst hj; simp [Addr.add]
            | 1, hj => simp at hj; subst hj; simp [Addr.add]
            | (j + 2), hj => simp at hj
          case z2 => intro u hu; simp at hu; subst hu; rfl
          case z3 => unfold maxLen; omega
          case z4 => omega
          case z5 => simp; omega
          intro g8 c8 wt own8 hg8 hor8 _
          have hKt := kw_ext (L := L) hK6 (by rw [HLm.out]; exact ha6) (by rw [HLm.out]; exact hbb6) (by rw [HLm.out]; exact hq6) hab6 hva6 hvb6 own7 hg7 hor7 own8 hg8 hor8
          have hOt := (hO7.alloc (by omega) _).grown hg8 hne8
          have hft := (hf7.alloc _).kept hg8 (rows_type (e := 5) (e' := 26) (by decide) hf7 hwr7)
          have hbt : Below W.heap.size W wt := grown_below hb7W hb7W.size hwr7 hg8
          have hz8 : w7.heap.size ≤ wt.heap.size := Nat.le_trans (by simp) hg8.size
          have hsot : wr.heap.size < wt.heap.size := by omega
          have hnet : ∀ i, i < n + 2 → (ext vals n (.slice xa m xca) (.slice xb m xcb) i).ownBlock ≠ some g ∧ (ext wv n (.slice xq m xcq) (.slice xq m xcq) i).ownBlock ≠ some g := fun i hi => ⟨ext_ne (fun i hi => (hKlt i hi).1) na nb' i hi, ext_ne (fun i hi => (hKlt i hi).2) nq' nq' i hi⟩
          have hnt : n + 2 ≤ 2 * (t + 1) := by omega
          have hZt := extZ_le HZL.out (show L.length ≤ 8388608 by rw [HLm.out]; exact hmL)
          clear hK6 hO6 hf6 ha6 hbb6 hq6 hab6 hva6 hvb6 na nb' nq' own7 hg7 hor7 hwr7 hO7 hf7 own8 hg8 hor8
          have hkp := kept_any oo oc zs g cf wt (by omega) ((hzr.below hbt).mono hbt.size) (fun i hi => own_get hft (by simpa [marks_len] using hi))
          have k3 := hOt.c3
          have hzt := hbt.size
          go_wp2_with fail
          with_reducible refine hkp.mono ?_
          rintro e wk ⟨rfl, mk1, hqk⟩
          have hbk : Below wt.heap.size wt wk := by rw [hqk]; exact below_drewN (Below.refl _ _) _
          have hfk := own_below hft hbk
          have hKk := hKt.below hbk
          have hOk2 := hOt.below hbk hsot
          have hbtk := hbt.trans (hbk.mono hzt)
          have hszk : wk.heap.size = wt.heap.size := by rw [hqk]; rfl
          have hov := over_any g cf zs.length (zs.length + 64) wA.heap.size (zs ++ marks 0 64) wk (by omega) (by omega) (by simp [marks_len]) hfk
          clear hkp hqk k3 hft hKt hOt
          go_wp2_with fail
          with_reducible refine hov.mono ?_
          rintro e wv2 ⟨rfl, hfv, hbv, hszv, hgv⟩
          have hKv := hKk.over hfk hgv hnet
          have hOv := hOk2.grown hgv (by intro e; simp only [Option.some.injEq] at e; omega)
          have hbtv := hbtk.trans (hbv.mono (by omega))
          have hrv : Reads wv2 (some ⟨g, 0, none⟩) (marks (-1) zs.length) wv2.heap.size := reads_own hfv (by rw [marks_len, List.take_append, marks_len, Nat.sub_self, List.take_zero, List.append_nil, List.take_of_length_le (by rw [marks_len]; exact Nat.le_refl _)])
          have hml := marks_len (-1) zs.length
          have hln : Calls Try.prog 8 #[.slice (some ⟨g, 0, none⟩) zs.length cf] wv2 fun e w' => ∃ v, e = .returned v ∧ w'.ownsRow wv2.heap.size 5 1 v (zs.length + 64) (bv (marks (-1) zs.length ++ marks 0 64)) ∧ Below wv2.heap.size wv2 w' := by
            have := lent_any (some ⟨g, 0, none⟩) cf (marks (-1) zs.length) wv2 (by rw [hml]; omega) hrv
            rwa [hml] at this
          have HML : Hid ((marks (-1) zs.length).length = zs.length) := hml
          clear hov hfk hKk hOk2 hml hgv hnet
          go_wp2_with fail
          with_reducible refine hln.mono ?_
          rintro e wx ⟨vx2, rfl, ownx, hbx⟩
          obtain ⟨gx, cx, rfl, hcx⟩ := own_form ownx (by omega)
          have hcxI : (zs.length : Int) ≤ (cx : Int) := by omega
          have hszx := hbx.size
          have hKx := hKv.below hbx
          have hOx := hOv.below hbx (by omega)
          have hbtx := hbtv.trans (hbx.mono (by have := hbtv.size; omega))
          have hrx := (hrv.below hbx).mono hszx
          have hrx2 : Reads wx (some ⟨gx, 0, none⟩) (marks (-1) zs.length) wx.heap.size := reads_own ownx (by rw [List.take_append, Nat.sub_self, List.take_zero, List.append_nil, List.take_length])
          have hal := alls_any w hwc (some ⟨g, 0, none⟩) zs.length cf (marks (-1) zs.length) wx HML.out (by omega) (by omega) (marks_wf _ _) hrx
          clear hln hrv ownx hKv hOv
          go_wp2_with fail
          with_reducible refine hal.mono ?_
          rintro e wy ⟨rfl, hby⟩
          have hszy := hby.size
          have hKy := hKx.below hby
          have hOy := hOx.below hby (by omega)
          have hbty := hbtx.trans (hby.mono (by have := hbtx.size; omega))
          have k4 := hOy.c4
          have hat := ats_any w hwc (some ⟨g, 0, none⟩) zs.length cf (marks (-1) zs.length) A wy HML.out (by omega) (by omega) (marks_wf _ _) ((hrx.below hby).mono hszy) hA.1 hA.2
          have hsm := same_n zs.length zs.length (some ⟨g, 0, none⟩) (some ⟨gx, 0, none⟩) cf cx (marks (-1) zs.length) (marks (-1) zs.length) wy HML.out HML.out (by omega) ((hrx.below hby).mono hszy) ((hrx2.below hby).mono hszy)
          rw [decide_eq_true rfl] at hsm
          clear hal hrx hrx2 hKx hOx
          go_wp2_with fail
          with_reducible refine hat.mono ?_
          rintro e wq ⟨rfl, hq⟩
          subst wq
          go_wp2_with fail
          with_reducible refine hsm.mono ?_
          rintro e wz ⟨rfl, mz, hqz⟩
          have hbz : Below wy.heap.size wy wz := by rw [hqz]; exact below_drewN (Below.refl _ _) _
          have hKz := hKy.below hbz
          have hbtz := hbty.trans (hbz.mono hbty.size)
          clear hat hsm hqz hKy k4
          go_wp2_with fail
          go_roundw
          case rel => exact ⟨t + 1, _, _, _, _, _, _, _, _, by omega, by go_num, rfl, rfl, hnt, hZt, hKz, hbtz⟩
          case measure => simp [intOf]; omega
        · have hc1' : ¬ 1 = cx3 := by omega
          have hcI : (1 : Int) ≤ (ns.length : Int) + 1 := by omega
          have hrd := readsK_tail own3
          have hmL : ns.length * w ≤ 8388608 := Nat.le_trans (Nat.mul_le_mul (show ns.length ≤ 1048576 by omega) hw8) (by decide)
          have hrp := rput_any w ns.length hw1 hw8 (some ⟨g3, 1, none⟩) (cx3 - 1) ys w3 HL1.out (by omega) (fun z hz => by have := hcr z hz; omega) hrd
          have hpv : ∀ W', Below w3.heap.size w3 W' → Calls Try.prog 11 #[.int .i64 w, .slice (some ⟨g3, 1, none⟩) ns.length (cx3 - 1)] W' fun e w' => ∃ v, e = .returned (.tuple #[v, .bool true]) ∧ w'.ownsRow W'.heap.size 5 1 v (ns.length * w) (bv (puts w ys ns.length)) ∧ Below W'.heap.size W' w' := fun W' hb' => putv_any w hwc (some ⟨g3, 1, none⟩) ns.length (cx3 - 1) ys W' HL1.out (by omega) hcr ((ReadsK.below hrd hb').mono hb'.size)
          have HLm : Hid ((puts w ys ns.length).length = ns.length * w) := puts_len w ys ns.length (by rw [HL1.out]; exact Nat.le_refl _)
          generalize puts w ys ns.length = L at hrp hpv HLm
          obtain ⟨m, hm⟩ : ∃ m, m = ns.length * w := ⟨_, rfl⟩
          rw [← hm] at hrp hpv HLm hmL
          clear hm
          go_wp2_with fail
          with_reducible refine hrp.mono ?_
          rintro e w4 ⟨v4, rfl, own4, hb4⟩
          go_wp2_with fail
          with_reducible refine (hpv w4 hb4).mono ?_
          rintro e w5 ⟨v5, rfl, own5, hb5⟩
          go_wp2_with fail
          with_reducible refine (hpv w5 (hb4.trans (hb5.mono hb4.size))).mono ?_
          rintro e w6 ⟨v6, rfl, own6, hb6⟩
          clear hrp hpv
          obtain ⟨xa, xca, rfl⟩ := own_form0' own5
          obtain ⟨xb, xcb, rfl⟩ := own_form0' own6
          obtain ⟨xq, xcq, rfl⟩ := own_form0' own4
          have hz4 := hb4.size
          have hz5 := hb5.size
          have hz6 := hb6.size
          have hb36 : Below w3.heap.size w3 w6 := hb4.trans ((hb5.trans (hb6.mono hz5)).mono hz4)
          have hK6 := hK3.below hb36
          have hO6 := hO3.below hb36 (by omega)
          have hf6 := own_below hf3 hb36
          have hb6W := hb3W.trans (hb36.mono hb3W.size)
          have hB6 := hb6W.size
          have ha6 := own_monoB (own_below own5 hb6) (show W.heap.size ≤ w4.heap.size by omega)
          have hbb6 := own_monoB own6 (show W.heap.size ≤ w5.heap.size by omega)
          have hq6 := own_monoB (own_below own4 (hb5.trans (hb6.mono hz5))) (show W.heap.size ≤ w3.heap.size by omega)
          have hab6 : Apt (.slice xa m xca) (.slice xb m xcb) := Apt.later own5 own6 (Nat.le_refl _)
          have hva6 : ∀ i, i < n → Apt (vals i) (.slice xa m xca) := fun i hi => Apt.later (HK.out.own.each i hi) own5 (by omega)
          have hvb6 : ∀ i, i < n → Apt (vals i) (.slice xb m xcb) := fun i hi => Apt.later (HK.out.own.each i hi) own6 (by omega)
          have na : (Value.slice xa m xca).ownBlock ≠ some g := own_ge_ne own5 (by omega)
          have nb' : (Value.slice xb m xcb).ownBlock ≠ some g := own_ge_ne own6 (by omega)
          have nq' : (Value.slice xq m xcq).ownBlock ≠ some g := own_ge_ne own4 (by omega)
          clear own4 own5 own6 hb4 hb5 hb6 hK3 hO3 hf3 hzf kC
          go_wp2_with (at_builtin; refine wpList_append_lies _ rfl _ _ 24 rfl W.heap.size 26 j0 (.slice none 0 0) 1 24 Try.underlying24 hj hy0 hy1 hy2 rfl (by decide) _ n ((List.range n).map vals) rfl (hK6.own.row.alloc _) ⟨_, 0, none⟩ 2 2 [.slice xa m xca, .slice xb m xcb] rfl rfl ?x1 ?x2 (by decide) ?x3 ?x4 ?x5 (w6.heap.size + 1) (by simp) ?_)
          case x1 =>
            intro j u hj
            match j, hj with
            | 0, hj => simp at hj; subst hj; simp [Addr.add]
            | 1, hj => simp at hj; subst hj; simp [Addr.add]
            | (j + 2), hj => simp at hj
          case x2 => intro u hu; simp at hu; rcases hu with rfl | rfl <;> rfl
          case x3 => unfold maxLen; omega
          case x4 => omega
          case x5 => simp; omega
          intro g7 c7 w7 own7 hg7 hor7 _
          have hne7 : (Value.slice lo n lc).ownBlock ≠ some wr.heap.size := own_lt_ne HK.out.own.row (Nat.le_refl _)
          have hne8 : (Value.slice wo n wc).ownBlock ≠ some wr.heap.size := own_lt_ne HK.out.wrow (Nat.le_refl _)
          have hwr7 := (hK6.wrow.alloc _).kept hg7 (Apt.of hK6.sep).symm.l
          have hO7 := (hO6.alloc (by omega) _).grown hg7 hne7
          have hf7 := (hf6.alloc _).kept hg7 (rows_type (e := 5) (e' := 26) (by decide) hf6 hK6.own.row)
          have hb7W := grown_below hb6W hB6 hK6.own.row hg7
          have hz7 : w6.heap.size ≤ w7.heap.size := Nat.le_trans (by simp) hg7.size
          go_wp2_with (at_builtin; refine wpList_append_lies _ rfl _ _ 24 rfl W.heap.size 26 j0 (.slice none 0 0) 1 24 Try.underlying24 hj hy0 hy1 hy2 rfl (by decide) _ n ((List.range n).map wv) rfl (hwr7.alloc _) ⟨_, 0, none⟩ 2 2 [.slice xq m xcq, .slice xq m xcq] rfl rfl ?z1 ?z2 (by decide) ?z3 ?z4 ?z5 (w7.heap.size + 1) (by simp) ?_)
          case z1 =>
            intro j u hj
            match j, hj with
            | 0, hj => simp at hj; subst hj; simp [Addr.add]
            | 1, hj => simp at hj; subst hj; simp [Addr.add]
            | (j + 2), hj => simp at hj
          case z2 => intro u hu; simp at hu; subst hu; rfl
          case z3 => unfold maxLen; omega
          case z4 => omega
          case z5 => simp; omega
          intro g8 c8 wt own8 hg8 hor8 _
          have hKt := kw_ext (L := L) hK6 (by rw [HLm.out]; exact ha6) (by rw [HLm.out]; exact hbb6) (by rw [HLm.out]; exact hq6) hab6 hva6 hvb6 own7 hg7 hor7 own8 hg8 hor8
          have hOt := (hO7.alloc (by omega) _).grown hg8 hne8
          have hft := (hf7.alloc _).kept hg8 (rows_type (e := 5) (e' := 26) (by decide) hf7 hwr7)
          have hbt : Below W.heap.size W wt := grown_below hb7W hb7W.size hwr7 hg8
          have hz8 : w7.heap.size ≤ wt.heap.size := Nat.le_trans (by simp) hg8.size
          have hsot : wr.heap.size < wt.heap.size := by omega
          have hnet : ∀ i, i < n + 2 → (ext vals n (.slice xa m xca) (.slice xb m xcb) i).ownBlock ≠ some g ∧ (ext wv n (.slice xq m xcq) (.slice xq m xcq) i).ownBlock ≠ some g := fun i hi => ⟨ext_ne (fun i hi => (hKlt i hi).1) na nb' i hi, ext_ne (fun i hi => (hKlt i hi).2) nq' nq' i hi⟩
          have hnt : n + 2 ≤ 2 * (t + 1) := by omega
          have hZt := extZ_le HZL.out (show L.length ≤ 8388608 by rw [HLm.out]; exact hmL)
          clear hK6 hO6 hf6 ha6 hbb6 hq6 hab6 hva6 hvb6 na nb' nq' own7 hg7 hor7 hwr7 hO7 hf7 own8 hg8 hor8
          have hkp := kept_any oo oc zs g cf wt (by omega) ((hzr.below hbt).mono hbt.size) (fun i hi => own_get hft (by simpa [marks_len] using hi))
          have k3 := hOt.c3
          have hzt := hbt.size
          go_wp2_with fail
          with_reducible refine hkp.mono ?_
          rintro e wk ⟨rfl, mk1, hqk⟩
          have hbk : Below wt.heap.size wt wk := by rw [hqk]; exact below_drewN (Below.refl _ _) _
          have hfk := own_below hft hbk
          have hKk := hKt.below hbk
          have hOk2 := hOt.below hbk hsot
          have hbtk := hbt.trans (hbk.mono hzt)
          have hszk : wk.heap.size = wt.heap.size := by rw [hqk]; rfl
          have hov := over_any g cf zs.length (zs.length + 64) wA.heap.size (zs ++ marks 0 64) wk (by omega) (by omega) (by simp [marks_len]) hfk
          clear hkp hqk k3 hft hKt hOt
          go_wp2_with fail
          with_reducible refine hov.mono ?_
          rintro e wv2 ⟨rfl, hfv, hbv, hszv, hgv⟩
          have hKv := hKk.over hfk hgv hnet
          have hOv := hOk2.grown hgv (by intro e; simp only [Option.some.injEq] at e; omega)
          have hbtv := hbtk.trans (hbv.mono (by omega))
          have hrv : Reads wv2 (some ⟨g, 0, none⟩) (marks (-1) zs.length) wv2.heap.size := reads_own hfv (by rw [marks_len, List.take_append, marks_len, Nat.sub_self, List.take_zero, List.append_nil, List.take_of_length_le (by rw [marks_len]; exact Nat.le_refl _)])
          have hml := marks_len (-1) zs.length
          have hln : Calls Try.prog 8 #[.slice (some ⟨g, 0, none⟩) zs.length cf] wv2 fun e w' => ∃ v, e = .returned v ∧ w'.ownsRow wv2.heap.size 5 1 v (zs.length + 64) (bv (marks (-1) zs.length ++ marks 0 64)) ∧ Below wv2.heap.size wv2 w' := by
            have := lent_any (some ⟨g, 0, none⟩) cf (marks (-1) zs.length) wv2 (by rw [hml]; omega) hrv
            rwa [hml] at this
          have HML : Hid ((marks (-1) zs.length).length = zs.length) := hml
          clear hov hfk hKk hOk2 hml hgv hnet
          go_wp2_with fail
          with_reducible refine hln.mono ?_
          rintro e wx ⟨vx2, rfl, ownx, hbx⟩
          obtain ⟨gx, cx, rfl, hcx⟩ := own_form ownx (by omega)
          have hcxI : (zs.length : Int) ≤ (cx : Int) := by omega
          have hszx := hbx.size
          have hKx := hKv.below hbx
          have hOx := hOv.below hbx (by omega)
          have hbtx := hbtv.trans (hbx.mono (by have := hbtv.size; omega))
          have hrx := (hrv.below hbx).mono hszx
          have hrx2 : Reads wx (some ⟨gx, 0, none⟩) (marks (-1) zs.length) wx.heap.size := reads_own ownx (by rw [List.take_append, Nat.sub_self, List.take_zero, List.append_nil, List.take_length])
          have hal := alls_any w hwc (some ⟨g, 0, none⟩) zs.length cf (marks (-1) zs.length) wx HML.out (by omega) (by omega) (marks_wf _ _) hrx
          clear hln hrv ownx hKv hOv
          go_wp2_with fail
          with_reducible refine hal.mono ?_
          rintro e wy ⟨rfl, hby⟩
          have hszy := hby.size
          have hKy := hKx.below hby
          have hOy := hOx.below hby (by omega)
          have hbty := hbtx.trans (hby.mono (by have := hbtx.size; omega))
          have k4 := hOy.c4
          have hat := ats_any w hwc (some ⟨g, 0, none⟩) zs.length cf (marks (-1) zs.length) A wy HML.out (by omega) (by omega) (marks_wf _ _) ((hrx.below hby).mono hszy) hA.1 hA.2
          have hsm := same_n zs.length zs.length (some ⟨g, 0, none⟩) (some ⟨gx, 0, none⟩) cf cx (marks (-1) zs.length) (marks (-1) zs.length) wy HML.out HML.out (by omega) ((hrx.below hby).mono hszy) ((hrx2.below hby).mono hszy)
          rw [decide_eq_true rfl] at hsm
          clear hal hrx hrx2 hKx hOx
          go_wp2_with fail
          with_reducible refine hat.mono ?_
          rintro e wq ⟨rfl, hq⟩
          subst wq
          go_wp2_with fail
          with_reducible refine hsm.mono ?_
          rintro e wz ⟨rfl, mz, hqz⟩
          have hbz : Below wy.heap.size wy wz := by rw [hqz]; exact below_drewN (Below.refl _ _) _
          have hKz := hKy.below hbz
          have hbtz := hbty.trans (hbz.mono hbty.size)
          clear hat hsm hqz hKy k4
          go_wp2_with fail
          go_roundw
          case rel => exact ⟨t + 1, _, _, _, _, _, _, _, _, by omega, by go_num, rfl, rfl, hnt, hZt, hKz, hbtz⟩
          case measure => simp [intOf]; omega
      by_cases hC1 : C = 1
      · subst hC1
        have hal1 := alls_any w hwc (some ⟨g, 0, none⟩) zs.length cf zs w3 rfl (by omega) (by omega) HZW.out hzf
        go_wp2_with fail
        with_reducible refine hal1.mono ?_
        rintro e wt ⟨rfl, hbt3⟩
        have hzt3 := hbt3.size
        have hbt : Below W.heap.size W wt := hb3W.trans (hbt3.mono hb3W.size)
        have hKt := hK3.below hbt3
        have hOt := hO3.below hbt3 (by omega)
        have hft := own_below hf3 hbt3
        have hsot : wr.heap.size < wt.heap.size := by omega
        have hnet := hKlt
        have hnt : n ≤ 2 * (t + 1) := by omega
        have hZt := HZL.out
        clear hal1 hK3 hO3 hf3 hzf kC
        have hkp := kept_any oo oc zs g cf wt (by omega) ((hzr.below hbt).mono hbt.size) (fun i hi => own_get hft (by simpa [marks_len] using hi))
        have k3 := hOt.c3
        have hzt := hbt.size
        go_wp2_with fail
        with_reducible refine hkp.mono ?_
        rintro e wk ⟨rfl, mk1, hqk⟩
        have hbk : Below wt.heap.size wt wk := by rw [hqk]; exact below_drewN (Below.refl _ _) _
        have hfk := own_below hft hbk
        have hKk := hKt.below hbk
        have hOk2 := hOt.below hbk hsot
        have hbtk := hbt.trans (hbk.mono hzt)
        have hszk : wk.heap.size = wt.heap.size := by rw [hqk]; rfl
        have hov := over_any g cf zs.length (zs.length + 64) wA.heap.size (zs ++ marks 0 64) wk (by omega) (by omega) (by simp [marks_len]) hfk
        clear hkp hqk k3 hft hKt hOt
        go_wp2_with fail
        with_reducible refine hov.mono ?_
        rintro e wv2 ⟨rfl, hfv, hbv, hszv, hgv⟩
        have hKv := hKk.over hfk hgv hnet
        have hOv := hOk2.grown hgv (by intro e; simp only [Option.some.injEq] at e; omega)
        have hbtv := hbtk.trans (hbv.mono (by omega))
        have hrv : Reads wv2 (some ⟨g, 0, none⟩) (marks (-1) zs.length) wv2.heap.size := reads_own hfv (by rw [marks_len, List.take_append, marks_len, Nat.sub_self, List.take_zero, List.append_nil, List.take_of_length_le (by rw [marks_len]; exact Nat.le_refl _)])
        have hml := marks_len (-1) zs.length
        have hln : Calls Try.prog 8 #[.slice (some ⟨g, 0, none⟩) zs.length cf] wv2 fun e w' => ∃ v, e = .returned v ∧ w'.ownsRow wv2.heap.size 5 1 v (zs.length + 64) (bv (marks (-1) zs.length ++ marks 0 64)) ∧ Below wv2.heap.size wv2 w' := by
          have := lent_any (some ⟨g, 0, none⟩) cf (marks (-1) zs.length) wv2 (by rw [hml]; omega) hrv
          rwa [hml] at this
        have HML : Hid ((marks (-1) zs.length).length = zs.length) := hml
        clear hov hfk hKk hOk2 hml hgv hnet
        go_wp2_with fail
        with_reducible refine hln.mono ?_
        rintro e wx ⟨vx2, rfl, ownx, hbx⟩
        obtain ⟨gx, cx, rfl, hcx⟩ := own_form ownx (by omega)
        have hcxI : (zs.length : Int) ≤ (cx : Int) := by omega
        have hszx := hbx.size
        have hKx := hKv.below hbx
        have hOx := hOv.below hbx (by omega)
        have hbtx := hbtv.trans (hbx.mono (by have := hbtv.size; omega))
        have hrx := (hrv.below hbx).mono hszx
        have hrx2 : Reads wx (some ⟨gx, 0, none⟩) (marks (-1) zs.length) wx.heap.size := reads_own ownx (by rw [List.take_append, Nat.sub_self, List.take_zero, List.append_nil, List.take_length])
        have hal := alls_any w hwc (some ⟨g, 0, none⟩) zs.length cf (marks (-1) zs.length) wx HML.out (by omega) (by omega) (marks_wf _ _) hrx
        clear hln hrv ownx hKv hOv
        go_wp2_with fail
        with_reducible refine hal.mono ?_
        rintro e wy ⟨rfl, hby⟩
        have hszy := hby.size
        have hKy := hKx.below hby
        have hOy := hOx.below hby (by omega)
        have hbty := hbtx.trans (hby.mono (by have := hbtx.size; omega))
        have k4 := hOy.c4
        have hat := ats_any w hwc (some ⟨g, 0, none⟩) zs.length cf (marks (-1) zs.length) A wy HML.out (by omega) (by omega) (marks_wf _ _) ((hrx.below hby).mono hszy) hA.1 hA.2
        have hsm := same_n zs.length zs.length (some ⟨g, 0, none⟩) (some ⟨gx, 0, none⟩) cf cx (marks (-1) zs.length) (marks (-1) zs.length) wy HML.out HML.out (by omega) ((hrx.below hby).mono hszy) ((hrx2.below hby).mono hszy)
        rw [decide_eq_true rfl] at hsm
        clear hal hrx hrx2 hKx hOx
        go_wp2_with fail
        with_reducible refine hat.mono ?_
        rintro e wq ⟨rfl, hq⟩
        subst wq
        go_wp2_with fail
        with_reducible refine hsm.mono ?_
        rintro e wz ⟨rfl, mz, hqz⟩
        have hbz : Below wy.heap.size wy wz := by rw [hqz]; exact below_drewN (Below.refl _ _) _
        have hKz := hKy.below hbz
        have hbtz := hbty.trans (hbz.mono hbty.size)
        clear hat hsm hqz hKy k4
        go_wp2_with fail
        go_roundw
        case rel => exact ⟨t + 1, _, _, _, _, _, _, _, _, by omega, by go_num, rfl, rfl, hnt, hZt, hKz, hbtz⟩
        case measure => simp [intOf]; omega
      by_cases hC2 : C = 2
      · subst hC2
        have hat1 := ats_any w hwc (some ⟨g, 0, none⟩) zs.length cf zs A w3 rfl (by omega) (by omega) HZW.out hzf hA.1 hA.2
        have k4 := hO3.c4
        go_wp2_with fail
        with_reducible refine hat1.mono ?_
        rintro e wt ⟨rfl, hqt⟩
        have hbt3 : Below w3.heap.size w3 wt := by rw [hqt]; exact Below.refl _ _
        clear hqt
        have hzt3 := hbt3.size
        have hbt : Below W.heap.size W wt := hb3W.trans (hbt3.mono hb3W.size)
        have hKt := hK3.below hbt3
        have hOt := hO3.below hbt3 (by omega)
        have hft := own_below hf3 hbt3
        have hsot : wr.heap.size < wt.heap.size := by omega
        have hnet := hKlt
        have hnt : n ≤ 2 * (t + 1) := by omega
        have hZt := HZL.out
        clear hat1 hK3 hO3 hf3 hzf kC k4
        have hkp := kept_any oo oc zs g cf wt (by omega) ((hzr.below hbt).mono hbt.size) (fun i hi => own_get hft (by simpa [marks_len] using hi))
        have k3 := hOt.c3
        have hzt := hbt.size
        go_wp2_with fail
        with_reducible refine hkp.mono ?_
        rintro e wk ⟨rfl, mk1, hqk⟩
        have hbk : Below wt.heap.size wt wk := by rw [hqk]; exact below_drewN (Below.refl _ _) _
        have hfk := own_below hft hbk
        have hKk := hKt.below hbk
        have hOk2 := hOt.below hbk hsot
        have hbtk := hbt.trans (hbk.mono hzt)
        have hszk : wk.heap.size = wt.heap.size := by rw [hqk]; rfl
        have hov := over_any g cf zs.length (zs.length + 64) wA.heap.size (zs ++ marks 0 64) wk (by omega) (by omega) (by simp [marks_len]) hfk
        clear hkp hqk k3 hft hKt hOt
        go_wp2_with fail
        with_reducible refine hov.mono ?_
        rintro e wv2 ⟨rfl, hfv, hbv, hszv, hgv⟩
        have hKv := hKk.over hfk hgv hnet
        have hOv := hOk2.grown hgv (by intro e; simp only [Option.some.injEq] at e; omega)
        have hbtv := hbtk.trans (hbv.mono (by omega))
        have hrv : Reads wv2 (some ⟨g, 0, none⟩) (marks (-1) zs.length) wv2.heap.size := reads_own hfv (by rw [marks_len, List.take_append, marks_len, Nat.sub_self, List.take_zero, List.append_nil, List.take_of_length_le (by rw [marks_len]; exact Nat.le_refl _)])
        have hml := marks_len (-1) zs.length
        have hln : Calls Try.prog 8 #[.slice (some ⟨g, 0, none⟩) zs.length cf] wv2 fun e w' => ∃ v, e = .returned v ∧ w'.ownsRow wv2.heap.size 5 1 v (zs.length + 64) (bv (marks (-1) zs.length ++ marks 0 64)) ∧ Below wv2.heap.size wv2 w' := by
          have := lent_any (some ⟨g, 0, none⟩) cf (marks (-1) zs.length) wv2 (by rw [hml]; omega) hrv
          rwa [hml] at this
        have HML : Hid ((marks (-1) zs.length).length = zs.length) := hml
        clear hov hfk hKk hOk2 hml hgv hnet
        go_wp2_with fail
        with_reducible refine hln.mono ?_
        rintro e wx ⟨vx2, rfl, ownx, hbx⟩
        obtain ⟨gx, cx, rfl, hcx⟩ := own_form ownx (by omega)
        have hcxI : (zs.length : Int) ≤ (cx : Int) := by omega
        have hszx := hbx.size
        have hKx := hKv.below hbx
        have hOx := hOv.below hbx (by omega)
        have hbtx := hbtv.trans (hbx.mono (by have := hbtv.size; omega))
        have hrx := (hrv.below hbx).mono hszx
        have hrx2 : Reads wx (some ⟨gx, 0, none⟩) (marks (-1) zs.length) wx.heap.size := reads_own ownx (by rw [List.take_append, Nat.sub_self, List.take_zero, List.append_nil, List.take_length])
        have hal := alls_any w hwc (some ⟨g, 0, none⟩) zs.length cf (marks (-1) zs.length) wx HML.out (by omega) (by omega) (marks_wf _ _) hrx
        clear hln hrv ownx hKv hOv
        go_wp2_with fail
        with_reducible refine hal.mono ?_
        rintro e wy ⟨rfl, hby⟩
        have hszy := hby.size
        have hKy := hKx.below hby
        have hOy := hOx.below hby (by omega)
        have hbty := hbtx.trans (hby.mono (by have := hbtx.size; omega))
        have k4 := hOy.c4
        have hat := ats_any w hwc (some ⟨g, 0, none⟩) zs.length cf (marks (-1) zs.length) A wy HML.out (by omega) (by omega) (marks_wf _ _) ((hrx.below hby).mono hszy) hA.1 hA.2
        have hsm := same_n zs.length zs.length (some ⟨g, 0, none⟩) (some ⟨gx, 0, none⟩) cf cx (marks (-1) zs.length) (marks (-1) zs.length) wy HML.out HML.out (by omega) ((hrx.below hby).mono hszy) ((hrx2.below hby).mono hszy)
        rw [decide_eq_true rfl] at hsm
        clear hal hrx hrx2 hKx hOx
        go_wp2_with fail
        with_reducible refine hat.mono ?_
        rintro e wq ⟨rfl, hq⟩
        subst wq
        go_wp2_with fail
        with_reducible refine hsm.mono ?_
        rintro e wz ⟨rfl, mz, hqz⟩
        have hbz : Below wy.heap.size wy wz := by rw [hqz]; exact below_drewN (Below.refl _ _) _
        have hKz := hKy.below hbz
        have hbtz := hbty.trans (hbz.mono hbty.size)
        clear hat hsm hqz hKy k4
        go_wp2_with fail
        go_roundw
        case rel => exact ⟨t + 1, _, _, _, _, _, _, _, _, by omega, by go_num, rfl, rfl, hnt, hZt, hKz, hbtz⟩
        case measure => simp [intOf]; omega
      have hCa : (C == 0) = false := by simpa using hC0
      have hCb : (C == 1) = false := by simpa using hC1
      have hCc : (C == 2) = false := by simpa using hC2
      have k4 := hO3.c4
      have kx : w3.cell? ⟨g3, 0, none⟩ = some (.int .u64 y) := by
        have := own_getK own3 (i := 0) (by simp)
        simpa using this
      have hex : ∃ (L : List Int) (er : Int), L.length ≤ 1048576 ∧ (∀ W', Below w3.heap.size w3 W' → Calls Try.prog 14 #[.int .i64 w, .slice (some ⟨g, 0, none⟩) zs.length cf, .int .i64 A, .int .u64 y] W' fun e w' => ∃ v, e = .returned (.tuple #[v, .int .i64 er]) ∧ w'.ownsRow W'.heap.size 5 1 v L.length (bv L) ∧ Below W'.heap.size W' w') ∧ (∀ W', Below w3.heap.size w3 W' → Calls Try.prog 15 #[.int .i64 w, .slice (some ⟨g, 0, none⟩) zs.length cf, .int .i64 A, .int .u64 y] W' fun e w' => ∃ v, e = .returned (.tuple #[v, .int .i64 er]) ∧ w'.ownsRow W'.heap.size 5 1 v L.length (bv L) ∧ Below W'.heap.size W' w') := by
        by_cases hin : 0 ≤ A ∧ A + w ≤ (zs.length : Int)
        · have hl := wth_len w zs A.toNat y (by omega)
          refine ⟨wth w zs A.toNat y, 0, by rw [hl]; exact hzl, fun W' hb' => ?_, fun W' hb' => ?_⟩
          · rw [hl]; exact rwith_any w hw1 hw8 (some ⟨g, 0, none⟩) zs.length cf zs A y W' rfl (by omega) ((hzf.below hb').mono hb'.size) hyr.1 (by omega) hin
          · rw [hl]
            have := wi_any w hwc (some ⟨g, 0, none⟩) cf zs A y W' (by omega) ((hzf.below hb').mono hb'.size) hA.1 hA.2 hyr.1 (by omega) hin
            rwa [Int.emod_eq_of_lt hyr.1 hyr.2] at this
        · exact ⟨[], 20, by simp, fun W' _ => (rwithE_any w hw8 (some ⟨g, 0, none⟩) zs.length cf A y W' (by omega) hA.1 hA.2 hin).mono fun e w' ⟨he, hq⟩ => ⟨_, he, World.ownsRow_nil _ _ _ _, by rw [hq]; exact Below.refl _ _⟩,
            fun W' _ => (wiE_any w hwc (some ⟨g, 0, none⟩) zs.length cf A y W' (by omega) hA.1 hA.2 hyr.1 (by omega) hin).mono fun e w' ⟨he, hq⟩ => ⟨_, he, World.ownsRow_nil _ _ _ _, by rw [hq]; exact Below.refl _ _⟩⟩
      obtain ⟨L, er, hmL0, hrw, hww⟩ := hex
      obtain ⟨m, hm⟩ : ∃ m, m = L.length := ⟨_, rfl⟩
      rw [← hm] at hrw hww hmL0
      have HLm : Hid (L.length = m) := hm.symm
      have hmL : m ≤ 8388608 := by omega
      have HRW : Hid (∀ W', Below w3.heap.size w3 W' → Calls Try.prog 14 #[.int .i64 w, .slice (some ⟨g, 0, none⟩) zs.length cf, .int .i64 A, .int .u64 y] W' fun e w' => ∃ v, e = .returned (.tuple #[v, .int .i64 er]) ∧ w'.ownsRow W'.heap.size 5 1 v m (bv L) ∧ Below W'.heap.size W' w') := hrw
      have HWW : Hid (∀ W', Below w3.heap.size w3 W' → Calls Try.prog 15 #[.int .i64 w, .slice (some ⟨g, 0, none⟩) zs.length cf, .int .i64 A, .int .u64 y] W' fun e w' => ∃ v, e = .returned (.tuple #[v, .int .i64 er]) ∧ w'.ownsRow W'.heap.size 5 1 v m (bv L) ∧ Below W'.heap.size W' w') := hww
      clear hrw hww hC0 hC1 hC2 hm hmL0
      have hcx1 : (0 : Int) < (ns.length : Int) + 1 := by omega
      go_wp2_with fail
      refine (fun (hrest : ?P1) => ?main1) ?sub1
      case main1 =>
        go_region_with (go_at_call 14; with_reducible refine (HRW.out _ (Below.refl _ _).drew).mono ?_; rintro e w4 ⟨v4, rfl, own4, hb4⟩)
        all_goals
          revert own4 hb4
          revert v4
          revert w4
          exact hrest
      intro w4 v4 own4 hb4
      replace hb4 : Below w3.heap.size w3 w4 := (Below.refl w3.heap.size w3).drew.trans hb4
      replace own4 : w4.ownsRow w3.heap.size 5 1 v4 m (bv L) := own4
      have hz4' := hb4.size
      have k44 := (hO3.below hb4 (by omega)).c4
      have kx4 := (hb4.cell (p := ⟨g3, 0, none⟩) (own3.lt g3 rfl).2).trans kx
      go_wp2_with fail
      refine (fun (hrest : ?P2) => ?main2) ?sub2
      case main2 =>
        go_region_with (go_at_call 15; with_reducible refine (HWW.out _ hb4.drew).mono ?_; rintro e w5 ⟨v5, rfl, own5, hb5⟩)
        all_goals
          revert own5 hb5
          revert v5
          revert w5
          exact hrest
      intro w5 v5 own5 hb5
      replace hb5 : Below w4.heap.size w4 w5 := (Below.refl w4.heap.size w4).drew.trans hb5
      replace own5 : w5.ownsRow w4.heap.size 5 1 v5 m (bv L) := own5
      have hb35 : Below w3.heap.size w3 w5 := hb4.trans (hb5.mono hz4')
      have k45 := (hO3.below hb35 (by omega)).c4
      have kx5 := (hb35.cell (p := ⟨g3, 0, none⟩) (own3.lt g3 rfl).2).trans kx
      go_wp2_with fail
      refine (fun (hrest : ?P3) => ?main3) ?sub3
      case main3 =>
        go_region_with (go_at_call 15; with_reducible refine (HWW.out _ hb35.drew).mono ?_; rintro e w6 ⟨v6, rfl, own6, hb6⟩)
        all_goals
          revert own6 hb6
          revert v6
          revert w6
          exact hrest
      intro w6 v6 own6 hb6
      replace hb6 : Below w5.heap.size w5 w6 := (Below.refl w5.heap.size w5).drew.trans hb6
      replace own6 : w6.ownsRow w5.heap.size 5 1 v6 m (bv L) := own6
      clear k44 kx4 k45 kx5 hb35 hz4' kx k4
      obtain ⟨xa, xca, rfl⟩ := own_form0' own5
      obtain ⟨xb, xcb, rfl⟩ := own_form0' own6
      obtain ⟨xq, xcq, rfl⟩ := own_form0' own4
      have hz4 := hb4.size
      have hz5 := hb5.size
      have hz6 := hb6.size
      have hb36 : Below w3.heap.size w3 w6 := hb4.trans ((hb5.trans (hb6.mono hz5)).mono hz4)
      have hK6 := hK3.below hb36
      have hO6 := hO3.below hb36 (by omega)
      have hf6 := own_below hf3 hb36
      have hb6W := hb3W.trans (hb36.mono hb3W.size)
      have hB6 := hb6W.size
      have ha6 := own_monoB (own_below own5 hb6) (show W.heap.size ≤ w4.heap.size by omega)
      have hbb6 := own_monoB own6 (show W.heap.size ≤ w5.heap.size by omega)
      have hq6 := own_monoB (own_below own4 (hb5.trans (hb6.mono hz5))) (show W.heap.size ≤ w3.heap.size by omega)
      have hab6 : Apt (.slice xa m xca) (.slice xb m xcb) := Apt.later own5 own6 (Nat.le_refl _)
      have hva6 : ∀ i, i < n → Apt (vals i) (.slice xa m xca) := fun i hi => Apt.later (HK.out.own.each i hi) own5 (by omega)
      have hvb6 : ∀ i, i < n → Apt (vals i) (.slice xb m xcb) := fun i hi => Apt.later (HK.out.own.each i hi) own6 (by omega)
      have na : (Value.slice xa m xca).ownBlock ≠ some g := own_ge_ne own5 (by omega)
      have nb' : (Value.slice xb m xcb).ownBlock ≠ some g := own_ge_ne own6 (by omega)
      have nq' : (Value.slice xq m xcq).ownBlock ≠ some g := own_ge_ne own4 (by omega)
      clear own4 own5 own6 hb4 hb5 hb6 hK3 hO3 hf3 hzf kC
      go_wp2_with (at_builtin; refine wpList_append_lies _ rfl _ _ 24 rfl W.heap.size 26 j0 (.slice none 0 0) 1 24 Try.underlying24 hj hy0 hy1 hy2 rfl (by decide) _ n ((List.range n).map vals) rfl (hK6.own.row.alloc _) ⟨_, 0, none⟩ 2 2 [.slice xa m xca, .slice xb m xcb] rfl rfl ?x1 ?x2 (by decide) ?x3 ?x4 ?x5 (w6.heap.size + 1) (by simp) ?_)
      case x1 =>
        intro j u hj
        match j, hj with
        | 0, hj => simp at hj; subst hj; simp [Addr.add]
        | 1, hj => simp at hj; subst hj; simp [Addr.add]
        | (j + 2), hj => simp at hj
      case x2 => intro u hu; simp at hu; rcases hu with rfl | rfl <;> rfl
      case x3 => unfold maxLen; omega
      case x4 => omega
      case x5 => simp; omega
      intro g7 c7 w7 own7 hg7 hor7 _
      have hne7 : (Value.slice lo n lc).ownBlock ≠ some wr.heap.size := own_lt_ne HK.out.own.row (Nat.le_refl _)
      have hne8 : (Value.slice wo n wc).ownBlock ≠ some wr.heap.size := own_lt_ne HK.out.wrow (Nat.le_refl _)
      have hwr7 := (hK6.wrow.alloc _).kept hg7 (Apt.of hK6.sep).symm.l
      have hO7 := (hO6.alloc (by omega) _).grown hg7 hne7
      have hf7 := (hf6.alloc _).kept hg7 (rows_type (e := 5) (e' := 26) (by decide) hf6 hK6.own.row)
      have hb7W := grown_below hb6W hB6 hK6.own.row hg7
      have hz7 : w6.heap.size ≤ w7.heap.size := Nat.le_trans (by simp) hg7.size
      go_wp2_with (at_builtin; refine wpList_append_lies _ rfl _ _ 24 rfl W.heap.size 26 j0 (.slice none 0 0) 1 24 Try.underlying24 hj hy0 hy1 hy2 rfl (by decide) _ n ((List.range n).map wv) rfl (hwr7.alloc _) ⟨_, 0, none⟩ 2 2 [.slice xq m xcq, .slice xq m xcq] rfl rfl ?z1 ?z2 (by decide) ?z3 ?z4 ?z5 (w7.heap.size + 1) (by simp) ?_)
      case z1 =>
        intro j u hj
        match j, hj with
        | 0, hj => simp at hj; subst hj; simp [Addr.add]
        | 1, hj => simp at hj; subst hj; simp [Addr.add]
        | (j + 2), hj => simp at hj
      case z2 => intro u hu; simp at hu; subst hu; rfl
      case z3 => unfold maxLen; omega
      case z4 => omega
      case z5 => simp; omega
      intro g8 c8 wt own8 hg8 hor8 _
      have hKt := kw_ext (L := L) hK6 (by rw [HLm.out]; exact ha6) (by rw [HLm.out]; exact hbb6) (by rw [HLm.out]; exact hq6) hab6 hva6 hvb6 own7 hg7 hor7 own8 hg8 hor8
      have hOt := (hO7.alloc (by omega) _).grown hg8 hne8
      have hft := (hf7.alloc _).kept hg8 (rows_type (e := 5) (e' := 26) (by decide) hf7 hwr7)
      have hbt : Below W.heap.size W wt := grown_below hb7W hb7W.size hwr7 hg8
      have hz8 : w7.heap.size ≤ wt.heap.size := Nat.le_trans (by simp) hg8.size
      have hsot : wr.heap.size < wt.heap.size := by omega
      have hnet : ∀ i, i < n + 2 → (ext vals n (.slice xa m xca) (.slice xb m xcb) i).ownBlock ≠ some g ∧ (ext wv n (.slice xq m xcq) (.slice xq m xcq) i).ownBlock ≠ some g := fun i hi => ⟨ext_ne (fun i hi => (hKlt i hi).1) na nb' i hi, ext_ne (fun i hi => (hKlt i hi).2) nq' nq' i hi⟩
      have hnt : n + 2 ≤ 2 * (t + 1) := by omega
      have hZt := extZ_le HZL.out (show L.length ≤ 8388608 by rw [HLm.out]; exact hmL)
      clear hK6 hO6 hf6 ha6 hbb6 hq6 hab6 hva6 hvb6 na nb' nq' own7 hg7 hor7 hwr7 hO7 hf7 own8 hg8 hor8
      have hkp := kept_any oo oc zs g cf wt (by omega) ((hzr.below hbt).mono hbt.size) (fun i hi => own_get hft (by simpa [marks_len] using hi))
      have k3 := hOt.c3
      have hzt := hbt.size
      go_wp2_with fail
      with_reducible refine hkp.mono ?_
      rintro e wk ⟨rfl, mk1, hqk⟩
      have hbk : Below wt.heap.size wt wk := by rw [hqk]; exact below_drewN (Below.refl _ _) _
      have hfk := own_below hft hbk
      have hKk := hKt.below hbk
      have hOk2 := hOt.below hbk hsot
      have hbtk := hbt.trans (hbk.mono hzt)
      have hszk : wk.heap.size = wt.heap.size := by rw [hqk]; rfl
      have hov := over_any g cf zs.length (zs.length + 64) wA.heap.size (zs ++ marks 0 64) wk (by omega) (by omega) (by simp [marks_len]) hfk
      clear hkp hqk k3 hft hKt hOt
      go_wp2_with fail
      with_reducible refine hov.mono ?_
      rintro e wv2 ⟨rfl, hfv, hbv, hszv, hgv⟩
      have hKv := hKk.over hfk hgv hnet
      have hOv := hOk2.grown hgv (by intro e; simp only [Option.some.injEq] at e; omega)
      have hbtv := hbtk.trans (hbv.mono (by omega))
      have hrv : Reads wv2 (some ⟨g, 0, none⟩) (marks (-1) zs.length) wv2.heap.size := reads_own hfv (by rw [marks_len, List.take_append, marks_len, Nat.sub_self, List.take_zero, List.append_nil, List.take_of_length_le (by rw [marks_len]; exact Nat.le_refl _)])
      have hml := marks_len (-1) zs.length
      have hln : Calls Try.prog 8 #[.slice (some ⟨g, 0, none⟩) zs.length cf] wv2 fun e w' => ∃ v, e = .returned v ∧ w'.ownsRow wv2.heap.size 5 1 v (zs.length + 64) (bv (marks (-1) zs.length ++ marks 0 64)) ∧ Below wv2.heap.size wv2 w' := by
        have := lent_any (some ⟨g, 0, none⟩) cf (marks (-1) zs.length) wv2 (by rw [hml]; omega) hrv
        rwa [hml] at this
      have HML : Hid ((marks (-1) zs.length).length = zs.length) := hml
      clear hov hfk hKk hOk2 hml hgv hnet
      go_wp2_with fail
      with_reducible refine hln.mono ?_
      rintro e wx ⟨vx2, rfl, ownx, hbx⟩
      obtain ⟨gx, cx, rfl, hcx⟩ := own_form ownx (by omega)
      have hcxI : (zs.length : Int) ≤ (cx : Int) := by omega
      have hszx := hbx.size
      have hKx := hKv.below hbx
      have hOx := hOv.below hbx (by omega)
      have hbtx := hbtv.trans (hbx.mono (by have := hbtv.size; omega))
      have hrx := (hrv.below hbx).mono hszx
      have hrx2 : Reads wx (some ⟨gx, 0, none⟩) (marks (-1) zs.length) wx.heap.size := reads_own ownx (by rw [List.take_append, Nat.sub_self, List.take_zero, List.append_nil, List.take_length])
      have hal := alls_any w hwc (some ⟨g, 0, none⟩) zs.length cf (marks (-1) zs.length) wx HML.out (by omega) (by omega) (marks_wf _ _) hrx
      clear hln hrv ownx hKv hOv
      go_wp2_with fail
      with_reducible refine hal.mono ?_
      rintro e wy ⟨rfl, hby⟩
      have hszy := hby.size
      have hKy := hKx.below hby
      have hOy := hOx.below hby (by omega)
      have hbty := hbtx.trans (hby.mono (by have := hbtx.size; omega))
      have k4 := hOy.c4
      have hat := ats_any w hwc (some ⟨g, 0, none⟩) zs.length cf (marks (-1) zs.length) A wy HML.out (by omega) (by omega) (marks_wf _ _) ((hrx.below hby).mono hszy) hA.1 hA.2
      have hsm := same_n zs.length zs.length (some ⟨g, 0, none⟩) (some ⟨gx, 0, none⟩) cf cx (marks (-1) zs.length) (marks (-1) zs.length) wy HML.out HML.out (by omega) ((hrx.below hby).mono hszy) ((hrx2.below hby).mono hszy)
      rw [decide_eq_true rfl] at hsm
      clear hal hrx hrx2 hKx hOx
      go_wp2_with fail
      with_reducible refine hat.mono ?_
      rintro e wq ⟨rfl, hq⟩
      subst wq
      go_wp2_with fail
      with_reducible refine hsm.mono ?_
      rintro e wz ⟨rfl, mz, hqz⟩
      have hbz : Below wy.heap.size wy wz := by rw [hqz]; exact below_drewN (Below.refl _ _) _
      have hKz := hKy.below hbz
      have hbtz := hbty.trans (hbz.mono hbty.size)
      clear hat hsm hqz hKy k4
      go_wp2_with fail
      go_roundw
      case rel => exact ⟨t + 1, _, _, _, _, _, _, _, _, by omega, by go_num, rfl, rfl, hnt, hZt, hKz, hbtz⟩
      case measure => simp [intOf]; omega
    · have hkI : ¬ (t : Int) < (N : Int) := by omega
      have hke := keep_any lo wo lc wc n W.heap.size vals wv Z wr (by omega) (fun i hi => Nat.le_trans (HZL.out i hi) (by decide)) hB0 HK.out
      go_wp2_with fail
      with_reducible refine hke.mono ?_
      rintro e w9 ⟨rfl, hT9⟩
      have hb9 := hb.trans (hT9.below hB0 (fun i b hi hbk => ((HK.out.own.each i hi).lt b hbk).1))
      clear hke hT9
      go_wp2_with fail
      go_ret
      exact ⟨rfl, hb9⟩
end Go.Proofs.Ytacfiecobdbjaaa
