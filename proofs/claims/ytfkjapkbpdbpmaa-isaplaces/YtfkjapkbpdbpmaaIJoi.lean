import Derived.Test.YtfkjapkbpdbpmaaIFit
import Derived.Test.YtfkjapkbpdbpmaaLSame
import Derived.Laws.AppendOwnNone
namespace Go.Proofs.Ytfkjapkbpdbpmaa
open Go.RowKit

theorem wpList_append_row {P : Program} {w : World} {ops : Array Oper} {rest : List Oper} {o : Oper} {a : Act} {Q : Exit → Act → World → Prop} (hgd : o.guard = none) (s x : Operand) (t : TypeId)
    (ho : o.op = .call { callee := .builtin .append, args := #[s, x], argTypes := #[t, t] })
    (base : Nat) (e : TypeId) (i : TypeInfo) (z : Value) (size bytes : Nat) (ht : P.underlying t = some (.slice e)) (hi : P.info? e = some i) (hz : i.zero = some z)
    (hsize : i.size = size) (hby : i.bytes = bytes) (hzs : z.cells.size = size) (hsz : 0 < size)
    (v : Value) (n : Nat) (xs : List Value) (hs : a.eval s = v) (hown : w.ownsRow base e size v n xs)
    (u : Value) (m B : Nat) (news : List Value) (hx : a.eval x = u) (hou : w.ownsRow B e size u m news) (h1 : ∀ u ∈ news, u.oneCell' = true)
    (h63 : n + m ≤ maxLen) (hbytes : (n + m) * bytes ≤ 140737488355328) (hbase : base ≤ w.heap.size)
    (h : ∀ v' w', w'.ownsRow base e size v' (n + m) (xs ++ news) → w.grownBy w' v.ownBlock → wpList P ops Q rest (a.put o.dst v') w') : wpList P ops Q (o :: rest) a w := by
  rcases hou.2 with ⟨rfl, rfl⟩ | ⟨g, cap, cur, rfl, _⟩
  · have hnl : news = [] := List.eq_nil_of_length_eq_zero (by simpa using hou.1)
    subst hnl
    refine wpList_append_own_none hgd s x t ho base e i size ht hi v n xs hs hown hx ?_
    exact h v w (by simpa using hown) (World.grownBy.refl _ _)
  · exact wpList_append_own w hgd s x t ho base e i z size bytes ht hi hz hsize hby hzs hsz v n xs hs hown ⟨g, 0, none⟩ m cap news hx hou.1 (hou.cells rfl) h1 h63 hbytes hbase (fun v' w' h1 h2 _ => h v' w' h1 h2)
theorem cv_one' (L : List (Nat × Nat)) : ∀ u ∈ cv L, u.oneCell' = true := by
  intro u hu
  simp [cv] at hu
  obtain ⟨a, b, _, h | h⟩ := hu <;> subst h <;> rfl
theorem bv_one' (L : List Int) : ∀ u ∈ bv L, u.oneCell' = true := by
  intro u hu; simp [bv] at hu; obtain ⟨z, _, rfl⟩ := hu; rfl
theorem cv_get (L : List (Nat × Nat)) : ∀ j, j < L.length → (cv L)[j * 2]? = some (.int .u8 (L.getD j (0, 0)).1) ∧ (cv L)[j * 2 + 1]? = some (.int .u32 (L.getD j (0, 0)).2) := by
  induction L with
  | nil => intro j hj; simp at hj
  | cons p L ih =>
    intro j hj
    have e : cv (p :: L) = .int .u8 p.1 :: .int .u32 p.2 :: cv L := rfl
    cases j with
    | zero => rw [e]; exact ⟨rfl, rfl⟩
    | succ j =>
      have := ih j (by simpa using hj)
      rw [e, show (j + 1) * 2 = j * 2 + 1 + 1 by omega]
      exact this
theorem own_crd {w : World} {B : Nat} {v : Value} {L : List (Nat × Nat)} (h : w.ownsRow B 32 2 v L.length (cv L)) : ∃ ao cap, v = .slice ao L.length cap ∧ CRd w ao L w.heap.size := by
  rcases h.2 with ⟨rfl, h0⟩ | ⟨g, cap, cur, rfl, hh⟩
  · exact ⟨none, 0, by rw [h0], fun hp => absurd hp (by omega)⟩
  · refine ⟨some ⟨g, 0, none⟩, cap, rfl, fun _ => ⟨g, 0, rfl, (h.lt g rfl).2, fun j hj => ?_⟩⟩
    obtain ⟨c0, c1⟩ := cv_get L j hj
    have a0 := h.cells (g := g) rfl _ _ c0
    have a1 := h.cells (g := g) rfl _ _ c1
    rw [Go.WideShapes.add_plain] at a0 a1
    exact ⟨a0, by rw [Nat.add_assoc]; exact a1⟩
theorem own_crd2 {w : World} {B : Nat} {ao : Option Addr} {cap : Nat} {L : List (Nat × Nat)} (h : w.ownsRow B 32 2 (.slice ao L.length cap) L.length (cv L)) : CRd w ao L w.heap.size := by
  obtain ⟨a, c, e, hr⟩ := own_crd h
  simp only [Value.slice.injEq] at e
  rw [e.1]; exact hr
theorem own_reads5 {w : World} {B : Nat} {v : Value} {zs : List Int} (h : w.ownsRow B 5 1 v zs.length (bv zs)) : ∃ ao cap, v = .slice ao zs.length cap ∧ Reads w ao zs w.heap.size := own_reads h
theorem ones_apart {w : World} {B C e e' s s' n n' : Nat} {v v' : Value} {xs xs' : List Value} {wl : World} (h : wl.ownsRow B e s v n xs) (h' : w.ownsRow C e' s' v' n' xs') (hl : wl.heap.size ≤ C) : v.ownBlock = none ∨ v.ownBlock ≠ v'.ownBlock := by
  cases hb : v.ownBlock with
  | none => exact .inl rfl
  | some b =>
    right
    intro e
    have h1 := (h.lt b hb).2
    have h2 := (h'.lt b e.symm).1
    omega
theorem encB_ok (L : List (Nat × Nat)) (h : allOk L = true) (hl : L.length ≤ 16384) : encB L = encF L ∧ encI L = 0 ∧ encX L = 0 := by
  simp [encB, encI, encX, h, show ¬ 16384 < L.length by omega]
theorem encode_ok (ao : Option Addr) (cap : Nat) (L : List (Nat × Nat)) (w : World) (hwf : Wfc L) (hr : CRd w ao L w.heap.size) (h : allOk L = true) (hl : L.length ≤ 16384) :
    Calls Try.prog 21 #[.slice ao L.length cap] w fun e w' => ∃ v, e = .returned (.tuple #[v, .int .i64 0, .int .i64 0]) ∧ w'.ownsRow w.heap.size 5 1 v (encF L).length (bv (encF L)) ∧ Below w.heap.size w w' := by
  refine (encode_any ao cap L w (by omega) hwf hr).mono ?_
  obtain ⟨e1, e2, e3⟩ := encB_ok L h hl
  rintro e w' ⟨v, rfl, h1, h2⟩
  rw [e1] at h1
  exact ⟨v, by rw [e2, e3]; rfl, h1, h2⟩
theorem encode_n (ao : Option Addr) (cap n : Nat) (L : List (Nat × Nat)) (w : World) (hn : L.length = n) (hwf : Wfc L) (hr : CRd w ao L w.heap.size) (h : allOk L = true) (hl : L.length ≤ 16384) :
    Calls Try.prog 21 #[.slice ao n cap] w fun e w' => ∃ v, e = .returned (.tuple #[v, .int .i64 0, .int .i64 0]) ∧ w'.ownsRow w.heap.size 5 1 v (encF L).length (bv (encF L)) ∧ Below w.heap.size w w' := by
  subst hn; exact encode_ok ao cap L w hwf hr h hl
theorem same_nn (n m : Nat) (ao bo : Option Addr) (ca cb : Nat) (xs ys : List Int) (w : World) (h1 : xs.length = n) (h2 : ys.length = m) (hn : n ≤ 140737488355328) (ha : Reads w ao xs w.heap.size) (hr : Reads w bo ys w.heap.size) :
    Calls Try.prog 25 #[.slice ao n ca, .slice bo m cb] w fun e w' => e = .returned (.bool (decide (xs = ys))) ∧ ∃ m, w' = w.drewN m := by
  subst h1 h2; exact same_any ao bo ca cb xs ys w hn ha hr
theorem below_drew0 {w : World} (n : Nat) : Below w.heap.size w (w.drewN n) := below_drewN (Below.refl _ _) n
set_option maxRecDepth 100000 in
set_option maxHeartbeats 4000000 in
theorem joinsLaw (ao bo : Option Addr) (ca cb : Nat) (X Y : List (Nat × Nat)) (w : World) (hx : X.length ≤ 140737488355328) (hy : Y.length ≤ 140737488355328) (hxw : Wfc X) (hyw : Wfc Y)
    (hrx : CRd w ao X w.heap.size) (hry : CRd w bo Y w.heap.size) :
    Calls Try.prog 8 #[.slice ao X.length ca, .slice bo Y.length cb] w fun e w' => e = .returned (.bool true) ∧ Below w.heap.size w w' := by
  obtain ⟨i0, hi, hz0, hz1, hz2⟩ := info_parts Try.infoC
  obtain ⟨j0, ki, kz0, kz1, kz2⟩ := info_parts Try.infoB
  have f1 := fit_any ao ca X w hx hxw hrx
  have HYW := hid_of hyw
  have HRY := hid_of hry
  have HAw := hid_of (fitL_wf X hxw)
  have HAo := hid_of (fitL_ok X hxw)
  have hAl := fitL_len X
  have HBw := hid_of (fitL_wf Y hyw)
  have HBo := hid_of (fitL_ok Y hyw)
  have hBl := fitL_len Y
  have HYL := hid_of hy
  clear hxw hyw hrx hry hx hy
  go_enter Try.func8, Try.ntmps8
  go_wp2_with fail
  with_reducible refine f1.mono ?_
  rintro e w1 ⟨v1, rfl, own1, hb1⟩
  have f2 := fit_any bo cb Y w1 HYL.out HYW.out ((HRY.out.below hb1).mono hb1.size)
  generalize fitL X = A at *
  obtain ⟨a1, c1, rfl, _⟩ := own_crd own1
  clear f1
  go_wp2_with fail
  with_reducible refine f2.mono ?_
  rintro e w2 ⟨v2, rfl, own2, hb2⟩
  generalize fitL Y = B at *
  obtain ⟨a2, c2, rfl, _⟩ := own_crd own2
  clear f2
  replace own1 := own_below own1 hb2
  have R2 := bt hb1 hb2
  clear hb1 hb2
  by_cases hlen : 16384 < A.length + B.length
  · have hlI : (16384 : Int) < (A.length : Int) + (B.length : Int) := by omega
    go_wp2_with fail
    go_ret
    exact ⟨rfl, R2⟩
  have hlI : ¬ (16384 : Int) < (A.length : Int) + (B.length : Int) := by omega
  have o1 := own1
  have o2 := own2
  have HAB : Hid (allOk (A ++ B) = true) := by
    have h1 := HAo.out; have h2 := HBo.out
    simp only [allOk, List.all_append, Bool.and_eq_true] at h1 h2 ⊢
    exact ⟨h1, h2⟩
  have HABw : Hid (Wfc (A ++ B)) := by
    intro p hp
    rcases List.mem_append.1 hp with h | h
    · exact HAw.out p h
    · exact HBw.out p h
  have hABl : (A ++ B).length ≤ 16384 := by rw [List.length_append]; omega
  have eA := encF_le A
  have eB := encF_le B
  have HCE := hid_of (encF_append A B)
  have z2 := R2.size
  go_wp2_with (first
    | (at_builtin; refine wpList_append_row rfl _ _ 22 rfl w2.heap.size 32 i0 (.agg #[.int .u8 0, .int .u32 0]) 2 8 Try.underlying22 hi hz0 hz1 hz2 rfl (by decide) _ 0 [] rfl (World.ownsRow_nil w2 _ _ _) _ _ _ _ rfl o1 (cv_one' _) (by unfold maxLen; omega) (by omega) (Nat.le_refl _) ?_; intro vb w3 own3 hg3; replace own1 := o1.kept hg3 (ones_apart o1 (World.ownsRow_nil w2 w2.heap.size 32 2) (Nat.le_refl _)); replace own2 := o2.kept hg3 (ones_apart o2 (World.ownsRow_nil w2 w2.heap.size 32 2) (Nat.le_refl _)); have R3 := grown_below2 R2 z2 (own_lower (World.ownsRow_nil w2 w2.heap.size 32 2) z2) hg3; have z3 := hg3.size)
    | (at_builtin; refine wpList_append_row rfl _ _ 22 rfl w2.heap.size 32 i0 (.agg #[.int .u8 0, .int .u32 0]) 2 8 Try.underlying22 hi hz0 hz1 hz2 rfl (by decide) _ _ _ rfl own3 _ _ _ _ rfl own2 (cv_one' _) (by unfold maxLen; omega) (by omega) z3 ?_; intro vc w4 own4 hg4; replace own1 := own1.kept hg4 (ones_apart o1 own3 (Nat.le_refl _)); replace own2 := own2.kept hg4 (ones_apart o2 own3 (Nat.le_refl _)); have R4 := grown_below2 R3 R3.size (own_lower own3 z2) hg4; obtain ⟨a4, c4, rfl, crd4⟩ := own_crd (L := A ++ B) (show w4.ownsRow w2.heap.size 32 2 vc (A ++ B).length (cv (A ++ B)) by rw [cv_append, List.length_append]; simpa using own4); clear own4 hg4 own3 hg3)
    | (go_at_call 21; with_reducible refine (encode_ok a1 c1 A w4 HAw.out (own_crd2 own1) HAo.out hAl).mono ?_; rintro e w5 ⟨v5, rfl, own5, hb5⟩; replace own2 := own_below own2 hb5; replace crd4 := (crd4.below hb5).mono hb5.size; have R5 := bt R4 hb5)
    | (go_at_call 21; with_reducible refine (encode_ok a2 c2 B w5 HBw.out (own_crd2 own2) HBo.out hBl).mono ?_; rintro e w6 ⟨v6, rfl, own6, hb6⟩; replace own5 := own_below own5 hb6; replace crd4 := (crd4.below hb6).mono hb6.size; have R6 := bt R5 hb6)
    | (go_at_call 21; with_reducible refine (encode_n a4 c4 (A.length + B.length) (A ++ B) w6 List.length_append HABw.out crd4 HAB.out hABl).mono ?_; rintro e w7 ⟨v7, rfl, own7, hb7⟩; replace own5 := own_below own5 hb7; replace own6 := own_below own6 hb7; have R7 := bt R6 hb7; have o5 := own5; have o6 := own6; have o7 := own7; have z7 := R7.size)
    | (at_builtin; refine wpList_append_row rfl _ _ 24 rfl w7.heap.size 5 j0 (.int .u8 0) 1 1 Try.underlying24 ki kz0 kz1 kz2 rfl (by decide) _ 0 [] rfl (World.ownsRow_nil w7 _ _ _) _ _ _ _ rfl o5 (bv_one' _) (by unfold maxLen; omega) (by omega) (Nat.le_refl _) ?_; intro vd w8 own8 hg8; replace own6 := o6.kept hg8 (ones_apart o6 (World.ownsRow_nil w7 w7.heap.size 5 1) (Nat.le_refl _)); replace own7 := o7.kept hg8 (ones_apart o7 (World.ownsRow_nil w7 w7.heap.size 5 1) (Nat.le_refl _)); have R8 := grown_below2 R7 z7 (own_lower (World.ownsRow_nil w7 w7.heap.size 5 1) z7) hg8; have z8 := hg8.size)
    | (at_builtin; refine wpList_append_row rfl _ _ 24 rfl w7.heap.size 5 j0 (.int .u8 0) 1 1 Try.underlying24 ki kz0 kz1 kz2 rfl (by decide) _ _ _ rfl own8 _ _ _ _ rfl own6 (bv_one' _) (by unfold maxLen; omega) (by omega) z8 ?_; intro ve w9 own9 hg9; replace own7 := own7.kept hg9 (ones_apart o7 own8 (Nat.le_refl _)); have R9 := grown_below2 R8 R8.size (own_lower own8 z7) hg9; obtain ⟨a9, c9, rfl, rd9⟩ := own_reads5 (zs := encF A ++ encF B) (show w9.ownsRow w7.heap.size 5 1 ve (encF A ++ encF B).length (bv (encF A ++ encF B)) by rw [bv_append, List.length_append]; simpa using own9); obtain ⟨a7, c7, rfl, rd7⟩ := own_reads5 own7; clear own9 hg9 own8 hg8)
    | (go_at_call 25; with_reducible refine (same_nn _ _ a7 a9 c7 c9 (encF (A ++ B)) (encF A ++ encF B) w9 rfl List.length_append (by rw [HCE.out, List.length_append]; omega) rd7 rd9).mono ?_; rintro e wx ⟨rfl, m, hm⟩; subst wx; rw [decide_eq_true HCE.out]))
  go_ret
  exact ⟨rfl, bt R9 (below_drew0 _)⟩
end Go.Proofs.Ytfkjapkbpdbpmaa
