import Derived.Test.YtfjnpmbkmoodnaaLRunW
import Derived.Test.YtfjnpmbkmoodnaaRRs
import Derived.Test.YtfjnpmbkmoodnaaLKept
import Derived.Test.YtfjnpmbkmoodnaaLApart
import Derived.Deep.RegionHeld3
namespace Go.Proofs.Ytfjnpmbkmoodnaa
open Go.RowKit Go.WideShapes
set_option maxRecDepth 100000
theorem rhid {p : Prop} (h : p) : Hid p := h
theorem Try.infoBs : (Try.prog.info? 26).map (fun i => (i.zero, i.size, i.bytes)) = some (some (.slice none 0 0), 1, 24) := by kernel_rfl
/-- a write that was lent: its place, its bytes, the block of its bytes, the room there -/
abbrev LE := Nat × List Int × Nat × Nat
def fullV (E : List LE) : List Value := E.map fun e => .slice (some ⟨e.2.2.1, 0, none⟩) (e.2.1.length + 64) e.2.2.2
def wrV : List LE → List Value
  | [] => []
  | e :: E => .int .u32 (e.1 : Nat) :: .slice (some ⟨e.2.2.1, 0, none⟩) e.2.1.length e.2.2.2 :: wrV E
theorem wrV_append : ∀ (E F : List LE), wrV (E ++ F) = wrV E ++ wrV F
  | [], F => rfl
  | p :: L, M => by simp only [List.cons_append, wrV, wrV_append L M]
theorem fullV_len (E : List LE) : (fullV E).length = E.length := by simp [fullV]
theorem wrV_len : ∀ (E : List LE), (wrV E).length = E.length * 2
  | [] => rfl
  | e :: E => by simp only [wrV, List.length_cons, wrV_len E]; omega
/-- the rows of what was lent -/
def RowsE (B : Nat) (E : List LE) (w : World) : Prop := ∀ e ∈ E, w.ownsRow B 5 1 (.slice (some ⟨e.2.2.1, 0, none⟩) (e.2.1.length + 64) e.2.2.2) (e.2.1.length + 64) (bv (e.2.1 ++ marks 0 64))
theorem RowsE.below {B : Nat} {E : List LE} {w w' : World} (h : RowsE B E w) (hb : Below w.heap.size w w') : RowsE B E w' := fun e he => own_below (h e he) hb
theorem RowsE.grown {B B' t s n : Nat} {E : List LE} {w w' : World} {v : Value} {xs : List Value} (h : RowsE B E w) (ho : w.ownsRow B' t s v n xs) (ht : t ≠ 5) (hg : w.grownBy w' v.ownBlock) : RowsE B E w' :=
  fun e he => (h e he).kept hg (rows_type (Ne.symm ht) (h e he) ho)
theorem one_newsv {W : World} {x : Value} {t : TypeId} : ∀ j u, [x][j]? = some u → (W.alloc (.cells #[x] t)).cell? ((⟨W.heap.size, 0, none⟩ : Addr).add j) = some u := by
  intro j u hj
  match j, hj with
  | 0, hj => simp at hj; subst hj; simp [Addr.add]
theorem two_newsv {W : World} {x y : Value} {t : TypeId} : ∀ j u, [x, y][j]? = some u → (W.alloc (.cells #[x, y] t)).cell? ((⟨W.heap.size, 0, none⟩ : Addr).add j) = some u := by
  intro j u hj
  match j, hj with
  | 0, hj => simp at hj; subst hj; simp [Addr.add]
  | 1, hj => simp at hj; subst hj; simp [Addr.add]
theorem two1s {n : Int} : ∀ u ∈ [Value.int .u32 n, Value.slice none 0 0], u.oneCell' = true := by
  intro u hu; simp at hu; rcases hu with rfl | rfl <;> rfl
theorem one1s {a : Option Addr} {n c : Nat} : ∀ u ∈ [Value.slice a n c], u.oneCell' = true := by
  intro u hu; simp at hu; subst hu; rfl
theorem own_monoL {w : World} {B B' e sz : Nat} {v : Value} {n : Nat} {xs : List Value} (h : w.ownsRow B e sz v n xs) (hle : B' ≤ B) : w.ownsRow B' e sz v n xs :=
  ⟨h.1, h.2.imp id (fun ⟨g, cap, cur, a, b, c⟩ => ⟨g, cap, cur, a, Nat.le_trans hle b, c⟩)⟩
theorem appendW_wp {w : World} {o : Oper} {a : Act} {K : Act → World → Prop} {Q : Exit → Act → World → Prop} (s x : Operand) (ho : o.op = .call { callee := .builtin .append, args := #[s, x], argTypes := #[27, 27] })
    (base g : Nat) (lv : Value) (m : Nat) (xs : List Value) (x0 : Nat) (sv : Value) (hsv : sv.oneCell' = true) (hs : a.eval s = lv) (hx : a.eval x = .slice (some ⟨g, 0, none⟩) 1 1) (hown : w.ownsRow base 48 2 lv m xs) (hobj : w.heap[g]? = some (Obj.cells #[.int .u32 (x0 : Int), sv] 48)) (hm : m * 32 ≤ 140737488351232 + 256) (hbase : base ≤ w.heap.size)
    (h : ∀ v' w', w'.ownsRow base 48 2 v' (m + 1) (xs ++ [.int .u32 (x0 : Int), sv]) → w.grownBy w' lv.ownBlock → K (a.put o.dst v') w') : Oper.wp Try.prog o a w K Q := by
  obtain ⟨i0, hi, hz0, hz1, hz2⟩ := info_parts Try.infoR
  refine wp_append_own w s x _ ho base 48 i0 (.agg #[.int .u32 0, .slice none 0 0]) 2 32 Try.underlying27 hi hz0 hz1 hz2 rfl (by decide) lv m xs hs hown ⟨g, 0, none⟩ 1 1 [.int .u32 (x0 : Int), sv] hx rfl ?_ ?_ (by unfold maxLen; omega) (by omega) hbase ?_
  · intro j u hj
    have hl : j < 2 := by simpa using (List.getElem?_eq_some_iff.1 hj).1
    match j, hl, hj with
    | 0, _, hj => simpa [Addr.add, World.cell?, hobj] using hj
    | 1, _, hj => simpa [Addr.add, World.cell?, hobj] using hj
  · intro u hu
    simp at hu
    rcases hu with rfl | rfl
    · rfl
    · exact hsv
  · intro v' w' h1 h2 _
    exact h v' w' h1 h2
def mkW : Nat → List Value
  | 0 => []
  | n + 1 => mkW n ++ [.int .u32 (90 + n : Nat), .slice none 0 0]
theorem mkW_len : ∀ n, (mkW n).length = n * 2
  | 0 => rfl
  | n + 1 => by simp only [mkW, List.length_append, mkW_len n, List.length_cons, List.length_nil]; omega
/-- what abides while runs are lent -/
structure LnS (w : World) (R : List Rn) (k : Nat) (vf : Value) (E : List LE) (wr : World) : Prop where
  len : E.length = k
  same : E.map (fun e => (e.1, e.2.1)) = R.take k
  rows : RowsE w.heap.size E wr
  full : wr.ownsRow w.heap.size 26 1 vf k (fullV E)
  bel : Below w.heap.size w wr
theorem LnS.below {w wr w' : World} {R : List Rn} {k : Nat} {vf : Value} {E : List LE} (h : LnS w R k vf E wr) (hb : Below wr.heap.size wr w') : LnS w R k vf E w' :=
  ⟨h.len, h.same, h.rows.below hb, own_below h.full hb, h.bel.trans (hb.mono h.bel.size)⟩
theorem LnS.drew {w wr : World} {R : List Rn} {k : Nat} {vf : Value} {E : List LE} (h : LnS w R k vf E wr) (n : Nat) : LnS w R k vf E (wr.drewN n) := h.below (below_drewN (Below.refl _ _) n)
theorem LnS.grown {w w1 w2 : World} {R : List Rn} {k n : Nat} {vf vw : Value} {E : List LE} {xs : List Value} (h : LnS w R k vf E w1) (hw : w1.ownsRow w.heap.size 48 2 vw n xs) (hg : w1.grownBy w2 vw.ownBlock) : LnS w R k vf E w2 :=
  ⟨h.len, h.same, h.rows.grown hw (by decide) hg, h.full.kept hg (rows_type (by decide) h.full hw), h.bel.grown hg h.bel.size (fun q e => (hw.lt q e).1)⟩
theorem LnS.push {w w1 w2 : World} {R : List Rn} {k g c : Nat} {vf v' : Value} {E : List LE} {o : Obj} (h : LnS w R k vf E w1) (hlt : k < R.length)
    (hrow : w1.ownsRow w.heap.size 5 1 (.slice (some ⟨g, 0, none⟩) ((R.getD k (0, [])).2.length + 64) c) ((R.getD k (0, [])).2.length + 64) (bv ((R.getD k (0, [])).2 ++ marks 0 64)))
    (own2 : w2.ownsRow w.heap.size 26 1 v' (k + 1) (fullV E ++ [.slice (some ⟨g, 0, none⟩) ((R.getD k (0, [])).2.length + 64) c])) (hg : (w1.alloc o).grownBy w2 vf.ownBlock) :
    LnS w R (k + 1) v' (E ++ [((R.getD k (0, [])).1, (R.getD k (0, [])).2, g, c)]) w2 := by
  refine ⟨by simp [h.len], ?_, ?_, ?_, ?_⟩
  · rw [take_snocR R k hlt, List.map_append, h.same]; rfl
  · have hrows : RowsE w.heap.size (E ++ [((R.getD k (0, [])).1, (R.getD k (0, [])).2, g, c)]) w1 := fun e he => by
      rcases List.mem_append.1 he with he | he
      · exact h.rows e he
      · simp at he; subst he; exact hrow
    exact (hrows.below ((Below.refl _ _).alloc (Nat.le_refl _) o)).grown (h.full.alloc o) (by decide) hg
  · have : fullV (E ++ [((R.getD k (0, [])).1, (R.getD k (0, [])).2, g, c)]) = fullV E ++ [.slice (some ⟨g, 0, none⟩) ((R.getD k (0, [])).2.length + 64) c] := by simp [fullV]
    rw [this]; exact own2
  · exact grown_below h.bel h.bel.size h.full hg
structure LnP (w : World) (R : List Rn) (E : List LE) (gw cw : Nat) (vf : Value) (w' : World) : Prop where
  room : R.length + 64 ≤ cw
  same : E.map (fun e => (e.1, e.2.1)) = R
  rows : RowsE w.heap.size E w'
  full : w'.ownsRow w.heap.size 26 1 vf R.length (fullV E)
  wri : w'.ownsRow w.heap.size 48 2 (.slice (some ⟨gw, 0, none⟩) (R.length + 64) cw) (R.length + 64) (wrV E ++ mkW 64)
  bel : Below w.heap.size w w'
set_option maxHeartbeats 4000000 in
theorem lentR_any (ao : Option Addr) (ca : Nat) (R : List Rn) (w : World) (hn : R.length ≤ 1048576) (hl : ∀ k, k < R.length → (R.getD k (0, [])).2.length ≤ 1048576) (hr : RunsR w ao R w.heap.size) :
    Calls Try.prog 6 #[.slice ao R.length ca] w fun e w' => ∃ E gw cw vf, e = .returned (.tuple #[.slice (some ⟨gw, 0, none⟩) (R.length + 64) cw, vf]) ∧ LnP w R E gw cw vf w' := by
  obtain ⟨i0, hi, hz0, hz1, hz2⟩ := info_parts Try.infoBs
  obtain ⟨j0, hj, hy0, hy1, hy2⟩ := info_parts Try.infoR
  have HR := rhid hr
  have HLn := rhid hl
  clear hr hl
  go_enter Try.func6, Try.ntmps6
  go_wp2_with fail
  go_loopw [4, 5, 6] (fun vw vf i wr => ∃ (k : Nat) (E : List LE), i = .int .i64 k ∧ k ≤ R.length ∧ LnS w R k vf E wr ∧ wr.ownsRow w.heap.size 48 2 vw k (wrV E)) (fun _ _ i _ => R.length - (intOf i).toNat)
  case atStart => exact ⟨0, [], rfl, Nat.zero_le _, ⟨rfl, rfl, (fun e he => by simp at he), World.ownsRow_nil _ _ _ _, Below.refl _ _⟩, World.ownsRow_nil _ _ _ _⟩
  case round =>
    obtain ⟨k, E, rfl, hk, hS, hwr⟩ := hrel
    have hlo := hS.bel.size
    by_cases hlt : k < R.length
    · have hd : (k : Int) < (R.length : Int) := by omega
      have hrW := HR.out.below hS.bel
      obtain ⟨bo, off, rfl, hbl, hc⟩ := hrW (by omega)
      obtain ⟨x0, bx, cx, x1, hcx, _, hrd⟩ := hc k hlt
      have hzl := HLn.out k hlt
      have hLb := lent_any bx cx (R.getD k (0, [])).2 wr (by omega) (hrd.mono (by omega))
      have HP := rhid (fun (w1 w2 : World) (vf v' : Value) (E : List LE) (g c : Nat) (o : Obj) (h : LnS w R k vf E w1) => h.push (w2 := w2) (v' := v') (g := g) (c := c) (o := o) hlt)
      have HV : Hid (∀ V, Below w.heap.size w V → V.cell? ⟨bo, off + k * 2, none⟩ = some (.int .u32 ((R.getD k (0, [])).1 : Int)) ∧ V.cell? ⟨bo, off + k * 2 + 1, none⟩ = some (.slice bx (R.getD k (0, [])).2.length cx)) := fun V hV => by
        have e0 : w.cell? ⟨bo, off + k * 2, none⟩ = some (.int .u32 ((R.getD k (0, [])).1 : Int)) := by rw [← hS.bel.cell (p := ⟨bo, off + k * 2, none⟩) hbl]; exact x0
        have e1 : w.cell? ⟨bo, off + k * 2 + 1, none⟩ = some (.slice bx (R.getD k (0, [])).2.length cx) := by rw [← hS.bel.cell (p := ⟨bo, off + k * 2 + 1, none⟩) hbl]; exact x1
        exact ⟨(hV.cell (p := ⟨bo, off + k * 2, none⟩) hbl).trans e0, (hV.cell (p := ⟨bo, off + k * 2 + 1, none⟩) hbl).trans e1⟩
      have HS := rhid hS
      have HW := rhid hwr
      have HLb := rhid hLb
      generalize hre : R.getD k (0, []) = r at *
      obtain ⟨x, zs⟩ := r
      simp only at x0 x1 hzl HP HV HLb hcx
      clear hS hwr hLb hc hrW hrd hre
      go_wp2_with fail
      with_reducible refine HLb.out.mono ?_
      rintro e w1 ⟨u, rfl, ho, hb1⟩
      obtain ⟨g, c, rfl, hgc⟩ := own_form ho (by omega)
      have HS1 := rhid (HS.out.below hb1)
      have HW1 := rhid (own_below HW.out hb1)
      have HO1 := rhid (own_monoL ho hlo)
      have hlo1 := HS1.out.bel.size
      have hzc : (zs.length : Int) ≤ (c : Int) := by omega
      have hzd : decide (zs.length ≤ c) = true := by simp; omega
      clear ho hb1 HLb HS HW x0 x1
      go_wp2_with fail
      have HV1 : Hid (∀ V, Below w.heap.size w1 V → V.cell? ⟨bo, off + k * 2, none⟩ = some (.int .u32 (x : Int)) ∧ V.cell? ⟨bo, off + k * 2 + 1, none⟩ = some (.slice bx zs.length cx)) := fun V hV => HV.out V (HS1.out.bel.trans hV)
      have HOW : Hid ((w1.alloc (Obj.cells #[.int .u32 (x : Int), .slice (some ⟨g, 0, none⟩) zs.length c] 48)).drew.ownsRow w.heap.size 48 2 u4 k (wrV E)) := rhid (HW1.out.alloc _).drew
      have hm16 : k * 32 ≤ 140737488351232 + 256 := by omega
      have hbs : w.heap.size ≤ (w1.alloc (Obj.cells #[.int .u32 (x : Int), .slice (some ⟨g, 0, none⟩) zs.length c] 48)).drew.heap.size := Nat.le_trans hlo1 (below_drewN ((Below.refl w.heap.size w1).alloc hlo1 _) 1).size
      go_region_held3 (fun V => V.cell? ⟨bo, off + k * 2, none⟩ = some (.int .u32 (x : Int)) ∧ V.cell? ⟨bo, off + k * 2 + 1, none⟩ = some (.slice bx zs.length cx)) (first | exact HV1.out _ (Below.refl _ _) | exact HV1.out _ (below_drewN (Below.refl _ _) 1) | exact HV1.out _ (below_drewN ((Below.refl _ _).alloc hlo1 _) 1) | exact HV1.out _ ((below_drewN ((Below.refl _ _).alloc hlo1 _) 1).trans R2)) ((rw [if_pos (by rfl)]; (refine appendW_wp _ _ rfl w.heap.size _ u4 k (wrV E) x (.slice (some ⟨g, 0, none⟩) zs.length c) rfl rfl rfl HOW.out (MapKept.heap_alloc w1 _).1 hm16 hbs ?_; intro v3 w3 own3 hg3; have R2 := (Below.refl w.heap.size _).grown hg3 hbs (fun q e => (HOW.out.lt q e).1))))
      have HS3 : Hid (LnS w R k u5 E w3) := rhid (((HS1.out.below ((Below.refl _ _).alloc (Nat.le_refl _) _)).drew 1).grown HOW.out hg3)
      have HO3 : Hid (w3.ownsRow w.heap.size 5 1 (.slice (some ⟨g, 0, none⟩) (zs.length + 64) c) (zs.length + 64) (bv (zs ++ marks 0 64))) := rhid (((HO1.out.alloc _).drew).kept hg3 (rows_type (by decide) ((HO1.out.alloc _).drew) HOW.out))
      have HW3 : Hid (w3.ownsRow w.heap.size 48 2 v3 (k + 1) (wrV (E ++ [(x, zs, g, c)]))) := by rw [wrV_append]; exact own3
      have hlo3 := HS3.out.bel.size
      clear HOW own3 hg3 R2 HV HV1 HS1 HW1 HO1
      go_wp2_with (at_builtin; (refine wpList_append_own _ rfl _ _ 24 rfl w.heap.size 26 i0 (.slice none 0 0) 1 24 Try.underlying24 hi hz0 hz1 hz2 rfl (by decide) _ _ _ rfl (HS3.out.full.alloc _) ⟨_, 0, none⟩ 1 1 [.slice (some ⟨g, 0, none⟩) (zs.length + 64) c] rfl rfl one_newsv one1s (by unfold maxLen; omega) (by omega) (by simp; omega) ?_; intro v' w4 own4 hg4 _))
      have HS4 := rhid (HP.out w3 w4 u5 v' E g c _ HS3.out HO3.out own4 hg4)
      have HW4 := rhid ((HW3.out.alloc _).kept hg4 (rows_type (by decide) HW3.out HS3.out.full))
      clear own4 hg4 HS3 HW3 HO3 HP
      go_wp2_with fail
      go_roundw
      case rel => exact ⟨k + 1, _, by go_num, by omega, HS4.out, HW4.out⟩
      case measure => simp [intOf]; omega
    · have hke : k = R.length := by omega
      subst hke
      have hd : ¬ (R.length : Int) < (R.length : Int) := by omega
      have HS := rhid hS
      have HW := rhid hwr
      clear hS hwr
      go_wp2_with fail
      go_loopw [4, 8] (fun vw i wr' => ∃ q : Nat, i = .int .i64 q ∧ q ≤ 64 ∧ LnS w R R.length u5 E wr' ∧ wr'.ownsRow w.heap.size 48 2 vw (R.length + q) (wrV E ++ mkW q)) (fun _ i _ => 64 - (intOf i).toNat)
      case atStart => exact ⟨0, rfl, Nat.zero_le _, HS.out, by simpa [mkW] using HW.out⟩
      case round =>
        obtain ⟨q, rfl, hq, hS, hwr⟩ := hrel
        clear HS HW
        have hlo := hS.bel.size
        have HS := rhid hS
        have HW := rhid hwr
        clear hS hwr
        by_cases hlt : q < 64
        · have hd4 : (q : Int) < 64 := by omega
          have hwq : IntKind.u32.wrap (90 + (q : Int)) = 90 + (q : Int) := by rw [IntKind.wrap_u32]; omega
          go_wp2_with (at_builtin; (refine wpList_append_own _ rfl _ _ 27 rfl w.heap.size 48 j0 (.agg #[.int .u32 0, .slice none 0 0]) 2 32 Try.underlying27 hj hy0 hy1 hy2 rfl (by decide) _ _ _ rfl (HW.out.alloc _) ⟨_, 0, none⟩ 1 1 [.int .u32 (90 + (q : Int)), .slice none 0 0] rfl rfl two_newsv two1s (by unfold maxLen; omega) (by omega) (by simp; omega) ?_; intro v3 w3 own3 hg3 _; have HR4 := rhid (And.intro ((HS.out.below ((Below.refl _ _).alloc (Nat.le_refl _) _)).grown (HW.out.alloc _) hg3) own3); clear own3 hg3))
          go_wp2_with fail
          go_roundw
          case rel => exact ⟨q + 1, by go_num, by omega, HR4.out.1, by have h := HR4.out.2; rw [List.append_assoc] at h; simpa [mkW, Nat.add_assoc] using h⟩
          case measure => simp [intOf]; omega
        · have hq4 : q = 64 := by omega
          subst hq4
          have hd4 : ¬ ((64 : Nat) : Int) < 64 := by omega
          obtain ⟨gw, cw, rfl, hcw⟩ := own_form HW.out (by omega)
          go_wp2_with fail
          refine bodyPost_ret (results_tmp2 rfl _ _ _) rfl ?_
          exact ⟨E, gw, cw, _, rfl, ⟨hcw, by have := HS.out.same; rwa [List.take_length] at this, HS.out.rows, HS.out.full, HW.out, HS.out.bel⟩⟩
end Go.Proofs.Ytfjnpmbkmoodnaa
