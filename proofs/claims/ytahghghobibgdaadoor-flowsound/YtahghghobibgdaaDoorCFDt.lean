import Derived.Test.YtahghghobibgdaaDoorFDp
import Derived.Test.YtahghghobibgdaaDoorFCu
import Derived.Deep.AppendLies
import Derived.Test.YtahghghobibgdaaDoorCFNx
import Derived.Test.YtahghghobibgdaaDoorCIBas
namespace Go.Proofs.YtahghghobibgdaaDoor
open Go.RowKit Go.WideShapes Go.Shelf
set_option maxRecDepth 100000

/-- what flow.Depths leaves -/
def FlP (w : World) (L : List (Nat × Nat)) (J : List Nat) (e : Ending) (w' : World) : Prop :=
  Below w.heap.size w w' ∧ ((∃ i x : Nat, e = .returned (.tuple #[.slice none 0 0, .slice none 0 0, .int .i64 i, .int .i64 x]) ∧ x ≠ 0 ∧ FdB L J [] i x) ∨
    (FdG L J [] ∧ ∃ i x : Nat, e = .returned (.tuple #[.slice none 0 0, .slice none 0 0, .int .i64 i, .int .i64 x]) ∧ (x = 140 ∨ x = 141 ∨ x = 142 ∨ x = 143) ∧ ∃ k, k < (bgs L).length ∧ ∀ D', ¬ Sol L J k D') ∨
    (FdG L J [] ∧ ∃ (gd cp : Nat) (nv : Value) (D N : List Int), e = .returned (.tuple #[.slice (some ⟨gd, 0, none⟩) D.length cp, nv, .int .i64 0, .int .i64 0]) ∧ DpW w' w.heap.size gd cp D ∧ w'.ownsRow w.heap.size 3 1 nv N.length (N.map fun z => Value.int .i64 z) ∧ DpK L J D N (bgs L).length))
theorem wfc_op {L : List (Nat × Nat)} (h : Wfc L) : ∀ i, i < L.length → opL L i < 256 := fun _ hi => (h.at hi).1
set_option maxHeartbeats 1000000 in
theorem fdepths_any (ao aj : Option Addr) (cap capj : Nat) (L : List (Nat × Nat)) (J : List Nat) (w : World) (hn : L.length ≤ 9223372036854775807) (hJn : J.length ≤ 9223372036854775807) (hwf : Wfc L) (hJ : ∀ z ∈ J, z < 4294967296)
    (hr : CRd w ao L w.heap.size) (hrJ : JRd w aj J w.heap.size) (hT : TabW w) (hp : 0 < w.heap.size) :
    Calls Tryd.prog 7 #[.slice ao L.length cap, .slice aj J.length capj] w (FlP w L J) := by
  have HC : Calls Tryd.prog 19 #[.slice ao L.length cap, .slice aj J.length capj] w fun e w' => Below w.heap.size w w' ∧ ((∃ i x : Nat, e = .returned (.tuple #[.pointer none, .int .i64 i, .int .i64 x]) ∧ x ≠ 0 ∧ FdB L J [] i x) ∨
    (∃ kc pp ta tc, e = .returned (.tuple #[.pointer (some ⟨kc, 0, none⟩), .int .i64 0, .int .i64 0]) ∧ ChS w' kc pp ta tc ao cap L J ∧ FdG L J [] ∧ w.heap.size ≤ kc)) := charted_any ao aj cap capj L J w hn hJn hwf hJ hr hrJ hT hp
  clear hr hrJ hT
  go_enter Tryd.func7, Tryd.ntmps7
  go_wp2_with fail
  refine HC.mono ?_
  rintro e w1 ⟨hb1, ⟨i1, x1, rfl, hx1, hfb⟩ | ⟨kc, pp, ta, tc, rfl, hS, hG, _⟩⟩
  · have hxI : ¬ (x1 : Int) = 0 := by omega
    have HF := hidS (And.intro hb1 (And.intro hx1 hfb))
    clear hb1 hx1 hfb HC
    go_wp2
    refine bodyPost_ret (v := .tuple #[.slice none 0 0, .slice none 0 0, .int .i64 i1, .int .i64 x1]) (by simp [results, Tryd.f7, go_sem]) rfl ⟨HF.out.1, .inl ⟨i1, x1, rfl, HF.out.2⟩⟩
  · have HD : Calls Tryd.prog 20 #[.pointer (some ⟨kc, 0, none⟩)] w1 fun e w' => Below w1.heap.size w1 w' ∧ ((∃ i x : Nat, e = .returned (.tuple #[.slice none 0 0, .slice none 0 0, .int .i64 i, .int .i64 x]) ∧ (x = 140 ∨ x = 141 ∨ x = 142 ∨ x = 143) ∧ ∃ k, k < (bgs L).length ∧ ∀ D', ¬ Sol L J k D') ∨
      (∃ (gd cp : Nat) (nv : Value) (D N : List Int), e = .returned (.tuple #[.slice (some ⟨gd, 0, none⟩) D.length cp, nv, .int .i64 0, .int .i64 0]) ∧ DpW w' w1.heap.size gd cp D ∧ w'.ownsRow w1.heap.size 3 1 nv N.length (N.map fun z => Value.int .i64 z) ∧ DpK L J D N (bgs L).length)) := depths_any hS hG (wfc_op hwf)
    have HF := hidS (And.intro hb1 hG)
    clear hb1 hG hS HC
    go_wp2_with fail
    refine HD.mono ?_
    rintro e w2 ⟨hb2, ⟨i2, x2, rfl, hx2, hno⟩ | ⟨gd, cp, nv, D, N, rfl, hDp, hNr, hK⟩⟩
    · have HE := hidS (And.intro hb2 (And.intro hx2 hno))
      clear hb2 hx2 hno HD
      go_wp2
      refine bodyPost_ret (v := .tuple #[.slice none 0 0, .slice none 0 0, .int .i64 i2, .int .i64 x2]) (by simp [results, Tryd.f7, go_sem]) rfl ⟨btP HF.out.1 HE.out.1, .inr (.inl ⟨HF.out.2, i2, x2, rfl, HE.out.2⟩)⟩
    · have HE := hidS (And.intro hb2 (And.intro hDp (And.intro hNr hK)))
      clear hb2 hDp hNr hK HD
      go_wp2
      refine bodyPost_ret (v := .tuple #[.slice (some ⟨gd, 0, none⟩) D.length cp, nv, .int .i64 0, .int .i64 0]) (by simp [results, Tryd.f7, go_sem]) rfl ⟨btP HF.out.1 HE.out.1, .inr (.inr ⟨HF.out.2, gd, cp, nv, D, N, rfl, own_base HE.out.2.1 HF.out.1.size, own_base HE.out.2.2.1 HF.out.1.size, HE.out.2.2.2⟩)⟩
theorem nil_eqW (a : Option Addr) (n c : Nat) (w : World) : (binOp .eql 23 (.slice a n c) (.slice none 0 0)).run Tryd.prog w = .ok (.bool a.isNone) w := by
  have e : binOp .eql 23 (.slice a n c) (.slice none 0 0) = (do pure (.bool (← Op.equal 23 (.slice a n c) (.slice none 0 0)))) := rfl
  rw [e, Sem.run_bind, run_equal_slice_nil w _ _ a n c Tryd.underlying23]
  rfl
end Go.Proofs.YtahghghobibgdaaDoor
namespace Go.Proofs.YtahghghobibgdaaDoor
open Go.RowKit Go.WideShapes Go.Shelf
set_option maxRecDepth 100000
theorem wpList_append_zero {P : Program} {w : World} {ops : Array Oper} {rest : List Oper} {o : Oper} {a : Act} {Q : Exit → Act → World → Prop} (hgd : o.guard = none) (s x : Operand) (t : TypeId)
    (ho : o.op = .call { callee := .builtin .append, args := #[s, x], argTypes := #[t, t] })
    (e : TypeId) (i : TypeInfo) (z : Value) (ht : P.underlying t = some (.slice e)) (hi : P.info? e = some i) (hz : i.zero = some z)
    (ad ad2 : Addr) (n c c2 : Nat) (hs : a.eval s = .slice (some ad) n c) (hx : a.eval x = .slice (some ad2) 0 c2) (hnc : n ≤ c)
    (h : wpList P ops Q rest (a.put o.dst (.slice (some ad) n c)) w) : wpList P ops Q (o :: rest) a w := by
  refine wpList_plain hgd fun _ hK => ?_
  have hr : (Builtin.append_ #[t, t] o.type #[.slice (some ad) n c, .slice (some ad2) 0 c2]).run P w = .ok (.slice (some ad) n c) w := by
    simp [Builtin.append_, run_underlying ht, sizeOf, typeInfo, zeroValue, hi, hz, Builtin.lenOf, hnc, Builtin.firstCells, storeCells, loadCells, loadCellsFrom]
  unfold Oper.wp execOp
  simp only [ho, resolve, invoke, builtin, Sem.run_bind, Sem.run_pure, Result.andThen_ok, List.map_toArray, List.map_cons, List.map_nil, hs, hx, hr]
  exact hK _ _ h
/-- what slices.Clone of words leaves -/
def CnW (w : World) (l : List Nat) (e : Ending) (w' : World) : Prop := ∃ a c, e = .returned (.slice a l.length c) ∧ JRd w' a l w'.heap.size ∧ Below w.heap.size w w'
set_option maxHeartbeats 1000000 in
theorem wclone_any (a : Option Addr) (cap : Nat) (l : List Nat) (w : World) (hn : l.length ≤ 1048576) (hr : JRd w a l w.heap.size) :
    Calls Tryd.prog 32 #[.slice a l.length cap] w (CnW w l) := by
  obtain ⟨i0, hi, hz0, hz1, hz2⟩ := info_parts Tryd.infoD
  have hq := nil_eqW a l.length cap w
  have own0 := World.ownsRow_lit (size := 1) (base := w.heap.size) (e := 36) w #[] 0 (Nat.le_refl _) (by decide) rfl
  have hb0 : Below w.heap.size w (w.alloc (.cells #[] 36)) := (Below.refl w.heap.size w).alloc (Nat.le_refl _) _
  by_cases hpos : 0 < l.length
  · obtain ⟨b, off, rfl, hlt, hc⟩ := hr hpos
    have HC : Hid (∀ j u, (dv l)[j]? = some u → (w.alloc (.cells #[] 36)).cell? ((⟨b, off, none⟩ : Addr).add j) = some u) := by
      refine hidS fun j u hj => ?_
      have hjl : j < l.length := by
        have := (List.getElem?_eq_some_iff.1 hj).1
        simpa [dv] using this
      rw [add_plain, hb0.cell hlt, hc j hjl, ← hj]
      simp [dv, hjl]
    have HD : Hid ((dv l).length = l.length * 1) := by simp [dv, Hid]
    have HE : Hid (∀ u ∈ dv l, u.oneCell' = true) := hidS fun u hu => by
      simp only [dv, List.mem_map] at hu
      obtain ⟨z, _, rfl⟩ := hu
      rfl
    clear hc hr
    simp only [Option.isNone_some] at hq
    go_enter Tryd.func32, Tryd.ntmps32
    go_wp2_with (at_builtin; refine wpList_append_lies _ rfl _ _ 23 rfl w.heap.size 36 i0 (.int .u32 0) 1 4 Tryd.underlying23 hi hz0 hz1 hz2 rfl (by decide) _ 0 [] rfl own0 ⟨b, off, none⟩ l.length cap (dv l) rfl HD.out HC.out HE.out hpos ?d3 ?d4 ?d5 (w.heap.size + 1) ?d6 ?_)
    case d3 => unfold maxLen; omega
    case d4 => omega
    intro g c w1 hown' hgrow _ _
    have R2 : Below w.heap.size w w1 := hb0.grown hgrow (by simp) (fun k e => by simp [Value.ownBlock] at e; omega)
    try simp only [Nat.zero_add, List.nil_append] at hown'
    clear hgrow own0 hb0 HC HD HE
    have HO := hidS hown'
    clear hown'
    go_wp2
    go_ret
    refine ⟨_, _, rfl, fun _ => ⟨g, 0, rfl, (HO.out.lt g rfl).2, fun j hj => ?_⟩, R2⟩
    rw [Nat.zero_add, HO.out.cellAt j (by omega)]
    simp [dv, hj]
  · have hl0 : l.length = 0 := by omega
    have hnil : ∀ (W : World) (a : Option Addr), JRd W a l W.heap.size := fun W a q => absurd q hpos
    have HN := hidS hnil
    clear hr hnil hpos
    rw [hl0] at hq
    unfold CnW
    rw [hl0]
    cases a with
    | none =>
      simp only [Option.isNone_none] at hq
      go_enter Tryd.func32, Tryd.ntmps32
      go_wp2
      go_ret
      exact ⟨_, ⟨_, rfl⟩, HN.out _ _, Below.refl _ _⟩
    | some ad =>
      simp only [Option.isNone_some] at hq
      go_enter Tryd.func32, Tryd.ntmps32
      go_wp2_with (at_builtin; refine wpList_append_zero rfl _ _ 23 rfl 36 i0 (.int .u32 0) Tryd.underlying23 hi hz0 _ _ _ _ _ rfl rfl (by decide) ?_)
      go_ret
      exact ⟨_, ⟨_, rfl⟩, HN.out _ _, hb0⟩
end Go.Proofs.YtahghghobibgdaaDoor
namespace Go.Proofs.YtahghghobibgdaaDoor
open Go.RowKit Go.WideShapes Go.Shelf
set_option maxRecDepth 100000
/-- what flow.Next leaves for an instruction of good code -/
def NeW (w : World) (l : List Nat) (e : Ending) (w' : World) : Prop := ∃ a c, e = .returned (.tuple #[.slice a l.length c, .int .i64 0]) ∧ JRd w' a l w'.heap.size ∧ Below w.heap.size w w'
set_option maxHeartbeats 1000000 in
theorem fnext_any (ao aj : Option Addr) (cap capj : Nat) (L : List (Nat × Nat)) (J : List Nat) (w : World) (hn : L.length ≤ 9223372036854775807) (hJn : J.length ≤ 9223372036854775807) (hwf : Wfc L) (hJ : ∀ z ∈ J, z < 4294967296)
    (hr : CRd w ao L w.heap.size) (hrJ : JRd w aj J w.heap.size) (hT : TabW w) (hp : 0 < w.heap.size) (hGd : FdG L J []) (i : Nat) (hi : i < L.length) :
    Calls Tryd.prog 30 #[.slice ao L.length cap, .slice aj J.length capj, .int .u32 i] w (NeW w (nxt L J i)) := by
  have HC : Calls Tryd.prog 19 #[.slice ao L.length cap, .slice aj J.length capj] w fun e w' => Below w.heap.size w w' ∧ ∃ kc pp ta tc, e = .returned (.tuple #[.pointer (some ⟨kc, 0, none⟩), .int .i64 0, .int .i64 0]) ∧ ChS w' kc pp ta tc ao cap L J := (charted_any ao aj cap capj L J w hn hJn hwf hJ hr hrJ hT hp).mono (by
    rintro e w' ⟨hb, ⟨i1, x1, rfl, hx1, hfb⟩ | ⟨kc, pp, ta, tc, rfl, hS, _, _⟩⟩
    · exact absurd (fdG_not hGd hfb) hx1
    · exact ⟨hb, kc, pp, ta, tc, rfl, hS⟩)
  have hl : L.length ≤ 16384 := encX_len hGd.enc
  have hE := hGd.fst
  have hop : opL L i < 256 := (hwf.at hi).1
  have hlt : (i : Int) < (L.length : Int) := by omega
  have hle : ¬ (L.length : Int) ≤ (i : Int) := by omega
  clear hr hrJ hT
  go_enter Tryd.func30, Tryd.ntmps30
  go_wp2_with fail
  refine HC.mono ?_
  rintro e w1 ⟨hb1, kc, pp, ta, tc, rfl, hS⟩
  have HE : Calls Tryd.prog 50 #[.pointer (some ⟨kc, 0, none⟩)] w1 fun e w' => e = .returned (.int .u32 (L.length : Nat)) ∧ w' = w1 := cend_any hS hl
  have HN : Calls Tryd.prog 33 #[.pointer (some ⟨kc, 0, none⟩), .int .u32 i] w1 (RtW w1 w1 (nxt L J i)) := next_any' hS (Below.refl _ _) hl hE i hi hop
  have hnl := nxt_len (J := J) hl i
  have HF := hidS (And.intro hb1 hnl)
  clear hb1 hS HC hnl hGd
  go_wp2_with fail
  refine HE.mono ?_
  rintro e w1' ⟨rfl, rfl⟩
  go_wp2_with fail
  refine HN.mono ?_
  rintro e w2 ⟨a2, c2, rfl, hy, hb2⟩
  have HL := wclone_any a2 c2 (nxt L J i) w2 (by have := HF.out.2; omega) hy.jrd
  have HG := hidS (btP HF.out.1 hb2)
  clear hb2 hy HN HE
  go_wp2_with fail
  refine HL.mono ?_
  rintro e w3 ⟨a3, c3, rfl, hj, hb3⟩
  have HH := hidS (And.intro hj (btP HG.out hb3))
  clear hj hb3 HL
  go_wp2
  refine bodyPost_ret (v := .tuple #[.slice a3 (nxt L J i).length c3, .int .i64 0]) (by simp [results, Tryd.f30, go_sem]) rfl ⟨a3, c3, rfl, HH.out⟩
end Go.Proofs.YtahghghobibgdaaDoor
