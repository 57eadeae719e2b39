import Derived.Test.YtkoklkbjcfhmkaaWholeMath
import Derived.Test.YtkoklkbjcfhmkaaNilCmp
import Derived.Test.YtkoklkbjcfhmkaaRefCuts
import Derived.Test.YtkoklkbjcfhmkaaRound
namespace Go.Proofs.Ytkoklkbjcfhmkaa
open Go.RowKit Go.Shelf
attribute [local go_sem] Oper.semAt_some

def bv (L : List Int) : List Value := L.map (Value.int .u8)
def plP (l : List (Nat × Int)) : List Value := l.map fun x => .int .i64 (x.1 : Int)
def nmP (l : List (Nat × Int)) : List Value := l.map fun x => .int .i32 x.2
def fl (zs : List Int) (k : Nat) : List Int := ((zs.map fix).take k).flatMap encZ
def ex (zs : List Int) (k : Nat) : List (Nat × Int) := exps 0 ((zs.map fix).take k)

theorem Try.info5 : (Try.prog.info? 5).map (fun i => (i.zero, i.size, i.bytes)) = some (some (.int .u8 0), 1, 1) := by kernel_rfl
theorem coded_L (L : List Int) (r : Int) (w : World) (hL : L = encZ r) (h0 : 0 ≤ r) (h1 : r ≤ 1114111) :
    Calls Try.prog 16 #[.int .i32 r] w fun e w' => e = .returned (.slice (some ⟨w.heap.size, 0, none⟩) L.length L.length) ∧ w' = w.alloc (.cells (L.map (Value.int .u8)).toArray 5) := by
  subst hL; exact coded_any r w h0 h1

theorem news_new (V : World) (cs : Array Value) (t : Nat) {n : Nat} (hn : V.heap.size = n) : ∀ j u, cs.toList[j]? = some u → (V.alloc (.cells cs t)).cell? ((⟨n, 0, none⟩ : Addr).add j) = some u := by
  subst hn
  exact World.news_of_block (heap_alloc_new V _)
theorem box_grow {B b t e n : Nat} {w w1 : World} {v v0 : Value} {ys : List Value} {o : Obj} (h : Boxed w b t v) (hb : b < B) (own : w.ownsRow B e 1 v0 n ys) (hg : (w.alloc o).grownBy w1 v0.ownBlock) : Boxed w1 b t v :=
  (h.alloc o).kept hg (fun e => by have := (own.lt b e.symm).1; omega)
theorem below_grow {B b e n : Nat} {a w w1 : World} {v0 : Value} {ys : List Value} {o : Obj} (h : Below b a w) (hb : b ≤ B) (hB : b ≤ w.heap.size) (own : w.ownsRow B e 1 v0 n ys) (hg : (w.alloc o).grownBy w1 v0.ownBlock) : Below b a w1 :=
  (h.alloc hB o).grown hg (by simp; omega) (fun k e => by have := (own.lt k e).1; omega)

theorem own_shape2 {w : World} {B e n : Nat} {v : Value} {xs : List Value} (h : w.ownsRow B e 1 v n xs) : ∃ ao cap, v = .slice ao n cap := by
  rcases h.2 with ⟨rfl, rfl⟩ | ⟨g, cap, cur, rfl, _⟩
  · exact ⟨none, 0, rfl⟩
  · exact ⟨some ⟨g, 0, none⟩, cap, rfl⟩

theorem conv_own {w : World} {B : Nat} {v : Value} {L : List Int} (h : w.ownsRow B 5 1 v L.length (bv L)) : ∀ dst, Try.prog.underlying dst = some .string → (convert 26 dst v).run Try.prog w = .ok (.string (strOfNums L)) w := by
  intro dst hd
  rcases h.2 with ⟨rfl, h0⟩ | ⟨g, cap, cur, rfl, _⟩
  · have : L = [] := List.eq_nil_of_length_eq_zero h0
    subst this
    exact run_convert_bytes_nil w 26 5 Try.underlying26 Try.underlying5 0 0 dst hd
  · refine run_convert_bytes_arg w 26 5 Try.underlying26 Try.underlying5 g 0 L.length cap L rfl (fun i hi => ?_) dst hd
    have := h.cells (g := g) rfl i (.int .u8 (L.getD i 0)) (by simp [bv, List.getD, List.getElem?_eq_getElem hi])
    have hadd : (⟨g, 0, none⟩ : Addr).add i = ⟨g, 0 + i, none⟩ := by unfold Addr.add; split <;> simp_all
    rw [← hadd]; exact this

/-- the last thing is not the one that is asked for -/
def BadW {s : ByteArray} (E : List (Nat × Int)) (pre : List (Cut s)) : Prop := ∃ q x, pre = q ++ [x] ∧ E[q.length]? ≠ some x.1
theorem pre_get {s : ByteArray} {E : List (Nat × Int)} {q : List (Cut s)} {y : Cut s} (h : (cuts s).map (·.1) = E) (hp : q ++ [y] <+: cuts s) : E[q.length]? = some y.1 := by
  obtain ⟨t, ht⟩ := hp
  rw [← h, ← ht]
  simp
theorem row_cell {w : World} {B e n cap j : Nat} {ao : Option Addr} {xs : List Value} {u : Value} (h : w.ownsRow B e 1 (.slice ao n cap) n xs) (hu : xs[j]? = some u) : ∃ g, ao = some ⟨g, 0, none⟩ ∧ w.cell? ⟨g, j, none⟩ = some u := by
  have hl := h.1
  rcases h.2 with ⟨h1, rfl⟩ | ⟨g, cap', cur, h1, _⟩
  · have : xs = [] := List.eq_nil_of_length_eq_zero (by omega)
    subst this
    simp at hu
  · simp only [Value.slice.injEq] at h1
    obtain ⟨rfl, _⟩ := h1
    refine ⟨g, rfl, ?_⟩
    have := h.cells (g := g) rfl j u hu
    have hadd : (⟨g, 0, none⟩ : Addr).add j = ⟨g, j, none⟩ := by unfold Addr.add; split <;> simp_all
    rwa [hadd] at this
theorem row_step {A B : World} {row : Option Nat} {b e n : Nat} {v : Value} {xs : List Value} (h : A.ownsRow b e 1 v n xs) (hg : A.grownBy B row) (hr : ∀ r, row = some r → ∃ o : Obj, A.heap[r]? = some o ∧ o.isCells = false) : B.ownsRow b e 1 v n xs := by
  refine h.kept hg ?_
  rcases h.2 with ⟨rfl, _⟩ | ⟨g, cap, cur, rfl, _, hh, _⟩
  · exact .inl rfl
  · right
    intro e
    obtain ⟨o, ho, hc⟩ := hr g e.symm
    rw [hh] at ho
    cases ho
    simp [Obj.isCells] at hc
theorem row_set {W : World} {b e n c : Nat} {v : Value} {xs : List Value} (h : W.ownsRow b e 1 v n xs) (hne : ∀ g, v.ownBlock = some g → g ≠ c) (u' : Value) : (W.setCell ⟨c, 0, none⟩ u').ownsRow b e 1 v n xs :=
  h.kept (grownBy_setCell' W c u') (by
    cases hv : v.ownBlock with
    | none => exact .inl rfl
    | some g => right; intro e; exact hne g hv (Option.some.inj e))

/-- what the first loop has laid -/
def Laid (zs : List Int) (w wr : World) (v3 : Value) (k : Nat) : Prop := ∃ v4 v5 : Value,
  wr.ownsRow (w.heap.size + 3) 5 1 v3 (fl zs k).length (bv (fl zs k)) ∧ wr.ownsRow (w.heap.size + 3) 21 1 v4 k (nmP (ex zs k)) ∧ wr.ownsRow (w.heap.size + 3) 3 1 v5 k (plP (ex zs k)) ∧
  Boxed wr w.heap.size 4 (.bool false) ∧ Boxed wr (w.heap.size + 1) 36 v4 ∧ Boxed wr (w.heap.size + 1 + 1) 37 v5 ∧ Below w.heap.size w wr

theorem fl_len (zs : List Int) (k : Nat) : (fl zs k).length ≤ 4 * k := by
  have h : ∀ l : List Int, (l.flatMap encZ).length ≤ 4 * l.length := by
    intro l
    induction l with
    | nil => simp
    | cons a l ih => have := (encZ_len a).2; simp only [List.flatMap_cons, List.length_append, List.length_cons]; omega
  have h1 := h ((zs.map fix).take k)
  have h2 : ((zs.map fix).take k).length ≤ k := List.length_take_le _ _
  unfold fl; omega
theorem tk (zs : List Int) (k : Nat) (h : k < zs.length) : (zs.map fix).take (k + 1) = (zs.map fix).take k ++ [fix (zs.getD k 0)] := by
  rw [List.take_succ_eq_append_getElem (by simpa using h)]
  simp [List.getD, List.getElem?_eq_getElem h]

section
variable {zs : List Int} {w w5 : World} {k g4 p4 g5 p5 : Nat} {v3' : Value} {r r0 : Int} {L : List Int}
theorem wrel {V4 V5 : List Value} (htk : (zs.map fix).take (k + 1) = (zs.map fix).take k ++ [fix r0]) (hr : r = fix r0) (hL : L = encZ r) (hk : k + 1 ≤ zs.length)
    (own3 : w5.ownsRow (w.heap.size + 3) 5 1 v3' ((fl zs k).length + L.length) (bv (fl zs k) ++ (L.map (Value.int .u8)).toArray.toList))
    (own4 : w5.ownsRow (w.heap.size + 3) 21 1 (.slice (some ⟨g4, 0, none⟩) (k + 1) p4) (k + 1) (nmP (ex zs k) ++ V4)) (own5 : w5.ownsRow (w.heap.size + 3) 3 1 (.slice (some ⟨g5, 0, none⟩) (k + 1) p5) (k + 1) (plP (ex zs k) ++ V5))
    (x0 : Boxed w5 w.heap.size 4 (.bool false)) (x1 : Boxed w5 (w.heap.size + 1) 36 (.slice (some ⟨g4, 0, none⟩) (k + 1) p4)) (x2 : Boxed w5 (w.heap.size + 1 + 1) 37 (.slice (some ⟨g5, 0, none⟩) (k + 1) p5)) (hb : Below w.heap.size w w5)
    (e4 : V4 = [.int .i32 r] := by rfl) (e5 : V5 = [.int .i64 ((fl zs k).length : Int)] := by rfl) :
    ∃ k' : Nat, k' ≤ zs.length ∧ Value.int .i64 ((k : Int) + 1) = .int .i64 k' ∧ Laid zs w w5 v3' k' := by
  subst e4; subst e5
  have ef : fl zs (k + 1) = fl zs k ++ L := by unfold fl; rw [htk, List.flatMap_append, hL, hr]; simp
  have ee : ex zs (k + 1) = ex zs k ++ [((fl zs k).length, r)] := by unfold ex fl; rw [htk, exps_snoc, hr, Nat.zero_add]
  refine ⟨k + 1, hk, by go_num, _, _, ?_, ?_, ?_, x0, x1, x2, hb⟩
  · rw [ef, List.length_append]
    have : bv (fl zs k ++ L) = bv (fl zs k) ++ (L.map (Value.int .u8)).toArray.toList := by simp [bv]
    rw [this]; exact own3
  · rw [ee]
    have : nmP (ex zs k ++ [((fl zs k).length, r)]) = nmP (ex zs k) ++ [.int .i32 r] := by simp [nmP]
    rw [this]; exact own4
  · rw [ee]
    have : plP (ex zs k ++ [((fl zs k).length, r)]) = plP (ex zs k) ++ [.int .i64 ((fl zs k).length : Int)] := by simp [plP]
    rw [this]; exact own5
end

/-- what a slice of numbers that is read holds -/
def ReadsI (w : World) (ao : Option Addr) (zs : List Int) (B : Nat) : Prop :=
  0 < zs.length → ∃ b off, ao = some ⟨b, off, none⟩ ∧ b < B ∧ ∀ j, j < zs.length → w.cell? ⟨b, off + j, none⟩ = some (.int .i32 (zs.getD j 0))
theorem ReadsI.below {w w' : World} {ao : Option Addr} {zs : List Int} {B : Nat} (h : ReadsI w ao zs B) (hb : Below B w w') : ReadsI w' ao zs B := by
  intro hl
  obtain ⟨b, off, e, hlt, hc⟩ := h hl
  exact ⟨b, off, e, hlt, fun j hj => (hb.cell (p := ⟨b, off + j, none⟩) hlt).trans (hc j hj)⟩

set_option maxRecDepth 100000 in
set_option maxHeartbeats 4000000 in
theorem whole_round (ao : Option Addr) (cap : Nat) (zs : List Int) (w : World) (hn : zs.length ≤ 1048576) (hwf : ∀ z ∈ zs, -2147483648 ≤ z ∧ z ≤ 2147483647) (hr : ReadsI w ao zs w.heap.size) :
    Calls Try.prog 6 #[.slice ao zs.length cap] w fun e w' => e = .returned (.bool true) ∧ Below w.heap.size w w' := by
  obtain ⟨i3, hi3, hz30, hz31, hz32⟩ := info_parts Try.info3
  obtain ⟨i21, hi21, hz10, hz11, hz12⟩ := info_parts Try.info21
  obtain ⟨i0, hi0, hz0, hz1, hz2⟩ := info_parts Try.info5
  refine (callsIn_wide (n := 9)).1 ?_
  refine callsIn_of_wp_marks Try.func6 rfl trivial ?_ rfl
  simp only [Try.ntmps6, List.size_toArray, List.length_cons, List.length_nil, Nat.reduceAdd, Nat.reduceSub, Array.replicate_succ, Array.replicate_zero, List.push_toArray, List.append_toArray, List.nil_append, List.cons_append]
  refine (wpIn_wide (n := 9)).2 ?_
  go_wp2
  go_loopw [3, 6] (fun v i wr => ∃ k : Nat, k ≤ zs.length ∧ i = .int .i64 k ∧ Laid zs w wr v k) (fun _ i _ => zs.length - (intOf i).toNat)
  case atStart =>
    refine ⟨0, Nat.zero_le _, rfl, .slice none 0 0, .slice none 0 0, World.ownsRow_nil _ _ _ _, World.ownsRow_nil _ _ _ _, World.ownsRow_nil _ _ _ _, ?_, ?_, ?_, ?_⟩
    · exact ((Boxed.new w 4 _).alloc _).alloc _
    · have := (Boxed.new (w.alloc (.cells #[.bool false] 4)) 36 (.slice none 0 0)).alloc (.cells #[.slice none 0 0] 37)
      rwa [World.size_alloc] at this
    · have := Boxed.new ((w.alloc (.cells #[.bool false] 4)).alloc (.cells #[.slice none 0 0] 36)) 37 (.slice none 0 0)
      rwa [World.size_alloc, World.size_alloc] at this
    · exact (((Below.refl _ w).alloc (Nat.le_refl _) _).alloc (by simp) _).alloc (by simp; omega) _
  case round =>
    obtain ⟨k, hk, rfl, v4, v5, own3, own4, own5, bx0, bx1, bx2, hb⟩ := hrel
    have hfl := fl_len zs k
    obtain ⟨ao3, cp3, rfl⟩ := own_shape2 own3
    have hB := bx2.lt
    by_cases hlt : k < zs.length
    · obtain ⟨b, off, rfl, hbl, hc⟩ := (hr.below hb) (by omega)
      have hck := hc k hlt
      clear hc
      have hts := tk zs k hlt
      have hcw : -2147483648 ≤ zs.getD k 0 ∧ zs.getD k 0 ≤ 2147483647 := hwf _ (by simp [List.getD, List.getElem?_eq_getElem hlt])
      generalize zs.getD k 0 = r0 at hck hts hcw
      have HTK : Hid ((zs.map fix).take (k + 1) = (zs.map fix).take k ++ [fix r0]) := hts
      obtain ⟨hc0, hc1⟩ := hcw
      clear hts
      have c1 := bx1.cell; have c2 := bx2.cell; have f1 := bx1.frozen; have f2 := bx2.frozen
      by_cases a1 : r0 < 0
      · skip
        have HFX : Hid (fix r0 = 65533) := by rw [Hid, fix]; rw [if_pos (by omega)]
        obtain ⟨r, hr⟩ : ∃ r, r = fix r0 := ⟨_, rfl⟩
        have HRX : Hid (r = fix r0) := hr
        have hre : r = 65533 := by rw [hr]; exact HFX.out
        clear hr
        subst hre
        obtain ⟨L, hL⟩ : ∃ L, L = encZ 65533 := ⟨_, rfl⟩
        have HL : Hid (L = encZ 65533) := hL
        have hLl : L.length ≤ 4 := by rw [hL]; exact (encZ_len 65533).2
        clear hL
        go_wp2_with (first | (go_at_call 16; refine (coded_L L 65533 _ HL.out (by omega) (by omega)).mono ?_; rintro e w' ⟨rfl, rfl⟩) | (at_builtin; refine wpList_append_lies _ rfl (.tmp 36) (.tmp 39) 37 rfl (w.heap.size + 3) 3 i3 (.int .i64 0) 1 8 Try.underlying37 hi3 hz30 hz31 hz32 rfl (by decide) _ _ _ rfl (own5.alloc _) ⟨_, 0, none⟩ 1 1 _ rfl rfl (news_new _ _ _ (by simp)) (by intro u hu; simp at hu; subst hu; rfl) (by decide) (by unfold maxLen; omega) (by omega) (by simp; omega) _ rfl ?_; intro g5 p5 w1 own51 grow1 _ _; have own31 := own_other (by decide) own3 own5 grow1; have own41 := own_other (by decide) own4 own5 grow1; have x01 := box_grow bx0 (by omega) own5 grow1; have x11 := box_grow bx1 (by omega) own5 grow1; have x21 := box_grow bx2 (by omega) own5 grow1; have hb1 := below_grow hb (by omega) (by omega) own5 grow1; have c21 := x21.cell; have f21 := x21.frozen; have own32 := ownsRow_setCell_below own31 (a := ⟨w.heap.size + 1 + 1, 0, none⟩) (by show w.heap.size + 1 + 1 < _; omega) (.slice (some ⟨g5, 0, none⟩) (k + 1) p5); have own42 := ownsRow_setCell_below own41 (a := ⟨w.heap.size + 1 + 1, 0, none⟩) (by show w.heap.size + 1 + 1 < _; omega) (.slice (some ⟨g5, 0, none⟩) (k + 1) p5); have own52 := ownsRow_setCell_below own51 (a := ⟨w.heap.size + 1 + 1, 0, none⟩) (by show w.heap.size + 1 + 1 < _; omega) (.slice (some ⟨g5, 0, none⟩) (k + 1) p5); have x02 := x01.other (B' := w.heap.size + 1 + 1) (by omega) (.slice (some ⟨g5, 0, none⟩) (k + 1) p5); have x12 := x11.other (B' := w.heap.size + 1 + 1) (by omega) (.slice (some ⟨g5, 0, none⟩) (k + 1) p5); have x22 := x21.set (.slice (some ⟨g5, 0, none⟩) (k + 1) p5); have hb2 := hb1.setCell (p := ⟨w.heap.size + 1 + 1, 0, none⟩) (by show w.heap.size ≤ w.heap.size + 1 + 1; omega) (.slice (some ⟨g5, 0, none⟩) (k + 1) p5); have c12 := x12.cell; have hs2 := x21.lt) | (at_builtin; refine wpList_append_lies _ rfl (.tmp 41) (.tmp 43) 36 rfl (w.heap.size + 3) 21 i21 (.int .i32 0) 1 4 Try.underlying36 hi21 hz10 hz11 hz12 rfl (by decide) _ _ _ rfl (own42.alloc _) ⟨_, 0, none⟩ 1 1 _ rfl rfl (news_new _ _ _ (by simp)) (by intro u hu; simp at hu; subst hu; rfl) (by decide) (by unfold maxLen; omega) (by omega) (by simp; omega) _ rfl ?_; intro g4 p4 w3 own43 grow3 _ _; have own33 := own_other (by decide) own32 own42 grow3; have own53 := own_other (by decide) own52 own42 grow3; have x03 := box_grow x02 (by omega) own42 grow3; have x13 := box_grow x12 (by omega) own42 grow3; have x23 := box_grow x22 (by omega) own42 grow3; have hb3 := below_grow hb2 (by omega) (by rw [World.size_setCell]; omega) own42 grow3; have c13 := x13.cell; have f13 := x13.frozen; have own34 := ownsRow_setCell_below own33 (a := ⟨w.heap.size + 1, 0, none⟩) (by show w.heap.size + 1 < _; omega) (.slice (some ⟨g4, 0, none⟩) (k + 1) p4); have own44 := ownsRow_setCell_below own43 (a := ⟨w.heap.size + 1, 0, none⟩) (by show w.heap.size + 1 < _; omega) (.slice (some ⟨g4, 0, none⟩) (k + 1) p4); have own54 := ownsRow_setCell_below own53 (a := ⟨w.heap.size + 1, 0, none⟩) (by show w.heap.size + 1 < _; omega) (.slice (some ⟨g4, 0, none⟩) (k + 1) p4); have x04 := x03.other (B' := w.heap.size + 1) (by omega) (.slice (some ⟨g4, 0, none⟩) (k + 1) p4); have x24 := x23.other (B' := w.heap.size + 1) (by omega) (.slice (some ⟨g4, 0, none⟩) (k + 1) p4); have x14 := x13.set (.slice (some ⟨g4, 0, none⟩) (k + 1) p4); have hb4 := hb3.setCell (p := ⟨w.heap.size + 1, 0, none⟩) (by show w.heap.size ≤ w.heap.size + 1; omega) (.slice (some ⟨g4, 0, none⟩) (k + 1) p4); have hs4 := x23.lt) | (at_builtin; refine wpList_append_own _ rfl (.tmp 45) (.tmp 47) 26 rfl (w.heap.size + 3) 5 i0 (.int .u8 0) 1 1 Try.underlying26 hi0 hz0 hz1 hz2 rfl (by decide) _ _ _ rfl (own34.alloc _) ⟨_, 0, none⟩ L.length L.length _ rfl (by simp) (news_new _ _ _ (by simp)) (by intro u hu; simp at hu; obtain ⟨z, _, rfl⟩ := hu; rfl) (by unfold maxLen; omega) (by omega) (by simp; omega) ?_; intro v3' w5 own35 grow5 _; have own45 := own_other (by decide) own44 own34 grow5; have own55 := own_other (by decide) own54 own34 grow5; have x05 := box_grow x04 (by omega) own34 grow5; have x15 := box_grow x14 (by omega) own34 grow5; have x25 := box_grow x24 (by omega) own34 grow5; have hb5 := below_grow hb4 (by omega) (by rw [World.size_setCell]; omega) own34 grow5))
        go_roundw
        case rel => exact wrel HTK.out HRX.out HL.out (by omega) own35 own45 own55 x05 x15 x25 hb5
        case measure => simp [intOf]; omega
      · by_cases a2 : 1114111 < r0
        · have a1' : 0 ≤ r0 := by omega
          have HFX : Hid (fix r0 = 65533) := by rw [Hid, fix]; rw [if_pos (by omega)]
          obtain ⟨r, hr⟩ : ∃ r, r = fix r0 := ⟨_, rfl⟩
          have HRX : Hid (r = fix r0) := hr
          have hre : r = 65533 := by rw [hr]; exact HFX.out
          clear hr
          subst hre
          obtain ⟨L, hL⟩ : ∃ L, L = encZ 65533 := ⟨_, rfl⟩
          have HL : Hid (L = encZ 65533) := hL
          have hLl : L.length ≤ 4 := by rw [hL]; exact (encZ_len 65533).2
          clear hL
          go_wp2_with (first | (go_at_call 16; refine (coded_L L 65533 _ HL.out (by omega) (by omega)).mono ?_; rintro e w' ⟨rfl, rfl⟩) | (at_builtin; refine wpList_append_lies _ rfl (.tmp 36) (.tmp 39) 37 rfl (w.heap.size + 3) 3 i3 (.int .i64 0) 1 8 Try.underlying37 hi3 hz30 hz31 hz32 rfl (by decide) _ _ _ rfl (own5.alloc _) ⟨_, 0, none⟩ 1 1 _ rfl rfl (news_new _ _ _ (by simp)) (by intro u hu; simp at hu; subst hu; rfl) (by decide) (by unfold maxLen; omega) (by omega) (by simp; omega) _ rfl ?_; intro g5 p5 w1 own51 grow1 _ _; have own31 := own_other (by decide) own3 own5 grow1; have own41 := own_other (by decide) own4 own5 grow1; have x01 := box_grow bx0 (by omega) own5 grow1; have x11 := box_grow bx1 (by omega) own5 grow1; have x21 := box_grow bx2 (by omega) own5 grow1; have hb1 := below_grow hb (by omega) (by omega) own5 grow1; have c21 := x21.cell; have f21 := x21.frozen; have own32 := ownsRow_setCell_below own31 (a := ⟨w.heap.size + 1 + 1, 0, none⟩) (by show w.heap.size + 1 + 1 < _; omega) (.slice (some ⟨g5, 0, none⟩) (k + 1) p5); have own42 := ownsRow_setCell_below own41 (a := ⟨w.heap.size + 1 + 1, 0, none⟩) (by show w.heap.size + 1 + 1 < _; omega) (.slice (some ⟨g5, 0, none⟩) (k + 1) p5); have own52 := ownsRow_setCell_below own51 (a := ⟨w.heap.size + 1 + 1, 0, none⟩) (by show w.heap.size + 1 + 1 < _; omega) (.slice (some ⟨g5, 0, none⟩) (k + 1) p5); have x02 := x01.other (B' := w.heap.size + 1 + 1) (by omega) (.slice (some ⟨g5, 0, none⟩) (k + 1) p5); have x12 := x11.other (B' := w.heap.size + 1 + 1) (by omega) (.slice (some ⟨g5, 0, none⟩) (k + 1) p5); have x22 := x21.set (.slice (some ⟨g5, 0, none⟩) (k + 1) p5); have hb2 := hb1.setCell (p := ⟨w.heap.size + 1 + 1, 0, none⟩) (by show w.heap.size ≤ w.heap.size + 1 + 1; omega) (.slice (some ⟨g5, 0, none⟩) (k + 1) p5); have c12 := x12.cell; have hs2 := x21.lt) | (at_builtin; refine wpList_append_lies _ rfl (.tmp 41) (.tmp 43) 36 rfl (w.heap.size + 3) 21 i21 (.int .i32 0) 1 4 Try.underlying36 hi21 hz10 hz11 hz12 rfl (by decide) _ _ _ rfl (own42.alloc _) ⟨_, 0, none⟩ 1 1 _ rfl rfl (news_new _ _ _ (by simp)) (by intro u hu; simp at hu; subst hu; rfl) (by decide) (by unfold maxLen; omega) (by omega) (by simp; omega) _ rfl ?_; intro g4 p4 w3 own43 grow3 _ _; have own33 := own_other (by decide) own32 own42 grow3; have own53 := own_other (by decide) own52 own42 grow3; have x03 := box_grow x02 (by omega) own42 grow3; have x13 := box_grow x12 (by omega) own42 grow3; have x23 := box_grow x22 (by omega) own42 grow3; have hb3 := below_grow hb2 (by omega) (by rw [World.size_setCell]; omega) own42 grow3; have c13 := x13.cell; have f13 := x13.frozen; have own34 := ownsRow_setCell_below own33 (a := ⟨w.heap.size + 1, 0, none⟩) (by show w.heap.size + 1 < _; omega) (.slice (some ⟨g4, 0, none⟩) (k + 1) p4); have own44 := ownsRow_setCell_below own43 (a := ⟨w.heap.size + 1, 0, none⟩) (by show w.heap.size + 1 < _; omega) (.slice (some ⟨g4, 0, none⟩) (k + 1) p4); have own54 := ownsRow_setCell_below own53 (a := ⟨w.heap.size + 1, 0, none⟩) (by show w.heap.size + 1 < _; omega) (.slice (some ⟨g4, 0, none⟩) (k + 1) p4); have x04 := x03.other (B' := w.heap.size + 1) (by omega) (.slice (some ⟨g4, 0, none⟩) (k + 1) p4); have x24 := x23.other (B' := w.heap.size + 1) (by omega) (.slice (some ⟨g4, 0, none⟩) (k + 1) p4); have x14 := x13.set (.slice (some ⟨g4, 0, none⟩) (k + 1) p4); have hb4 := hb3.setCell (p := ⟨w.heap.size + 1, 0, none⟩) (by show w.heap.size ≤ w.heap.size + 1; omega) (.slice (some ⟨g4, 0, none⟩) (k + 1) p4); have hs4 := x23.lt) | (at_builtin; refine wpList_append_own _ rfl (.tmp 45) (.tmp 47) 26 rfl (w.heap.size + 3) 5 i0 (.int .u8 0) 1 1 Try.underlying26 hi0 hz0 hz1 hz2 rfl (by decide) _ _ _ rfl (own34.alloc _) ⟨_, 0, none⟩ L.length L.length _ rfl (by simp) (news_new _ _ _ (by simp)) (by intro u hu; simp at hu; obtain ⟨z, _, rfl⟩ := hu; rfl) (by unfold maxLen; omega) (by omega) (by simp; omega) ?_; intro v3' w5 own35 grow5 _; have own45 := own_other (by decide) own44 own34 grow5; have own55 := own_other (by decide) own54 own34 grow5; have x05 := box_grow x04 (by omega) own34 grow5; have x15 := box_grow x14 (by omega) own34 grow5; have x25 := box_grow x24 (by omega) own34 grow5; have hb5 := below_grow hb4 (by omega) (by rw [World.size_setCell]; omega) own34 grow5))
          go_roundw
          case rel => exact wrel HTK.out HRX.out HL.out (by omega) own35 own45 own55 x05 x15 x25 hb5
          case measure => simp [intOf]; omega
        · by_cases a3 : 55296 ≤ r0
          · by_cases a4 : r0 ≤ 57343
            · have a1' : 0 ≤ r0 := by omega
              have HFX : Hid (fix r0 = 65533) := by rw [Hid, fix]; rw [if_pos (by omega)]
              obtain ⟨r, hr⟩ : ∃ r, r = fix r0 := ⟨_, rfl⟩
              have HRX : Hid (r = fix r0) := hr
              have hre : r = 65533 := by rw [hr]; exact HFX.out
              clear hr
              subst hre
              obtain ⟨L, hL⟩ : ∃ L, L = encZ 65533 := ⟨_, rfl⟩
              have HL : Hid (L = encZ 65533) := hL
              have hLl : L.length ≤ 4 := by rw [hL]; exact (encZ_len 65533).2
              clear hL
              go_wp2_with (first | (go_at_call 16; refine (coded_L L 65533 _ HL.out (by omega) (by omega)).mono ?_; rintro e w' ⟨rfl, rfl⟩) | (at_builtin; refine wpList_append_lies _ rfl (.tmp 36) (.tmp 39) 37 rfl (w.heap.size + 3) 3 i3 (.int .i64 0) 1 8 Try.underlying37 hi3 hz30 hz31 hz32 rfl (by decide) _ _ _ rfl (own5.alloc _) ⟨_, 0, none⟩ 1 1 _ rfl rfl (news_new _ _ _ (by simp)) (by intro u hu; simp at hu; subst hu; rfl) (by decide) (by unfold maxLen; omega) (by omega) (by simp; omega) _ rfl ?_; intro g5 p5 w1 own51 grow1 _ _; have own31 := own_other (by decide) own3 own5 grow1; have own41 := own_other (by decide) own4 own5 grow1; have x01 := box_grow bx0 (by omega) own5 grow1; have x11 := box_grow bx1 (by omega) own5 grow1; have x21 := box_grow bx2 (by omega) own5 grow1; have hb1 := below_grow hb (by omega) (by omega) own5 grow1; have c21 := x21.cell; have f21 := x21.frozen; have own32 := ownsRow_setCell_below own31 (a := ⟨w.heap.size + 1 + 1, 0, none⟩) (by show w.heap.size + 1 + 1 < _; omega) (.slice (some ⟨g5, 0, none⟩) (k + 1) p5); have own42 := ownsRow_setCell_below own41 (a := ⟨w.heap.size + 1 + 1, 0, none⟩) (by show w.heap.size + 1 + 1 < _; omega) (.slice (some ⟨g5, 0, none⟩) (k + 1) p5); have own52 := ownsRow_setCell_below own51 (a := ⟨w.heap.size + 1 + 1, 0, none⟩) (by show w.heap.size + 1 + 1 < _; omega) (.slice (some ⟨g5, 0, none⟩) (k + 1) p5); have x02 := x01.other (B' := w.heap.size + 1 + 1) (by omega) (.slice (some ⟨g5, 0, none⟩) (k + 1) p5); have x12 := x11.other (B' := w.heap.size + 1 + 1) (by omega) (.slice (some ⟨g5, 0, none⟩) (k + 1) p5); have x22 := x21.set (.slice (some ⟨g5, 0, none⟩) (k + 1) p5); have hb2 := hb1.setCell (p := ⟨w.heap.size + 1 + 1, 0, none⟩) (by show w.heap.size ≤ w.heap.size + 1 + 1; omega) (.slice (some ⟨g5, 0, none⟩) (k + 1) p5); have c12 := x12.cell; have hs2 := x21.lt) | (at_builtin; refine wpList_append_lies _ rfl (.tmp 41) (.tmp 43) 36 rfl (w.heap.size + 3) 21 i21 (.int .i32 0) 1 4 Try.underlying36 hi21 hz10 hz11 hz12 rfl (by decide) _ _ _ rfl (own42.alloc _) ⟨_, 0, none⟩ 1 1 _ rfl rfl (news_new _ _ _ (by simp)) (by intro u hu; simp at hu; subst hu; rfl) (by decide) (by unfold maxLen; omega) (by omega) (by simp; omega) _ rfl ?_; intro g4 p4 w3 own43 grow3 _ _; have own33 := own_other (by decide) own32 own42 grow3; have own53 := own_other (by decide) own52 own42 grow3; have x03 := box_grow x02 (by omega) own42 grow3; have x13 := box_grow x12 (by omega) own42 grow3; have x23 := box_grow x22 (by omega) own42 grow3; have hb3 := below_grow hb2 (by omega) (by rw [World.size_setCell]; omega) own42 grow3; have c13 := x13.cell; have f13 := x13.frozen; have own34 := ownsRow_setCell_below own33 (a := ⟨w.heap.size + 1, 0, none⟩) (by show w.heap.size + 1 < _; omega) (.slice (some ⟨g4, 0, none⟩) (k + 1) p4); have own44 := ownsRow_setCell_below own43 (a := ⟨w.heap.size + 1, 0, none⟩) (by show w.heap.size + 1 < _; omega) (.slice (some ⟨g4, 0, none⟩) (k + 1) p4); have own54 := ownsRow_setCell_below own53 (a := ⟨w.heap.size + 1, 0, none⟩) (by show w.heap.size + 1 < _; omega) (.slice (some ⟨g4, 0, none⟩) (k + 1) p4); have x04 := x03.other (B' := w.heap.size + 1) (by omega) (.slice (some ⟨g4, 0, none⟩) (k + 1) p4); have x24 := x23.other (B' := w.heap.size + 1) (by omega) (.slice (some ⟨g4, 0, none⟩) (k + 1) p4); have x14 := x13.set (.slice (some ⟨g4, 0, none⟩) (k + 1) p4); have hb4 := hb3.setCell (p := ⟨w.heap.size + 1, 0, none⟩) (by show w.heap.size ≤ w.heap.size + 1; omega) (.slice (some ⟨g4, 0, none⟩) (k + 1) p4); have hs4 := x23.lt) | (at_builtin; refine wpList_append_own _ rfl (.tmp 45) (.tmp 47) 26 rfl (w.heap.size + 3) 5 i0 (.int .u8 0) 1 1 Try.underlying26 hi0 hz0 hz1 hz2 rfl (by decide) _ _ _ rfl (own34.alloc _) ⟨_, 0, none⟩ L.length L.length _ rfl (by simp) (news_new _ _ _ (by simp)) (by intro u hu; simp at hu; obtain ⟨z, _, rfl⟩ := hu; rfl) (by unfold maxLen; omega) (by omega) (by simp; omega) ?_; intro v3' w5 own35 grow5 _; have own45 := own_other (by decide) own44 own34 grow5; have own55 := own_other (by decide) own54 own34 grow5; have x05 := box_grow x04 (by omega) own34 grow5; have x15 := box_grow x14 (by omega) own34 grow5; have x25 := box_grow x24 (by omega) own34 grow5; have hb5 := below_grow hb4 (by omega) (by rw [World.size_setCell]; omega) own34 grow5))
              go_roundw
              case rel => exact wrel HTK.out HRX.out HL.out (by omega) own35 own45 own55 x05 x15 x25 hb5
              case measure => simp [intOf]; omega
            · have a1' : 0 ≤ r0 := by omega
              have HFX : Hid (fix r0 = r0) := by rw [Hid, fix]; rw [if_neg (by omega)]
              obtain ⟨r, hr⟩ : ∃ r, r = fix r0 := ⟨_, rfl⟩
              have HRX : Hid (r = fix r0) := hr
              have hre : r = r0 := by rw [hr]; exact HFX.out
              clear hr
              subst hre
              obtain ⟨L, hL⟩ : ∃ L, L = encZ r := ⟨_, rfl⟩
              have HL : Hid (L = encZ r) := hL
              have hLl : L.length ≤ 4 := by rw [hL]; exact (encZ_len r).2
              clear hL
              go_wp2_with (first | (go_at_call 16; refine (coded_L L r _ HL.out (by omega) (by omega)).mono ?_; rintro e w' ⟨rfl, rfl⟩) | (at_builtin; refine wpList_append_lies _ rfl (.tmp 36) (.tmp 39) 37 rfl (w.heap.size + 3) 3 i3 (.int .i64 0) 1 8 Try.underlying37 hi3 hz30 hz31 hz32 rfl (by decide) _ _ _ rfl (own5.alloc _) ⟨_, 0, none⟩ 1 1 _ rfl rfl (news_new _ _ _ (by simp)) (by intro u hu; simp at hu; subst hu; rfl) (by decide) (by unfold maxLen; omega) (by omega) (by simp; omega) _ rfl ?_; intro g5 p5 w1 own51 grow1 _ _; have own31 := own_other (by decide) own3 own5 grow1; have own41 := own_other (by decide) own4 own5 grow1; have x01 := box_grow bx0 (by omega) own5 grow1; have x11 := box_grow bx1 (by omega) own5 grow1; have x21 := box_grow bx2 (by omega) own5 grow1; have hb1 := below_grow hb (by omega) (by omega) own5 grow1; have c21 := x21.cell; have f21 := x21.frozen; have own32 := ownsRow_setCell_below own31 (a := ⟨w.heap.size + 1 + 1, 0, none⟩) (by show w.heap.size + 1 + 1 < _; omega) (.slice (some ⟨g5, 0, none⟩) (k + 1) p5); have own42 := ownsRow_setCell_below own41 (a := ⟨w.heap.size + 1 + 1, 0, none⟩) (by show w.heap.size + 1 + 1 < _; omega) (.slice (some ⟨g5, 0, none⟩) (k + 1) p5); have own52 := ownsRow_setCell_below own51 (a := ⟨w.heap.size + 1 + 1, 0, none⟩) (by show w.heap.size + 1 + 1 < _; omega) (.slice (some ⟨g5, 0, none⟩) (k + 1) p5); have x02 := x01.other (B' := w.heap.size + 1 + 1) (by omega) (.slice (some ⟨g5, 0, none⟩) (k + 1) p5); have x12 := x11.other (B' := w.heap.size + 1 + 1) (by omega) (.slice (some ⟨g5, 0, none⟩) (k + 1) p5); have x22 := x21.set (.slice (some ⟨g5, 0, none⟩) (k + 1) p5); have hb2 := hb1.setCell (p := ⟨w.heap.size + 1 + 1, 0, none⟩) (by show w.heap.size ≤ w.heap.size + 1 + 1; omega) (.slice (some ⟨g5, 0, none⟩) (k + 1) p5); have c12 := x12.cell; have hs2 := x21.lt) | (at_builtin; refine wpList_append_lies _ rfl (.tmp 41) (.tmp 43) 36 rfl (w.heap.size + 3) 21 i21 (.int .i32 0) 1 4 Try.underlying36 hi21 hz10 hz11 hz12 rfl (by decide) _ _ _ rfl (own42.alloc _) ⟨_, 0, none⟩ 1 1 _ rfl rfl (news_new _ _ _ (by simp)) (by intro u hu; simp at hu; subst hu; rfl) (by decide) (by unfold maxLen; omega) (by omega) (by simp; omega) _ rfl ?_; intro g4 p4 w3 own43 grow3 _ _; have own33 := own_other (by decide) own32 own42 grow3; have own53 := own_other (by decide) own52 own42 grow3; have x03 := box_grow x02 (by omega) own42 grow3; have x13 := box_grow x12 (by omega) own42 grow3; have x23 := box_grow x22 (by omega) own42 grow3; have hb3 := below_grow hb2 (by omega) (by rw [World.size_setCell]; omega) own42 grow3; have c13 := x13.cell; have f13 := x13.frozen; have own34 := ownsRow_setCell_below own33 (a := ⟨w.heap.size + 1, 0, none⟩) (by show w.heap.size + 1 < _; omega) (.slice (some ⟨g4, 0, none⟩) (k + 1) p4); have own44 := ownsRow_setCell_below own43 (a := ⟨w.heap.size + 1, 0, none⟩) (by show w.heap.size + 1 < _; omega) (.slice (some ⟨g4, 0, none⟩) (k + 1) p4); have own54 := ownsRow_setCell_below own53 (a := ⟨w.heap.size + 1, 0, none⟩) (by show w.heap.size + 1 < _; omega) (.slice (some ⟨g4, 0, none⟩) (k + 1) p4); have x04 := x03.other (B' := w.heap.size + 1) (by omega) (.slice (some ⟨g4, 0, none⟩) (k + 1) p4); have x24 := x23.other (B' := w.heap.size + 1) (by omega) (.slice (some ⟨g4, 0, none⟩) (k + 1) p4); have x14 := x13.set (.slice (some ⟨g4, 0, none⟩) (k + 1) p4); have hb4 := hb3.setCell (p := ⟨w.heap.size + 1, 0, none⟩) (by show w.heap.size ≤ w.heap.size + 1; omega) (.slice (some ⟨g4, 0, none⟩) (k + 1) p4); have hs4 := x23.lt) | (at_builtin; refine wpList_append_own _ rfl (.tmp 45) (.tmp 47) 26 rfl (w.heap.size + 3) 5 i0 (.int .u8 0) 1 1 Try.underlying26 hi0 hz0 hz1 hz2 rfl (by decide) _ _ _ rfl (own34.alloc _) ⟨_, 0, none⟩ L.length L.length _ rfl (by simp) (news_new _ _ _ (by simp)) (by intro u hu; simp at hu; obtain ⟨z, _, rfl⟩ := hu; rfl) (by unfold maxLen; omega) (by omega) (by simp; omega) ?_; intro v3' w5 own35 grow5 _; have own45 := own_other (by decide) own44 own34 grow5; have own55 := own_other (by decide) own54 own34 grow5; have x05 := box_grow x04 (by omega) own34 grow5; have x15 := box_grow x14 (by omega) own34 grow5; have x25 := box_grow x24 (by omega) own34 grow5; have hb5 := below_grow hb4 (by omega) (by rw [World.size_setCell]; omega) own34 grow5))
              go_roundw
              case rel => exact wrel HTK.out HRX.out HL.out (by omega) own35 own45 own55 x05 x15 x25 hb5
              case measure => simp [intOf]; omega
          · have a1' : 0 ≤ r0 := by omega
            have HFX : Hid (fix r0 = r0) := by rw [Hid, fix]; rw [if_neg (by omega)]
            obtain ⟨r, hr⟩ : ∃ r, r = fix r0 := ⟨_, rfl⟩
            have HRX : Hid (r = fix r0) := hr
            have hre : r = r0 := by rw [hr]; exact HFX.out
            clear hr
            subst hre
            obtain ⟨L, hL⟩ : ∃ L, L = encZ r := ⟨_, rfl⟩
            have HL : Hid (L = encZ r) := hL
            have hLl : L.length ≤ 4 := by rw [hL]; exact (encZ_len r).2
            clear hL
            go_wp2_with (first | (go_at_call 16; refine (coded_L L r _ HL.out (by omega) (by omega)).mono ?_; rintro e w' ⟨rfl, rfl⟩) | (at_builtin; refine wpList_append_lies _ rfl (.tmp 36) (.tmp 39) 37 rfl (w.heap.size + 3) 3 i3 (.int .i64 0) 1 8 Try.underlying37 hi3 hz30 hz31 hz32 rfl (by decide) _ _ _ rfl (own5.alloc _) ⟨_, 0, none⟩ 1 1 _ rfl rfl (news_new _ _ _ (by simp)) (by intro u hu; simp at hu; subst hu; rfl) (by decide) (by unfold maxLen; omega) (by omega) (by simp; omega) _ rfl ?_; intro g5 p5 w1 own51 grow1 _ _; have own31 := own_other (by decide) own3 own5 grow1; have own41 := own_other (by decide) own4 own5 grow1; have x01 := box_grow bx0 (by omega) own5 grow1; have x11 := box_grow bx1 (by omega) own5 grow1; have x21 := box_grow bx2 (by omega) own5 grow1; have hb1 := below_grow hb (by omega) (by omega) own5 grow1; have c21 := x21.cell; have f21 := x21.frozen; have own32 := ownsRow_setCell_below own31 (a := ⟨w.heap.size + 1 + 1, 0, none⟩) (by show w.heap.size + 1 + 1 < _; omega) (.slice (some ⟨g5, 0, none⟩) (k + 1) p5); have own42 := ownsRow_setCell_below own41 (a := ⟨w.heap.size + 1 + 1, 0, none⟩) (by show w.heap.size + 1 + 1 < _; omega) (.slice (some ⟨g5, 0, none⟩) (k + 1) p5); have own52 := ownsRow_setCell_below own51 (a := ⟨w.heap.size + 1 + 1, 0, none⟩) (by show w.heap.size + 1 + 1 < _; omega) (.slice (some ⟨g5, 0, none⟩) (k + 1) p5); have x02 := x01.other (B' := w.heap.size + 1 + 1) (by omega) (.slice (some ⟨g5, 0, none⟩) (k + 1) p5); have x12 := x11.other (B' := w.heap.size + 1 + 1) (by omega) (.slice (some ⟨g5, 0, none⟩) (k + 1) p5); have x22 := x21.set (.slice (some ⟨g5, 0, none⟩) (k + 1) p5); have hb2 := hb1.setCell (p := ⟨w.heap.size + 1 + 1, 0, none⟩) (by show w.heap.size ≤ w.heap.size + 1 + 1; omega) (.slice (some ⟨g5, 0, none⟩) (k + 1) p5); have c12 := x12.cell; have hs2 := x21.lt) | (at_builtin; refine wpList_append_lies _ rfl (.tmp 41) (.tmp 43) 36 rfl (w.heap.size + 3) 21 i21 (.int .i32 0) 1 4 Try.underlying36 hi21 hz10 hz11 hz12 rfl (by decide) _ _ _ rfl (own42.alloc _) ⟨_, 0, none⟩ 1 1 _ rfl rfl (news_new _ _ _ (by simp)) (by intro u hu; simp at hu; subst hu; rfl) (by decide) (by unfold maxLen; omega) (by omega) (by simp; omega) _ rfl ?_; intro g4 p4 w3 own43 grow3 _ _; have own33 := own_other (by decide) own32 own42 grow3; have own53 := own_other (by decide) own52 own42 grow3; have x03 := box_grow x02 (by omega) own42 grow3; have x13 := box_grow x12 (by omega) own42 grow3; have x23 := box_grow x22 (by omega) own42 grow3; have hb3 := below_grow hb2 (by omega) (by rw [World.size_setCell]; omega) own42 grow3; have c13 := x13.cell; have f13 := x13.frozen; have own34 := ownsRow_setCell_below own33 (a := ⟨w.heap.size + 1, 0, none⟩) (by show w.heap.size + 1 < _; omega) (.slice (some ⟨g4, 0, none⟩) (k + 1) p4); have own44 := ownsRow_setCell_below own43 (a := ⟨w.heap.size + 1, 0, none⟩) (by show w.heap.size + 1 < _; omega) (.slice (some ⟨g4, 0, none⟩) (k + 1) p4); have own54 := ownsRow_setCell_below own53 (a := ⟨w.heap.size + 1, 0, none⟩) (by show w.heap.size + 1 < _; omega) (.slice (some ⟨g4, 0, none⟩) (k + 1) p4); have x04 := x03.other (B' := w.heap.size + 1) (by omega) (.slice (some ⟨g4, 0, none⟩) (k + 1) p4); have x24 := x23.other (B' := w.heap.size + 1) (by omega) (.slice (some ⟨g4, 0, none⟩) (k + 1) p4); have x14 := x13.set (.slice (some ⟨g4, 0, none⟩) (k + 1) p4); have hb4 := hb3.setCell (p := ⟨w.heap.size + 1, 0, none⟩) (by show w.heap.size ≤ w.heap.size + 1; omega) (.slice (some ⟨g4, 0, none⟩) (k + 1) p4); have hs4 := x23.lt) | (at_builtin; refine wpList_append_own _ rfl (.tmp 45) (.tmp 47) 26 rfl (w.heap.size + 3) 5 i0 (.int .u8 0) 1 1 Try.underlying26 hi0 hz0 hz1 hz2 rfl (by decide) _ _ _ rfl (own34.alloc _) ⟨_, 0, none⟩ L.length L.length _ rfl (by simp) (news_new _ _ _ (by simp)) (by intro u hu; simp at hu; obtain ⟨z, _, rfl⟩ := hu; rfl) (by unfold maxLen; omega) (by omega) (by simp; omega) ?_; intro v3' w5 own35 grow5 _; have own45 := own_other (by decide) own44 own34 grow5; have own55 := own_other (by decide) own54 own34 grow5; have x05 := box_grow x04 (by omega) own34 grow5; have x15 := box_grow x14 (by omega) own34 grow5; have x25 := box_grow x24 (by omega) own34 grow5; have hb5 := below_grow hb4 (by omega) (by rw [World.size_setCell]; omega) own34 grow5))
            go_roundw
            case rel => exact wrel HTK.out HRX.out HL.out (by omega) own35 own45 own55 x05 x15 x25 hb5
            case measure => simp [intOf]; omega
    · obtain rfl : k = zs.length := by omega
      have hcv := conv_own (own3.alloc (.cells #[.int .i64 0] 3)) 9 Try.underlying9
      have hnil := nilcmp (wr.heap.size + 1)
      go_wp2_with (go_at_call 15; refine (callsIn_wide.1 (runes_in 9 _ _)).mono ?_; rintro e w' ⟨rfl, rfl⟩)
      refine (wpIn_wide (n := 9)).1 ?_
      clear hcv hnil hwf hr hi3 hz30 hz31 hz32 hi21 hz10 hz11 hz12 hi0 hz0 hz1 hz2
      obtain ⟨ao4, cp4, rfl⟩ := own_shape2 own4
      obtain ⟨ao5, cp5, rfl⟩ := own_shape2 own5
      have hg4 : ∀ g, (Value.slice ao4 zs.length cp4).ownBlock = some g → g < wr.heap.size := fun g e => (own4.lt g e).2
      have hg5 : ∀ g, (Value.slice ao5 zs.length cp5).ownBlock = some g → g < wr.heap.size := fun g e => (own5.lt g e).2
      have HG4 : Hid (∀ g, (Value.slice ao4 zs.length cp4).ownBlock = some g → g < wr.heap.size) := hg4
      have HG5 : Hid (∀ g, (Value.slice ao5 zs.length cp5).ownBlock = some g → g < wr.heap.size) := hg5
      have HCU : Hid ((cuts (strOfNums (fl zs zs.length))).map (·.1) = ex zs zs.length) := cuts_str _ (fun r hr => by
        have := List.mem_of_mem_take hr
        obtain ⟨z, _, rfl⟩ := List.mem_map.1 this
        exact fix_valid z)
      have HEL : Hid ((ex zs zs.length).length = zs.length) := by rw [Hid, ex, exps_len]; simp
      have hSl : (strOfNums (fl zs zs.length)).size ≤ 4194304 := by rw [strOfNums_size]; omega
      generalize ex zs zs.length = E at *
      generalize strOfNums (fl zs zs.length) = S at *
      obtain ⟨W0, hW0⟩ : ∃ W0, ((wr.alloc (Obj.cells #[Value.int IntKind.i64 0] 3)).alloc (Obj.cells #[Value.string S] 9)) = W0 := ⟨_, rfl⟩
      have y0 : Boxed W0 w.heap.size 4 (.bool false) := by rw [← hW0]; exact (bx0.alloc _).alloc _
      have y1 : Boxed W0 (w.heap.size + 1) 36 (.slice ao4 zs.length cp4) := by rw [← hW0]; exact (bx1.alloc _).alloc _
      have y2 : Boxed W0 (w.heap.size + 1 + 1) 37 (.slice ao5 zs.length cp5) := by rw [← hW0]; exact (bx2.alloc _).alloc _
      have y3 : Boxed W0 wr.heap.size 3 (.int .i64 0) := by rw [← hW0]; exact (Boxed.new wr 3 _).alloc _
      have y4 : Boxed W0 (wr.heap.size + 1) 9 (.string S) := by
        rw [← hW0]; have := Boxed.new (wr.alloc (Obj.cells #[Value.int IntKind.i64 0] 3)) 9 (.string S)
        rwa [World.size_alloc] at this
      have z4 : W0.ownsRow (w.heap.size + 3) 21 1 (.slice ao4 zs.length cp4) zs.length (nmP E) := by rw [← hW0]; exact (own4.alloc _).alloc _
      have z5 : W0.ownsRow (w.heap.size + 3) 3 1 (.slice ao5 zs.length cp5) zs.length (plP E) := by rw [← hW0]; exact (own5.alloc _).alloc _
      have hB0 : Below w.heap.size w W0 := by rw [← hW0]; exact (hb.alloc hb.size _).alloc (by simp; have := hb.size; omega) _
      have hsz : W0.heap.size = wr.heap.size + 2 := by rw [← hW0]; simp
      have hwsz := hb.size
      rw [hW0]
      clear hW0 own3 own4 own5 bx0 bx1 bx2 hb
      refine wpIn_rangeFunc_ownF (F := Fence.wide) rfl (by decide) (gf := 23) (lb := #[.pointer (some ⟨wr.heap.size + 1, 0, none⟩)]) rfl trivial (enters_of Try.func23 (by kernel_rfl) rfl)
        (runes_stops (9 - 1) (by decide) (wr.heap.size + 1) S W0 y4) Kp_t (Kp_b (w := W0)) (Below.refl _ _) (fun _ => rfl)
        (fun pre W => (Boxed W w.heap.size 4 (.bool false) ∧ Boxed W (w.heap.size + 1) 36 (.slice ao4 zs.length cp4) ∧ Boxed W (w.heap.size + 1 + 1) 37 (.slice ao5 zs.length cp5) ∧ Boxed W wr.heap.size 3 (.int .i64 (pre.length : Nat)) ∧ W.ownsRow (w.heap.size + 3) 21 1 (.slice ao4 zs.length cp4) zs.length (nmP E) ∧ W.ownsRow (w.heap.size + 3) 3 1 (.slice ao5 zs.length cp5) zs.length (plP E) ∧ pre.length ≤ zs.length) ∧ Below w.heap.size w W)
        (fun _ pre _ => BadW E pre)
        (OwnFrom.and (Own.from (fun t A B row h hg hr => ⟨boxed_step h.1 hg hr, boxed_step h.2.1 hg hr, boxed_step h.2.2.1 hg hr, boxed_step h.2.2.2.1 hg hr, row_step h.2.2.2.2.1 hg hr, row_step h.2.2.2.2.2.1 hg hr, h.2.2.2.2.2.2⟩) _) (ownFrom_below (Nat.le_refl _) (by omega)))
        (fun c t A B row h hg hr => h)
        ⟨⟨y0, y1, y2, y3, z4, z5, Nat.zero_le _⟩, hB0⟩
        (fun x => { tmps := #[.slice ao zs.length cap, undef, .pointer (some ⟨w.heap.size, 0, none⟩), .slice ao3 (fl zs zs.length).length cp3, .pointer (some ⟨w.heap.size + 1, 0, none⟩), .pointer (some ⟨w.heap.size + 1 + 1, 0, none⟩), .int .i64 zs.length, u7, .pointer (some ⟨wr.heap.size, 0, none⟩), .func (.func 23) #[] #[.pointer (some ⟨wr.heap.size + 1, 0, none⟩)], .int .i64 (x.1.1 : Int), .int .i32 x.1.2, .int .i64 zs.length, .slice ao zs.length cap, .int .i64 zs.length, .bool false, u16, u17, u18, u19, u20, u21, u22, u23, u24, u25, u26, u27, u28, u29, u30, u31, u32, u33, u34, u35, u36, u37, u38, u39, u40, u41, u42, u43, u44, u45, u46, u47, u48, .slice ao3 (fl zs zs.length).length cp3, .string S, .func (.func 23) #[] #[.pointer (some ⟨wr.heap.size + 1, 0, none⟩)], .func (.func 23) #[] #[.pointer (some ⟨wr.heap.size + 1, 0, none⟩)], .bool false, .func (.func 23) #[] #[.pointer (some ⟨wr.heap.size + 1, 0, none⟩)], .int .i64 (x.1.1 : Int), .int .i32 x.1.2, undef, undef, undef, undef, undef, undef, undef, undef, undef, undef, undef, undef, undef, undef, undef, undef, undef, undef, undef, undef, undef, undef, undef, undef, undef, undef], defers := [] }) ?assign ?body ?done ?stop
      case assign =>
        intro l x W K hK
        unfold encs
        gi_wp2
        exact hK
      case body =>
        rintro l pre x W ⟨⟨h0, h1, h2, h3, r4, r5, hle⟩, hB⟩ hlen
        have c0 := h0.cell; have f0 := h0.frozen; have c1 := h1.cell; have c2 := h2.cell; have c3 := h3.cell; have f3 := h3.frozen
        have HX : Hid (E[pre.length]? ≠ some x.1 → BadW E (pre ++ [x])) := fun hne => ⟨pre, x, rfl, hne⟩
        obtain ⟨xp, hxp⟩ : ∃ xp, xp = x.1.1 := ⟨_, rfl⟩
        obtain ⟨xr, hxr⟩ : ∃ xr, xr = x.1.2 := ⟨_, rfl⟩
        have HXP : Hid (x.1 = (xp, xr)) := by rw [Hid, hxp, hxr]
        rw [← hxp, ← hxr]
        clear hxp hxr
        by_cases hm : pre.length < zs.length
        · have hmE : pre.length < E.length := by rw [HEL.out]; exact hm
          obtain ⟨g4, rfl, k4⟩ := row_cell r4 (j := pre.length) (u := .int .i32 (E[pre.length]'hmE).2) (by simp [nmP, List.getElem?_eq_getElem hmE])
          obtain ⟨g5, rfl, k5⟩ := row_cell r5 (j := pre.length) (u := .int .i64 ((E[pre.length]'hmE).1 : Int)) (by simp [plP, List.getElem?_eq_getElem hmE])
          have HE : Hid (E[pre.length]? = some (E[pre.length]'hmE)) := List.getElem?_eq_getElem hmE
          obtain ⟨ep, hep⟩ : ∃ ep, ep = (E[pre.length]'hmE).1 := ⟨_, rfl⟩
          obtain ⟨er, her⟩ : ∃ er, er = (E[pre.length]'hmE).2 := ⟨_, rfl⟩
          have HEP : Hid (E[pre.length]? = some (ep, er)) := by rw [Hid, HE.out, hep, her]
          rw [← her] at k4
          rw [← hep] at k5
          clear HE hep her hmE
          have d0 : decide ((zs.length : Int) ≤ (pre.length : Int)) = false := by simp; omega
          have hmI : (pre.length : Int) < (zs.length : Int) := by omega
          by_cases q1 : xp = ep
          · have q1b : ((xp : Int) != (ep : Int)) = false := by rw [bne_eq_false_iff_eq]; omega
            by_cases q2 : xr = er
            · have q2b : (xr != er) = false := by rw [bne_eq_false_iff_eq]; exact q2
              clear q1 q2
              gi_wp2
              refine ⟨KeepsOthers.setCell _ _ _, kp_set _ _ _ (by omega), ⟨h0.other (by have := hwsz; omega) _, h1.other (by omega) _, h2.other (by omega) _, ?_, row_set r4 (fun g e => by have := HG4.out g e; omega) _, row_set r5 (fun g e => by have := HG5.out g e; omega) _, by simp; omega⟩, hB.setCell (p := ⟨wr.heap.size, 0, none⟩) hwsz _⟩
              have e : (pre ++ [x]).length = pre.length + 1 := by simp
              rw [e]; exact h3.set _
            · have q2b : (xr != er) = true := by rw [bne_iff_ne]; exact q2
              have Q2 : Hid (¬ xr = er) := q2
              clear q2 q1
              gi_wp2
              exact ⟨KeepsOthers.setCell _ _ _, HX.out (fun h => Q2.out (by rw [HEP.out, HXP.out] at h; simp at h; exact h.2.symm))⟩
          · have q1b : ((xp : Int) != (ep : Int)) = true := by rw [bne_iff_ne]; omega
            have Q1 : Hid (¬ xp = ep) := q1
            clear q1
            gi_wp2
            exact ⟨KeepsOthers.setCell _ _ _, HX.out (fun h => Q1.out (by rw [HEP.out, HXP.out] at h; simp at h; exact h.1.symm))⟩
        · have d0 : decide ((zs.length : Int) ≤ (pre.length : Int)) = true := by simp; omega
          have hmI : (zs.length : Int) ≤ (pre.length : Int) := by omega
          have HNE : Hid (E[pre.length]? ≠ some x.1) := by
            rw [Hid, List.getElem?_eq_none (by rw [HEL.out]; omega)]; simp
          gi_wp2
          exact ⟨KeepsOthers.setCell _ _ _, HX.out HNE.out⟩
      case done =>
        rintro D ys W hD hys ⟨⟨h0, h1, h2, h3, r4, r5, hle⟩, hB⟩ hK
        have c0 := h0.cell; have f0 := h0.frozen; have c1 := h1.cell; have c3 := h3.cell
        have hyl : ys.length = zs.length := by
          have := congrArg List.length HCU.out
          rw [List.length_map, HEL.out, ← hys] at this
          exact this
        rw [hyl] at c3
        clear hys hyl hle r4 r5
        go_wp2
        have hK' := (KeepsOthers.setCell W ⟨w.heap.size, 0, none⟩ (.bool true)).same D _ hK rfl
        refine ⟨by simp, .inl ⟨_, _, rfl, run_takeDeferred hK', ?_⟩⟩
        have hc5 := (boxed_step (h0.set (.bool true)) (grownBy_putObj' _ D (.deferred none)) (fun r e => by cases e; exact ⟨_, hK', rfl⟩)).cell
        refine ⟨.bool true, ?_, rfl, (hB.setCell (p := ⟨w.heap.size, 0, none⟩) (Nat.le_refl _) _).trans (belowK_b (w := w) (Nat.le_refl _) _ D _ _ (by omega) hK' rfl rfl)⟩
        simp [results, Try.f6, go_sem, hc5]
      case stop =>
        rintro D c pre W hD hpre ⟨q, y, rfl, hne⟩ hK
        exact absurd (pre_get HCU.out hpre) hne
end Go.Proofs.Ytkoklkbjcfhmkaa
