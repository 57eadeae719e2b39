import Derived.Test.YtldeodnlppjbcaaCKGa
import Derived.Test.YtldeodnlppjbcaaCKTk
import Derived.Lib.AppendStr
import Derived.Laws.BytesArg
namespace Go.Proofs.Ytldeodnlppjbcaa
open Go.RowKit
set_option maxRecDepth 100000

set_option maxHeartbeats 2000000 in
theorem alone_any (K at_ : Nat) (T : ByteArray) (ao : Option Addr) (c : Nat) (G : List ByteArray) (w : World) (hG : Gd G (K, T)) (hz : T.size ≤ 524288) (hc : G.length ≤ c) (hl : G.length ≤ 64) (hr : GRd w ao G w.heap.size) :
    Calls Try.prog 21 #[.agg #[.int .u8 K, .int .i64 at_, .string T], .slice ao G.length c] w fun e w' => e = .returned (.bool true) ∧ Below w.heap.size w w' := by
  have hV := gd_alone hG hz
  simp only at hV
  have HC : Hid (∀ w1, Below w.heap.size w w1 → Calls Try.prog 17 #[.string T, .slice ao G.length c] w1 fun e w' => ∃ v, e = .returned (.tuple #[v, .int .i64 0, .int .i64 0]) ∧ w'.ownsRow w1.heap.size 36 3 v 1 (tv T [(K, 0, T.size)]) ∧ Below w1.heap.size w1 w') := fun w1 h1 => by
    have h := cut_all T ao c G w1 hc hl (by omega) ((hr.below h1).mono h1.size)
    rw [hV] at h
    exact h
  clear hV hG hr
  have HB : Below w.heap.size w (w.alloc (.cells #[.int .u8 (K : Int), .int .i64 (at_ : Int), .string T] 36)) := (Below.refl _ _).alloc (Nat.le_refl _) _
  have HX : T.extract 0 T.size = T := by simp
  go_enter Try.func21, Try.ntmps21
  go_wp2_with (first
    | (go_at_call 17; with_reducible refine (HC.out _ HB).mono ?_; rintro e wq ⟨v, rfl, hown, hq⟩; obtain ⟨g, cap, rfl, hg, hcap, hcl⟩ := tok_cells (L := [(K, 0, T.size)]) hown (by simp); have d0 : wq.cell? ⟨g, 0, none⟩ = some (.int .u8 K) := (hcl 0 _ rfl).1; have d2 : wq.cell? ⟨g, 2, none⟩ = some (.string T) := HX ▸ (hcl 0 _ rfl).2.2; have t0 : wq.cell? ⟨w.heap.size, 0, none⟩ = some (.int .u8 K) := (hq.cell (by simp)).trans (by simp); have t2 : wq.cell? ⟨w.heap.size, 2, none⟩ = some (.string T) := (hq.cell (by simp)).trans (by simp); clear hcl hown)
    | fail)
  go_quiet (fail)
  go_wp2_with fail
  go_ret
  exact ⟨rfl, below_drewN (HB.trans (hq.mono (by simp))) nq⟩
end Go.Proofs.Ytldeodnlppjbcaa
namespace Go.Proofs.Ytldeodnlppjbcaa
open Go.RowKit
set_option maxRecDepth 100000

/-- tokens with their texts -/
abbrev Tt := Nat × Nat × ByteArray
def ktO (y : Tt) : Kt := (y.1, y.2.2)
/-- what a slice of tokens that is read holds -/
def TRd (w : World) (ao : Option Addr) (Y : List Tt) (B : Nat) : Prop :=
  0 < Y.length → ∃ b, ao = some ⟨b, 0, none⟩ ∧ b < B ∧ ∀ i y, Y[i]? = some y → w.cell? ⟨b, i * 3, none⟩ = some (.int .u8 y.1) ∧ w.cell? ⟨b, i * 3 + 1, none⟩ = some (.int .i64 y.2.1) ∧ w.cell? ⟨b, i * 3 + 2, none⟩ = some (.string y.2.2)
theorem TRd.below {w w' : World} {ao : Option Addr} {Y : List Tt} {B : Nat} (h : TRd w ao Y B) (hb : Below B w w') : TRd w' ao Y B := by
  intro hl
  obtain ⟨b, e, hlt, hc⟩ := h hl
  refine ⟨b, e, hlt, fun i y hy => ?_⟩
  obtain ⟨c0, c1, c2⟩ := hc i y hy
  exact ⟨(hb.cell (p := ⟨b, i * 3, none⟩) hlt).trans c0, (hb.cell (p := ⟨b, i * 3 + 1, none⟩) hlt).trans c1, (hb.cell (p := ⟨b, i * 3 + 2, none⟩) hlt).trans c2⟩
def lastK (p : Nat) (X : List Kt) : Nat := match X.getLast? with
  | some x => x.1
  | none => p
theorem lastK_cons (p : Nat) (x : Kt) (X : List Kt) : lastK p (x :: X) = lastK x.1 X := by
  cases X with
  | nil => rfl
  | cons y X =>
    unfold lastK
    rw [List.getLast?_cons_cons, List.getLast?_eq_some_getLast (by simp : (y :: X) ≠ [])]
theorem gls_snoc (x : Kt) : ∀ (X : List Kt) (p : Nat), gls p (X ++ [x]) = gls p X ++ (sepOf (lastK p X) x ++ bz x.2)
  | [], p => by simp [gls, lastK]
  | y :: X, p => by
    rw [List.cons_append, gls, gls_snoc x X y.1, gls, lastK_cons]
    simp [List.append_assoc]
theorem gls_app (Z : List Kt) : ∀ (X : List Kt) (p : Nat), (gls p X).length ≤ (gls p (X ++ Z)).length
  | [], p => by simp [gls]
  | y :: X, p => by
    rw [List.cons_append, gls, gls]
    have := gls_app Z X y.1
    simp only [List.length_append]
    omega
def Lk (Y : List Tt) (k : Nat) : List Int := gls 6 ((Y.take k).map ktO)
def pk (Y : List Tt) (k : Nat) : Nat := lastK 6 ((Y.take k).map ktO)
theorem Lk_succ (Y : List Tt) (k : Nat) (h : k < Y.length) : Lk Y (k + 1) = Lk Y k ++ (sepOf (pk Y k) (ktO Y[k]) ++ bz (ktO Y[k]).2) := by
  unfold Lk pk
  rw [List.take_succ_eq_append_getElem h, List.map_append, List.map_cons, List.map_nil, gls_snoc]
theorem Lk_le (Y : List Tt) (k : Nat) : (Lk Y k).length ≤ (gls 6 (Y.map ktO)).length := by
  unfold Lk
  have := gls_app ((Y.drop k).map ktO) ((Y.take k).map ktO) 6
  rwa [← List.map_append, List.take_append_drop] at this
theorem Lk_all (Y : List Tt) : Lk Y Y.length = gls 6 (Y.map ktO) := by unfold Lk; rw [List.take_length]
theorem pk_zero (Y : List Tt) : pk Y 0 = 6 := rfl
theorem pk_succ (Y : List Tt) (k : Nat) (h : k < Y.length) : pk Y (k + 1) = Y[k].1 := by
  unfold pk lastK
  rw [List.take_succ_eq_append_getElem h, List.map_append, List.map_cons, List.map_nil, List.getLast?_append]
  rfl
theorem strCells_bz (T : ByteArray) : Lib.strCells T = bv (bz T) := by
  unfold Lib.strCells bv bz
  rw [List.map_map]
  rfl
theorem bt_form {W : World} {B : Nat} {v : Value} {n : Nat} {xs : List Value} (h : W.ownsRow B 5 1 v n xs) : ∃ ao cap, v = .slice ao n cap := by
  rcases h.2 with ⟨rfl, rfl⟩ | ⟨g, cap, cur, rfl, _⟩
  · exact ⟨_, _, rfl⟩
  · exact ⟨_, _, rfl⟩
theorem gl_conv {W : World} {B : Nat} {v : Value} {L : List Int} (h : W.ownsRow B 5 1 v L.length (bv L)) : (convert 48 9 v).run Try.prog W = .ok (.string (strOfNums L)) W := by
  have h' := h
  rcases h.2 with ⟨rfl, hz⟩ | ⟨g, cap, cur, rfl, _⟩
  · have : L = [] := List.eq_nil_of_length_eq_zero hz
    subst this
    exact run_convert_bytes_nil W 48 5 Try.underlying48 Try.underlying5 0 0 9 Try.underlying9
  · exact run_convert_bytes_arg W 48 5 Try.underlying48 Try.underlying5 g 0 L.length cap L rfl (fun i hi => own_cell h' hi) 9 Try.underlying9
theorem gl_kept {wr w5 : World} {o o2 : Obj} {B n : Nat} {v : Value} {xs : List Value} (hown : wr.ownsRow B 5 1 v n xs) (hg : ((wr.alloc o).alloc o2).grownBy w5 v.ownBlock) : w5.heap[wr.heap.size]? = some o := by
  rw [hg.block wr.heap.size (by simp; omega) (fun e => by have := (hown.lt _ e.symm).2; omega), Below.heap_alloc _ _ _ (by simp)]
  exact heap_alloc_last wr o
theorem news1 (W : World) (c : Int) (n : Nat) (hn : W.heap.size = n) : ∀ j u, [Value.int .u8 c][j]? = some u → (W.alloc (.cells #[.int .u8 c] 5)).cell? (Addr.add ⟨n, 0, none⟩ j) = some u := by
  subst hn
  intro j u hj
  match j, hj with
  | 0, hj => simp at hj; subst hj; simp [Addr.add]
  | (j + 1), hj => simp at hj
theorem one1 (c : Int) : ∀ u ∈ [Value.int .u8 c], u.oneCell' = true := by
  intro u hu
  rw [List.mem_singleton.1 hu]
  rfl
theorem gl_cell {w5 : World} {b : Nat} {K a : Int} {T : ByteArray} (h : w5.heap[b]? = some (.cells #[.int .u8 K, .int .i64 a, .string T] 36)) : w5.cell? ⟨b, 2, none⟩ = some (.string T) := by
  simp [World.cell?, h]
theorem gl_below {w wr w5 : World} {o o2 : Obj} {n : Nat} {v : Value} {xs : List Value} (hb : Below w.heap.size w wr) (hown : wr.ownsRow w.heap.size 5 1 v n xs) (hg : ((wr.alloc o).alloc o2).grownBy w5 v.ownBlock) : Below w.heap.size w w5 := by
  have h1 : Below w.heap.size w (wr.alloc o) := hb.alloc hb.size _
  have h2 : Below w.heap.size w ((wr.alloc o).alloc o2) := h1.alloc h1.size _
  exact h2.grown hg h2.size (fun j e => (hown.lt j e).1)
theorem gl_base {w wr : World} {o o2 : Obj} (hb : w.heap.size ≤ wr.heap.size) : w.heap.size ≤ ((wr.alloc o).alloc o2).heap.size := by
  rw [World.size_alloc, World.size_alloc]; omega
def glRes (Z : List Int) : Value := if 524288 < Z.length then .tuple #[.string ⟨#[]⟩, .int .i64 15] else .tuple #[.string (strOfNums Z), .int .i64 0]
theorem glRes_big {Z : List Int} (h : 524288 < Z.length) : glRes Z = .tuple #[.string ⟨#[]⟩, .int .i64 15] := by rw [glRes, if_pos h]
theorem glRes_ok {Z : List Int} (h : ¬ 524288 < Z.length) : glRes Z = .tuple #[.string (strOfNums Z), .int .i64 0] := by rw [glRes, if_neg h]
set_option maxHeartbeats 4000000 in
theorem glue_any (so : Option Addr) (sc : Nat) (Y : List Tt) (ao : Option Addr) (c : Nat) (G : List ByteArray) (w : World) (hm : mayB G = true) (hc : G.length ≤ c) (hg : ∀ x ∈ G, x.size ≤ 9223372036854775807) (hr : GRd w ao G w.heap.size)
    (hY : ∀ y ∈ Y, Gd G (ktO y) ∧ y.2.2.size ≤ 524288) (hYl : Y.length ≤ 1048576) (_ : Y.length ≤ sc) (hT : TRd w so Y w.heap.size) :
    Calls Try.prog 13 #[.slice so Y.length sc, .slice ao G.length c] w fun e w' => e = .returned (glRes (gls 6 (Y.map ktO))) ∧ Below w.heap.size w w' := by
  have h64 : G.length ≤ 64 := by
    unfold mayB at hm
    simp only [Bool.and_eq_true, decide_eq_true_eq] at hm
    exact hm.1
  have hM := mayBe_any ao c G w hc (by omega) hg hr
  rw [hm] at hM
  have HA : Hid (∀ y ∈ Y, ∀ w1, Below w.heap.size w w1 → Calls Try.prog 21 #[.agg #[.int .u8 y.1, .int .i64 y.2.1, .string y.2.2], .slice ao G.length c] w1 fun e w' => e = .returned (.bool true) ∧ Below w1.heap.size w1 w') := fun y hy w1 h1 => alone_any y.1 y.2.1 y.2.2 ao c G w1 (hY y hy).1 (hY y hy).2 hc h64 ((hr.below h1).mono h1.size)
  have HT : Hid (TRd w so Y w.heap.size) := hT
  have HY : Hid (∀ y ∈ Y, y.2.2.size ≤ 524288) := fun y hy => (hY y hy).2
  clear hT hr hY hg
  go_enter Try.func13, Try.ntmps13
  go_wp2_with (first
    | (go_at_call 16; with_reducible refine hM.mono ?_; rintro e wq ⟨rfl, hq⟩; subst wq)
    | fail)
  clear hM
  go_loopw [16] (fun i wr => ∃ k : Nat, k ≤ Y.length ∧ i = .int .i64 k ∧ Below w.heap.size w wr) (fun i _ => Y.length - (intOf i).toNat)
  case atStart => exact ⟨0, Nat.zero_le _, rfl, Below.refl _ _⟩
  case round =>
    obtain ⟨k, hk, rfl, hb⟩ := hrel
    by_cases hlt : k < Y.length
    · have hltI : (k : Int) < (Y.length : Int) := by omega
      obtain ⟨b, e, hbl, hcl⟩ := HT.out (by omega)
      subst e
      obtain ⟨c0, c1, c2⟩ := hcl k Y[k] (List.getElem?_eq_getElem hlt)
      have hS := HA.out Y[k] (List.getElem_mem hlt)
      obtain ⟨⟨K, at_, T⟩, hy⟩ : ∃ y, Y[k] = y := ⟨_, rfl⟩
      rw [hy] at c0 c1 c2 hS
      simp only at c0 c1 c2 hS
      have c0' : wr.cell? ⟨b, k * 3, none⟩ = some (.int .u8 K) := (hb.cell (p := ⟨b, k * 3, none⟩) hbl).trans c0
      have c1' : wr.cell? ⟨b, k * 3 + 1, none⟩ = some (.int .i64 at_) := (hb.cell (p := ⟨b, k * 3 + 1, none⟩) hbl).trans c1
      have c2' : wr.cell? ⟨b, k * 3 + 2, none⟩ = some (.string T) := (hb.cell (p := ⟨b, k * 3 + 2, none⟩) hbl).trans c2
      have hb2 : Below w.heap.size w (wr.alloc (Obj.cells #[Value.int IntKind.u8 (K : Int), Value.int IntKind.i64 (at_ : Int), Value.string T] 36)) := hb.alloc hb.size _
      clear hcl c0 c1 c2 hy
      go_wp2_with (first
        | (go_at_call 21; with_reducible refine (hS _ hb2).mono ?_; rintro e wq ⟨rfl, hq⟩)
        | fail)
      go_roundw
      case rel => exact ⟨k + 1, by omega, by go_num, hb2.trans (hq.mono hb2.size)⟩
      case measure => simp [intOf]; omega
    · obtain rfl : k = Y.length := by omega
      obtain ⟨i0, hi, hz0, hz1, hz2⟩ := info_parts Try.info5
      go_wp2_with fail
      have hb0 := hb
      generalize wr = w0 at *
      go_loopw [8, 27] (fun v i wr => ∃ k : Nat, k ≤ Y.length ∧ i = .int .i64 k ∧ wr.ownsRow w.heap.size 5 1 v (Lk Y k).length (bv (Lk Y k)) ∧ (Lk Y k).length ≤ 524288 ∧ Below w.heap.size w wr) (fun _ i _ => Y.length - (intOf i).toNat)
      case atStart => exact ⟨0, Nat.zero_le _, rfl, World.ownsRow_nil _ _ _ _, by simp [Lk, gls], hb0⟩
      case round =>
        obtain ⟨k, hk2, rfl, hown, hLk, hb1⟩ := hrel
        have hB1 := hb1.size
        by_cases hlt : k < Y.length
        · have hltI : (k : Int) < (Y.length : Int) := by omega
          obtain ⟨b, e, hbl, hcl⟩ := HT.out (by omega)
          subst e
          obtain ⟨c0, c1, c2⟩ := hcl k Y[k] (List.getElem?_eq_getElem hlt)
          have hTz := HY.out Y[k] (List.getElem_mem hlt)
          obtain ⟨⟨K, at_, T⟩, hy⟩ : ∃ y, Y[k] = y := ⟨_, rfl⟩
          rw [hy] at c0 c1 c2 hTz
          simp only at c0 c1 c2 hTz
          have c0' : wr.cell? ⟨b, k * 3, none⟩ = some (.int .u8 K) := (hb1.cell (p := ⟨b, k * 3, none⟩) hbl).trans c0
          have c1' : wr.cell? ⟨b, k * 3 + 1, none⟩ = some (.int .i64 at_) := (hb1.cell (p := ⟨b, k * 3 + 1, none⟩) hbl).trans c1
          have c2' : wr.cell? ⟨b, k * 3 + 2, none⟩ = some (.string T) := (hb1.cell (p := ⟨b, k * 3 + 2, none⟩) hbl).trans c2
          clear c0 c1 c2
          by_cases hk0 : k = 0
          · have hP : pk Y k = 6 := by rw [hk0]; rfl
            have hk0I : ¬ (0 : Int) < (k : Int) := by omega
            clear hcl hk0
            have HL : Hid (Lk Y (k + 1) = Lk Y k ++ bz T) := by rw [Hid, Lk_succ Y k hlt, hy]; simp [ktO, sepOf, hP]
            have HLn : Hid ((Lk Y (k + 1)).length = (Lk Y k).length + T.size) := by rw [Hid, HL.out, List.length_append, bz_len]
            by_cases hbig : 524288 < (Lk Y k).length + T.size
            · have hbigI : (524288 : Int) < ((Lk Y k).length : Int) + (T.size : Int) := by omega
              have HBG : Hid (524288 < (gls 6 (Y.map ktO)).length) := by have h1 := Lk_le Y (k + 1); rw [HLn.out] at h1; exact Nat.lt_of_lt_of_le hbig h1
              go_wp2_with (first
                | (at_builtin; refine Lib.wpList_append_own_string _ rfl _ _ 48 9 rfl w.heap.size 5 i0 Try.underlying48 Try.underlying9 hi hz0 hz1 hz2 _ _ _ rfl (hown.alloc _) T rfl (by unfold maxLen; omega) (by omega) (by simp; omega) ?_; intro v' w6 hown' hgrow hnil; clear hnil; obtain ⟨ao2, cap2, rfl⟩ := bt_form hown')
                | fail)
              have R2 : Below w.heap.size w w6 := (hb1.alloc hB1 _).grown hgrow (by simp; omega) (fun j e => (hown.lt j e).1)
              refine bodyPost_ret (results_tmp2 rfl _ _ _) rfl ?_
              exact ⟨by rw [glRes_big HBG.out]; rfl, R2⟩
            · have hbigI : ¬ (524288 : Int) < ((Lk Y k).length : Int) + (T.size : Int) := by omega
              go_wp2_with (first
                | (at_builtin; refine Lib.wpList_append_own_string _ rfl _ _ 48 9 rfl w.heap.size 5 i0 Try.underlying48 Try.underlying9 hi hz0 hz1 hz2 _ _ _ rfl (hown.alloc _) T rfl (by unfold maxLen; omega) (by omega) (by simp; omega) ?_; intro v' w6 hown' hgrow hnil; clear hnil; obtain ⟨ao2, cap2, rfl⟩ := bt_form hown')
                | fail)
              have R2 : Below w.heap.size w w6 := (hb1.alloc hB1 _).grown hgrow (by simp; omega) (fun j e => (hown.lt j e).1)
              have R1 : w6.ownsRow w.heap.size 5 1 (.slice ao2 ((Lk Y k).length + T.size) cap2) (Lk Y (k + 1)).length (bv (Lk Y (k + 1))) := by rw [HL.out, bv_append, List.length_append, bz_len, ← strCells_bz]; exact hown'
              clear hown' hgrow
              go_roundw
              case rel => exact ⟨k + 1, by omega, by go_num, R1, by rw [HLn.out]; omega, R2⟩
              case measure => simp [intOf]; omega
          · obtain ⟨j, hj⟩ : ∃ j, k = j + 1 := ⟨k - 1, by omega⟩
            have hjl : j < Y.length := by omega
            have hP : pk Y k = Y[j].1 := by rw [show k = j + 1 from hj]; exact pk_succ Y j hjl
            have p0 := (hcl j Y[j] (List.getElem?_eq_getElem hjl)).1
            have p0' : wr.cell? ⟨b, j * 3, none⟩ = some (.int .u8 Y[j].1) := (hb1.cell (p := ⟨b, j * 3, none⟩) hbl).trans p0
            have p0a : ∀ o, (wr.alloc o).cell? ⟨b, j * 3, none⟩ = some (.int .u8 Y[j].1) := fun o => by rw [World.cell?_alloc_old _ _ _ (by show b ≠ wr.heap.size; omega)]; exact p0'
            have hjI : (k : Int) - 1 = (j : Int) := by omega
            have hjlI : (j : Int) < (Y.length : Int) := by omega
            have hk0I : (0 : Int) < (k : Int) := by omega
            clear hcl p0 hj p0'
            generalize Y[j].1 = P at *
            by_cases hK6 : K = 6
            · have hK6b : ((K : Int) != 6) = false := by simp; omega
              have hK6c : (K : Int) = 6 := by omega
              have HL : Hid (Lk Y (k + 1) = Lk Y k ++ bz T) := by rw [Hid, Lk_succ Y k hlt, hy]; simp [ktO, sepOf, hK6]
              have HLn : Hid ((Lk Y (k + 1)).length = (Lk Y k).length + T.size) := by rw [Hid, HL.out, List.length_append, bz_len]
              clear hK6c
              by_cases hbig : 524288 < (Lk Y k).length + T.size
              · have hbigI : (524288 : Int) < ((Lk Y k).length : Int) + (T.size : Int) := by omega
                have HBG : Hid (524288 < (gls 6 (Y.map ktO)).length) := by have h1 := Lk_le Y (k + 1); rw [HLn.out] at h1; exact Nat.lt_of_lt_of_le hbig h1
                go_wp2_with (first
                  | (at_builtin; refine Lib.wpList_append_own_string _ rfl _ _ 48 9 rfl w.heap.size 5 i0 Try.underlying48 Try.underlying9 hi hz0 hz1 hz2 _ _ _ rfl (hown.alloc _) T rfl (by unfold maxLen; omega) (by omega) (by simp; omega) ?_; intro v' w6 hown' hgrow hnil; clear hnil; obtain ⟨ao2, cap2, rfl⟩ := bt_form hown')
                  | fail)
                have R2 : Below w.heap.size w w6 := (hb1.alloc hB1 _).grown hgrow (by simp; omega) (fun j e => (hown.lt j e).1)
                refine bodyPost_ret (results_tmp2 rfl _ _ _) rfl ?_
                exact ⟨by rw [glRes_big HBG.out]; rfl, R2⟩
              · have hbigI : ¬ (524288 : Int) < ((Lk Y k).length : Int) + (T.size : Int) := by omega
                go_wp2_with (first
                  | (at_builtin; refine Lib.wpList_append_own_string _ rfl _ _ 48 9 rfl w.heap.size 5 i0 Try.underlying48 Try.underlying9 hi hz0 hz1 hz2 _ _ _ rfl (hown.alloc _) T rfl (by unfold maxLen; omega) (by omega) (by simp; omega) ?_; intro v' w6 hown' hgrow hnil; clear hnil; obtain ⟨ao2, cap2, rfl⟩ := bt_form hown')
                  | fail)
                have R2 : Below w.heap.size w w6 := (hb1.alloc hB1 _).grown hgrow (by simp; omega) (fun j e => (hown.lt j e).1)
                have R1 : w6.ownsRow w.heap.size 5 1 (.slice ao2 ((Lk Y k).length + T.size) cap2) (Lk Y (k + 1)).length (bv (Lk Y (k + 1))) := by rw [HL.out, bv_append, List.length_append, bz_len, ← strCells_bz]; exact hown'
                clear hown' hgrow
                go_roundw
                case rel => exact ⟨k + 1, by omega, by go_num, R1, by rw [HLn.out]; omega, R2⟩
                case measure => simp [intOf]; omega
            · have hK6b : ((K : Int) != 6) = true := by simp; omega
              by_cases hP6 : P = 6
              · have hP6b : ((P : Int) != 6) = false := by simp; omega
                have HL : Hid (Lk Y (k + 1) = Lk Y k ++ bz T) := by rw [Hid, Lk_succ Y k hlt, hy]; simp [ktO, sepOf, hP, hP6]
                have HLn : Hid ((Lk Y (k + 1)).length = (Lk Y k).length + T.size) := by rw [Hid, HL.out, List.length_append, bz_len]
                by_cases hbig : 524288 < (Lk Y k).length + T.size
                · have hbigI : (524288 : Int) < ((Lk Y k).length : Int) + (T.size : Int) := by omega
                  have HBG : Hid (524288 < (gls 6 (Y.map ktO)).length) := by have h1 := Lk_le Y (k + 1); rw [HLn.out] at h1; exact Nat.lt_of_lt_of_le hbig h1
                  go_wp2_with (first
                    | (at_builtin; refine Lib.wpList_append_own_string _ rfl _ _ 48 9 rfl w.heap.size 5 i0 Try.underlying48 Try.underlying9 hi hz0 hz1 hz2 _ _ _ rfl (hown.alloc _) T rfl (by unfold maxLen; omega) (by omega) (by simp; omega) ?_; intro v' w6 hown' hgrow hnil; clear hnil; obtain ⟨ao2, cap2, rfl⟩ := bt_form hown')
                    | fail)
                  have R2 : Below w.heap.size w w6 := (hb1.alloc hB1 _).grown hgrow (by simp; omega) (fun j e => (hown.lt j e).1)
                  refine bodyPost_ret (results_tmp2 rfl _ _ _) rfl ?_
                  exact ⟨by rw [glRes_big HBG.out]; rfl, R2⟩
                · have hbigI : ¬ (524288 : Int) < ((Lk Y k).length : Int) + (T.size : Int) := by omega
                  go_wp2_with (first
                    | (at_builtin; refine Lib.wpList_append_own_string _ rfl _ _ 48 9 rfl w.heap.size 5 i0 Try.underlying48 Try.underlying9 hi hz0 hz1 hz2 _ _ _ rfl (hown.alloc _) T rfl (by unfold maxLen; omega) (by omega) (by simp; omega) ?_; intro v' w6 hown' hgrow hnil; clear hnil; obtain ⟨ao2, cap2, rfl⟩ := bt_form hown')
                    | fail)
                  have R2 : Below w.heap.size w w6 := (hb1.alloc hB1 _).grown hgrow (by simp; omega) (fun j e => (hown.lt j e).1)
                  have R1 : w6.ownsRow w.heap.size 5 1 (.slice ao2 ((Lk Y k).length + T.size) cap2) (Lk Y (k + 1)).length (bv (Lk Y (k + 1))) := by rw [HL.out, bv_append, List.length_append, bz_len, ← strCells_bz]; exact hown'
                  clear hown' hgrow
                  go_roundw
                  case rel => exact ⟨k + 1, by omega, by go_num, R1, by rw [HLn.out]; omega, R2⟩
                  case measure => simp [intOf]; omega
              · have hP6b : ((P : Int) != 6) = true := by simp; omega
                have HL : Hid (Lk Y (k + 1) = Lk Y k ++ [32] ++ bz T) := by rw [Hid, Lk_succ Y k hlt, hy]; simp [ktO, sepOf, hP, hK6, hP6]
                have HLn : Hid ((Lk Y (k + 1)).length = (Lk Y k).length + 1 + T.size) := by rw [Hid, HL.out, List.length_append, List.length_append, bz_len]; rfl
                by_cases hbig : 524288 < (Lk Y k).length + 1 + T.size
                · have hbigI : (524288 : Int) < ((Lk Y k).length : Int) + 1 + (T.size : Int) := by omega
                  have HBG : Hid (524288 < (gls 6 (Y.map ktO)).length) := by have h1 := Lk_le Y (k + 1); rw [HLn.out] at h1; exact Nat.lt_of_lt_of_le hbig h1
                  go_wp2_with (first
                    | (at_builtin; refine Lib.wpList_append_own_string _ rfl _ _ 48 9 rfl w.heap.size 5 i0 Try.underlying48 Try.underlying9 hi hz0 hz1 hz2 _ _ _ rfl hown5 T rfl (by unfold maxLen; omega) (by omega) (by have := R5.size; omega) ?_; intro v' w6 hown' hgrow hnil; clear hnil; obtain ⟨ao2, cap2, rfl⟩ := bt_form hown')
                    | (at_builtin; refine wpList_append_own _ rfl _ _ 48 rfl w.heap.size 5 i0 (.int .u8 0) 1 1 Try.underlying48 hi hz0 hz1 hz2 rfl (by decide) _ _ _ rfl ((hown.alloc _).alloc _) ⟨_, 0, none⟩ 1 1 [.int .u8 32] rfl rfl (news1 _ _ _ (World.size_alloc _ _)) (one1 32) (by unfold maxLen; omega) (by omega) (gl_base hB1) ?_; intro v5 w5 hown5 hgrow5 hnil5; clear hnil5; have d2 := gl_cell (gl_kept hown hgrow5); have R5 := gl_below hb1 hown hgrow5)
                    | fail)
                  have R2 : Below w.heap.size w w6 := R5.grown hgrow R5.size (fun j e => (hown5.lt j e).1)
                  refine bodyPost_ret (results_tmp2 rfl _ _ _) rfl ?_
                  exact ⟨by rw [glRes_big HBG.out]; rfl, R2⟩
                · have hbigI : ¬ (524288 : Int) < ((Lk Y k).length : Int) + 1 + (T.size : Int) := by omega
                  go_wp2_with (first
                    | (at_builtin; refine Lib.wpList_append_own_string _ rfl _ _ 48 9 rfl w.heap.size 5 i0 Try.underlying48 Try.underlying9 hi hz0 hz1 hz2 _ _ _ rfl hown5 T rfl (by unfold maxLen; omega) (by omega) (by have := R5.size; omega) ?_; intro v' w6 hown' hgrow hnil; clear hnil; obtain ⟨ao2, cap2, rfl⟩ := bt_form hown')
                    | (at_builtin; refine wpList_append_own _ rfl _ _ 48 rfl w.heap.size 5 i0 (.int .u8 0) 1 1 Try.underlying48 hi hz0 hz1 hz2 rfl (by decide) _ _ _ rfl ((hown.alloc _).alloc _) ⟨_, 0, none⟩ 1 1 [.int .u8 32] rfl rfl (news1 _ _ _ (World.size_alloc _ _)) (one1 32) (by unfold maxLen; omega) (by omega) (gl_base hB1) ?_; intro v5 w5 hown5 hgrow5 hnil5; clear hnil5; have d2 := gl_cell (gl_kept hown hgrow5); have R5 := gl_below hb1 hown hgrow5)
                    | fail)
                  have R2 : Below w.heap.size w w6 := R5.grown hgrow R5.size (fun j e => (hown5.lt j e).1)
                  have R1 : w6.ownsRow w.heap.size 5 1 (.slice ao2 ((Lk Y k).length + 1 + T.size) cap2) (Lk Y (k + 1)).length (bv (Lk Y (k + 1))) := by rw [HL.out, bv_append, bv_append, List.length_append, List.length_append, bz_len, ← strCells_bz]; exact hown'
                  clear hown' hgrow
                  go_roundw
                  case rel => exact ⟨k + 1, by omega, by go_num, R1, by rw [HLn.out]; omega, R2⟩
                  case measure => simp [intOf]; omega
        · obtain rfl : k = Y.length := by omega
          have hcv := gl_conv hown
          have HL : Hid (Lk Y Y.length = gls 6 (Y.map ktO)) := Lk_all Y
          have HN : Hid (¬ 524288 < (gls 6 (Y.map ktO)).length) := by rw [Hid, ← HL.out]; omega
          clear hown
          go_wp2_with fail
          refine bodyPost_ret (results_tmp2 rfl _ _ _) rfl ?_
          exact ⟨by rw [glRes_ok HN.out, ← HL.out]; rfl, hb1⟩
end Go.Proofs.Ytldeodnlppjbcaa
namespace Go.Proofs.Ytldeodnlppjbcaa
open Go.RowKit
set_option maxRecDepth 100000

def tsOf (s : ByteArray) (L : List Tk) : List Tt := L.map fun x => (x.1, x.2.1, s.extract x.2.1 x.2.2)
def tw1 (y : Tt) : List Value := [.int .u8 y.1, .int .i64 y.2.1, .string y.2.2]
def tw (Y : List Tt) : List Value := (Y.map tw1).flatten
theorem tv_tw (s : ByteArray) (L : List Tk) : tv s L = tw (tsOf s L) := by
  unfold tv tw tsOf
  rw [List.map_map]
  rfl
theorem tsOf_len (s : ByteArray) (L : List Tk) : (tsOf s L).length = L.length := by simp [tsOf]
theorem tw_append (X Y : List Tt) : tw (X ++ Y) = tw X ++ tw Y := by simp [tw]
theorem tw_at : ∀ (Y : List Tt) (i : Nat) (y : Tt), Y[i]? = some y → (tw Y)[i * 3]? = some (.int .u8 y.1) ∧ (tw Y)[i * 3 + 1]? = some (.int .i64 y.2.1) ∧ (tw Y)[i * 3 + 2]? = some (.string y.2.2)
  | [], i, y, h => by simp at h
  | x :: Y, 0, y, h => by simp at h; subst h; exact ⟨rfl, rfl, rfl⟩
  | x :: Y, i + 1, y, h => by
    have h' : Y[i]? = some y := by simpa using h
    have := tw_at Y i y h'
    rw [show tw (x :: Y) = .int .u8 x.1 :: .int .i64 x.2.1 :: .string x.2.2 :: tw Y from rfl]
    rw [show (i + 1) * 3 = i * 3 + 1 + 1 + 1 by omega]
    simpa using this
/-- a row of tokens that is owned may be read -/
theorem trd_own {W : World} {B : Nat} {v : Value} {Y : List Tt} (h : W.ownsRow B 36 3 v Y.length (tw Y)) : ∃ so sc, v = .slice so Y.length sc ∧ Y.length ≤ sc ∧ TRd W so Y W.heap.size := by
  have h' := h
  have hlt := h.lt
  rcases h.2 with ⟨rfl, hz⟩ | ⟨g, cap, cur, rfl, hrest⟩
  · exact ⟨none, 0, by rw [hz], by omega, fun hp => by omega⟩
  · have hadd : ∀ i, (⟨g, 0, none⟩ : Addr).add i = ⟨g, i, none⟩ := fun i => by unfold Addr.add; split <;> simp_all
    refine ⟨_, cap, rfl, hrest.2.2.1, fun _ => ⟨g, rfl, (hlt g rfl).2, fun i y hy => ?_⟩⟩
    obtain ⟨e1, e2, e3⟩ := tw_at Y i y hy
    have c1 := h'.cells (g := g) rfl (i * 3) _ e1
    have c2 := h'.cells (g := g) rfl (i * 3 + 1) _ e2
    have c3 := h'.cells (g := g) rfl (i * 3 + 2) _ e3
    rw [hadd] at c1 c2 c3
    exact ⟨c1, c2, c3⟩
theorem TRd.mono {w : World} {ao : Option Addr} {Y : List Tt} {B C : Nat} (h : TRd w ao Y B) (hb : B ≤ C) : TRd w ao Y C := by
  intro hl
  obtain ⟨b, e, hlt, hc⟩ := h hl
  exact ⟨b, e, by omega, hc⟩
/-- how long the texts are, each with one sign more -/
def smz (Y : List Tt) (k : Nat) : Nat := ((Y.take k).map fun y => y.2.2.size + 1).sum
theorem smz_succ (Y : List Tt) (k : Nat) (h : k < Y.length) : smz Y (k + 1) = smz Y k + Y[k].2.2.size + 1 := by
  unfold smz
  rw [List.take_succ_eq_append_getElem h, List.map_append, List.sum_append]
  simp
  omega
theorem smz_le (Y : List Tt) (h : ∀ y ∈ Y, y.2.2.size ≤ 524288) : ∀ k, k ≤ Y.length → smz Y k ≤ k * 524289
  | 0, _ => by simp [smz]
  | k + 1, hk => by
    rw [smz_succ Y k (by omega)]
    have := smz_le Y h k (by omega)
    have := h Y[k] (List.getElem_mem (by omega))
    omega
theorem gls_smz : ∀ (Y : List Tt) (p : Nat), (gls p (Y.map ktO)).length ≤ smz Y Y.length
  | [], p => by simp [gls, smz]
  | y :: Y, p => by
    have h := gls_smz Y y.1
    have e : smz (y :: Y) (y :: Y).length = y.2.2.size + 1 + smz Y Y.length := by
      unfold smz
      rw [List.take_length, List.take_length]
      simp
    rw [e, List.map_cons, gls, List.length_append, List.length_append, bz_len]
    have h2 : (sepOf p (ktO y)).length ≤ 1 := by
      unfold sepOf
      split <;> simp
    have h3 : (ktO y).2 = y.2.2 := rfl
    have h4 : (ktO y).1 = y.1 := rfl
    rw [h3, h4]
    omega
set_option maxHeartbeats 4000000 in
theorem alike_any (s1 : Option Addr) (k1 : Nat) (Y1 : List Tt) (s2 : Option Addr) (k2 : Nat) (Y2 : List Tt) (w : World) (h1 : TRd w s1 Y1 w.heap.size) (h2 : TRd w s2 Y2 w.heap.size) (hY : Y1.map ktO = Y2.map ktO) (hk1 : Y1.length ≤ k1) (hk2 : Y2.length ≤ k2) (hz : Y1.length ≤ 1048576) :
    Calls Try.prog 14 #[.slice s1 Y1.length k1, .slice s2 Y2.length k2] w fun e w' => e = .returned (.bool true) ∧ Below w.heap.size w w' := by
  have hl : Y1.length = Y2.length := by simpa using congrArg List.length hY
  have H1 : Hid (TRd w s1 Y1 w.heap.size) := h1
  have H2 : Hid (TRd w s2 Y2 w.heap.size) := h2
  have HY : Hid (Y1.map ktO = Y2.map ktO) := hY
  clear h1 h2 hY
  obtain ⟨n, hn⟩ : ∃ n, Y1.length = n := ⟨_, rfl⟩
  rw [← hl, hn]
  rw [← hl] at hk2
  rw [hn] at hk1 hk2 hz
  have HN1 : Hid (Y1.length = n) := hn
  have HN2 : Hid (Y2.length = n) := by rw [Hid, ← hl, hn]
  clear hl hn
  go_enter Try.func14, Try.ntmps14
  go_wp2_with fail
  go_loopw [5] (fun i wr => ∃ k : Nat, k ≤ n ∧ i = .int .i64 k ∧ Below w.heap.size w wr) (fun i _ => n - (intOf i).toNat)
  case atStart => exact ⟨0, Nat.zero_le _, rfl, Below.refl _ _⟩
  case round =>
    obtain ⟨k, hk, rfl, hb⟩ := hrel
    by_cases hlt : k < n
    · have hltI : (k : Int) < (n : Int) := by omega
      obtain ⟨b1, e1, hb1, hc1⟩ := H1.out (by rw [HN1.out]; omega)
      obtain ⟨b2, e2, hb2, hc2⟩ := H2.out (by rw [HN2.out]; omega)
      subst e1 e2
      have l1 : k < Y1.length := by rw [HN1.out]; exact hlt
      have l2 : k < Y2.length := by rw [HN2.out]; exact hlt
      obtain ⟨c0, c1, c2⟩ := hc1 k Y1[k] (List.getElem?_eq_getElem l1)
      obtain ⟨d0, d1, d2⟩ := hc2 k Y2[k] (List.getElem?_eq_getElem l2)
      have hq : ktO Y1[k] = ktO Y2[k] := by
        have := congrArg (fun l => l[k]?) HY.out
        simp only [List.getElem?_map, List.getElem?_eq_getElem l1, List.getElem?_eq_getElem l2, Option.map_some, Option.some.injEq] at this
        exact this
      obtain ⟨⟨K, a1, T⟩, hy1⟩ : ∃ y, Y1[k] = y := ⟨_, rfl⟩
      obtain ⟨⟨K', a2, T'⟩, hy2⟩ : ∃ y, Y2[k] = y := ⟨_, rfl⟩
      rw [hy1] at c0 c1 c2 hq
      rw [hy2] at d0 d1 d2 hq
      simp only [ktO, Prod.mk.injEq] at hq
      obtain ⟨rfl, rfl⟩ := hq
      simp only at c0 c2 d0 d2
      have c0' : wr.cell? ⟨b1, k * 3, none⟩ = some (.int .u8 K) := (hb.cell (p := ⟨b1, k * 3, none⟩) hb1).trans c0
      have c2' : wr.cell? ⟨b1, k * 3 + 2, none⟩ = some (.string T) := (hb.cell (p := ⟨b1, k * 3 + 2, none⟩) hb1).trans c2
      have d0' : wr.cell? ⟨b2, k * 3, none⟩ = some (.int .u8 K) := (hb.cell (p := ⟨b2, k * 3, none⟩) hb2).trans d0
      have d2' : wr.cell? ⟨b2, k * 3 + 2, none⟩ = some (.string T) := (hb.cell (p := ⟨b2, k * 3 + 2, none⟩) hb2).trans d2
      clear c0 c1 c2 d0 d1 d2 hc1 hc2 hy1 hy2 H1 H2 HY l1 l2 HN1 HN2
      go_wp2_with fail
      go_quiet (fail)
      go_wp2_with fail
      go_roundw
      case rel => exact ⟨k + 1, by omega, by go_num, below_drewN hb nq⟩
      case measure => simp [intOf]; omega
    · obtain rfl : k = n := by omega
      go_wp2_with fail
      go_ret
      exact ⟨rfl, hb⟩
end Go.Proofs.Ytldeodnlppjbcaa
namespace Go.Proofs.Ytldeodnlppjbcaa
open Go.RowKit
set_option maxRecDepth 100000

theorem toV_may {s : ByteArray} {G : List ByteArray} (he : (toV s G).2.2 = 0) : mayB G = true ∧ s.size ≤ 524288 ∧ toV s G = cutF s G s.size 0 [] := by
  unfold toV at he ⊢
  split at he
  · rename_i hm
    rw [if_pos hm]
    unfold cutV at he ⊢
    split at he
    · exact absurd he (by decide)
    · rename_i hz
      rw [if_neg hz]
      exact ⟨hm, by omega, rfl⟩
  · exact absurd he (by decide)
theorem cutF_len (s : ByteArray) (G : List ByteArray) : ∀ f a L, (cutF s G f a L).1.length ≤ L.length + f
  | 0, a, L => by simp [cutF]
  | f + 1, a, L => by
    simp only [cutF]
    split
    · split
      · have := cutF_len s G f (stp s G a).go L; omega
      · split
        · have := cutF_len s G f (stp s G a).go (L ++ [((stp s G a).kind, a, (stp s G a).go)]); simp at this; omega
        · simp
    · simp only; omega
theorem toV_gd {s : ByteArray} {G : List ByteArray} (he : (toV s G).2.2 = 0) : ∀ y ∈ tsOf s (toV s G).1, Gd G (ktO y) ∧ y.2.2.size ≤ 524288 := by
  obtain ⟨hm, hz, e⟩ := toV_may he
  intro y hy
  unfold tsOf at hy
  rw [List.mem_map] at hy
  obtain ⟨x, hx, rfl⟩ := hy
  rw [e] at hx
  refine ⟨cutF_gd s G hm s.size 0 [] (Nat.zero_le _) (by simp) x hx, ?_⟩
  simp only [ByteArray.size_extract]
  omega
theorem toV_len {s : ByteArray} {G : List ByteArray} (he : (toV s G).2.2 = 0) : (toV s G).1.length ≤ 524288 := by
  obtain ⟨hm, hz, e⟩ := toV_may he
  rw [e]
  have := cutF_len s G s.size 0 []
  simp at this
  omega
theorem strNums_size (Z : List Int) : (strOfNums Z).size = Z.length := by simp [strOfNums, ByteArray.size]
theorem bz_nums {Z : List Int} (hZ : ∀ z ∈ Z, 0 ≤ z ∧ z < 256) : AtZ (strOfNums Z) 0 Z := by
  refine ⟨by rw [strNums_size]; omega, fun j hj => ?_⟩
  obtain ⟨b, e, c⟩ := bt_list (strOfNums Z) j (by rw [strNums_size]; exact hj)
  rw [Nat.zero_add, ← c, List.getD_eq_getElem?_getD, List.getElem?_eq_getElem hj, Option.getD_some]
  have hb := hZ Z[j] (List.getElem_mem hj)
  have : b = UInt8.ofNat (Z[j]).toNat := by
    simp [strOfNums, List.getElem?_map, List.getElem?_eq_getElem hj] at e
    exact e.symm
  rw [this, UInt8.toNat_ofNat']
  omega
theorem bz_rng (T : ByteArray) : ∀ z ∈ bz T, 0 ≤ z ∧ z < 256 := by
  intro z hz
  unfold bz at hz
  rw [List.mem_map] at hz
  obtain ⟨b, _, rfl⟩ := hz
  have := b.toNat_lt
  omega
theorem gls_rng : ∀ (X : List Kt) (p : Nat), ∀ z ∈ gls p X, 0 ≤ z ∧ z < 256
  | [], p, z, hz => by simp [gls] at hz
  | x :: X, p, z, hz => by
    rw [gls, List.mem_append, List.mem_append] at hz
    rcases hz with hz | hz | hz
    · unfold sepOf at hz
      split at hz
      · simp at hz; omega
      · simp at hz
    · exact bz_rng x.2 z hz
    · exact gls_rng X x.1 z hz
/-- what is glued is cut into the same -/
theorem glued_cut {G : List ByteArray} {X : List Kt} (hm : mayB G = true) (hX : ∀ x ∈ X, Gd G x) (hz : ¬ 524288 < (gls 6 X).length) :
    ∃ M : List Tk, toV (strOfNums (gls 6 X)) G = (M, 0, 0) ∧ (tsOf (strOfNums (gls 6 X)) M).map ktO = X := by
  have hs := strNums_size (gls 6 X)
  obtain ⟨M, h1, h2⟩ := glue_cut (G := G) (u := strOfNums (gls 6 X)) X 6 0 (strOfNums (gls 6 X)).size [] hX (bz_nums (gls_rng X 6)) (by rw [hs, Nat.zero_add]) (by omega)
  refine ⟨M, ?_, ?_⟩
  · rw [toV, if_pos hm, cutV, if_neg (by rw [hs]; exact hz), h1, List.nil_append]
  · refine Eq.trans ?_ h2
    unfold tsOf
    rw [List.map_map]
    rfl
theorem gm_snoc {w5 : World} {B : Nat} {v' : Value} {Y : List Tt} {k : Nat} {K a : Nat} {T : ByteArray} (h : k < Y.length) (hy : Y[k] = (K, a, T)) (ho : w5.ownsRow B 36 3 v' (k + 1) (tw (Y.take k) ++ [.int .u8 (K : Int), .int .i64 (a : Int), .string T])) :
    w5.ownsRow B 36 3 v' (k + 1) (tw (Y.take (k + 1))) := by
  rw [List.take_succ_eq_append_getElem h, tw_append, hy]
  exact ho
theorem gm_below {w wr w5 : World} {o : Obj} {v : Value} {n : Nat} {xs : List Value} (hb : Below w.heap.size w wr) (hown : wr.ownsRow w.heap.size 36 3 v n xs) (hg : (wr.alloc o).grownBy w5 v.ownBlock) : Below w.heap.size w w5 :=
  (hb.alloc hb.size _).grown hg (by have := hb.size; simp; omega) (fun j e => (hown.lt j e).1)
theorem tk_form2 {W : World} {B : Nat} {v : Value} {n : Nat} {xs : List Value} (h : W.ownsRow B 36 3 v n xs) : ∃ ao cap, v = .slice ao n cap := by
  rcases h.2 with ⟨rfl, rfl⟩ | ⟨g, cap, cur, rfl, _⟩
  · exact ⟨_, _, rfl⟩
  · exact ⟨_, _, rfl⟩
set_option maxHeartbeats 8000000 in
theorem glued_any (s t : ByteArray) (ao : Option Addr) (c : Nat) (G : List ByteArray) (w : World) (hc : G.length ≤ c) (hl : G.length ≤ 9223372036854775807) (hg : ∀ x ∈ G, x.size ≤ 9223372036854775807) (hzs : s.size ≤ 9223372036854775807) (hzt : t.size ≤ 9223372036854775807) (hr : GRd w ao G w.heap.size) :
    Calls Try.prog 5 #[.string s, .string t, .slice ao G.length c] w fun e w' => e = .returned (.bool true) ∧ Below w.heap.size w w' := by
  have hA := awake_any w
  have HTu : Hid (∀ (u : ByteArray), u.size ≤ 9223372036854775807 → ∀ w1, Below w.heap.size w w1 → Calls Try.prog 7 #[.string u, .slice ao G.length c] w1 fun e w' => ∃ v, e = .returned (.tuple #[v, .int .i64 (toV u G).2.1, .int .i64 (toV u G).2.2]) ∧ w'.ownsRow w1.heap.size 36 3 v (toV u G).1.length (tv u (toV u G).1) ∧ Below w1.heap.size w1 w') := fun u hu w1 h1 => tokens_any u ao c G w1 hc hl hg hu ((hr.below h1).mono h1.size)
  have HTs := hidK (HTu.out s hzs)
  have HTt := hidK (HTu.out t hzt)
  have HGl : Hid (mayB G = true → ∀ (so : Option Addr) (sc : Nat) (Y : List Tt) (w1 : World), Below w.heap.size w w1 → (∀ y ∈ Y, Gd G (ktO y) ∧ y.2.2.size ≤ 524288) → Y.length ≤ 1048576 → Y.length ≤ sc → TRd w1 so Y w1.heap.size →
    Calls Try.prog 13 #[.slice so Y.length sc, .slice ao G.length c] w1 fun e w' => e = .returned (glRes (gls 6 (Y.map ktO))) ∧ Below w1.heap.size w1 w') := fun hm so sc Y w1 h1 hY hYl hYc hT => glue_any so sc Y ao c G w1 hm hc hg ((hr.below h1).mono h1.size) hY hYl hYc hT
  have hMs := @toV_may s G
  have hDs := @toV_gd s G
  have hLs := @toV_len s G
  have hDt := @toV_gd t G
  have hLt := @toV_len t G
  generalize toV s G = R at *
  generalize toV t G = R2 at *
  obtain ⟨LA, pa, ea⟩ := R
  obtain ⟨LB, pb, eb⟩ := R2
  simp only at hMs hDs hLs hDt hLt HTs HTt
  clear hr hg
  by_cases her : ea = 0
  · by_cases her2 : eb = 0
    · subst her her2
      obtain ⟨hm, _, _⟩ := hMs rfl
      replace hDs := hDs rfl
      replace hLs := hLs rfl
      replace hDt := hDt rfl
      replace hLt := hLt rfl
      rw [tv_tw] at HTs HTt
      have HGl2 := hidK (HGl.out hm)
      clear hMs HGl
      have nA := tsOf_len s LA
      have nB := tsOf_len t LB
      rw [← nA] at HTs hLs
      rw [← nB] at HTt hLt
      clear nA nB
      generalize tsOf s LA = YA at *
      generalize tsOf t LB = YB at *
      have HX : Hid (∀ y ∈ YA ++ YB, Gd G (ktO y) ∧ y.2.2.size ≤ 524288) := fun y hy => (List.mem_append.1 hy).elim (hDs y) (hDt y)
      clear hDs hDt
      obtain ⟨i0, hi, hz0, hz1, hz2⟩ := info_parts Try.infoTk
      go_enter Try.func5, Try.ntmps5
      go_wp2_with (first
        | (go_at_call 11; with_reducible refine hA.mono ?_; rintro e w1 ⟨rfl, h1⟩)
        | (go_at_call 7; with_reducible refine (HTs.out _ h1).mono ?_; rintro e w2 ⟨v, rfl, hown, h2⟩; obtain ⟨soA, scA, rfl, hcA, hTA⟩ := trd_own hown; have h12 := h1.trans (h2.mono h1.size))
        | (go_at_call 7; with_reducible refine (HTt.out _ h12).mono ?_; rintro e w3 ⟨v2, rfl, hown2, h3⟩; obtain ⟨soB, scB, rfl, hcB, hTB⟩ := trd_own hown2; have h13 := h12.trans (h3.mono h12.size))
        | fail)
      have HTA : Hid (TRd w3 soA YA w3.heap.size) := (hTA.below h3).mono h3.size
      have HTB : Hid (TRd w3 soB YB w3.heap.size) := hTB
      have HS : Hid (∀ k, k ≤ (YA ++ YB).length → smz (YA ++ YB) k ≤ k * 524289) := smz_le _ (fun y hy => (HX.out y hy).2)
      have hYl : (YA ++ YB).length = YA.length + YB.length := List.length_append
      have HYl := hidK hYl
      obtain ⟨Y, hY⟩ : ∃ Y, YA ++ YB = Y := ⟨_, rfl⟩
      have HYA : Hid (∀ k (h : k < YA.length), ∃ h' : k < Y.length, Y[k] = YA[k]) := fun k h => ⟨by rw [← hY, hYl]; omega, by subst hY; rw [List.getElem_append_left h]⟩
      have HYB : Hid (∀ k (h : k < YB.length), ∃ h' : YA.length + k < Y.length, Y[YA.length + k] = YB[k]) := fun k h => ⟨by rw [← hY, hYl]; omega, by subst hY; rw [List.getElem_append_right (by omega)]; simp⟩
      rw [hY] at HX HS HYl
      clear hY hYl hTA hTB hown hown2 HTs HTt hA
      go_loopw [13, 14, 15] (fun v n i wr => ∃ k : Nat, k ≤ YA.length ∧ i = .int .i64 k ∧ n = .int .i64 (smz Y (k)) ∧ wr.ownsRow w3.heap.size 36 3 v (k) (tw (Y.take (k))) ∧ Below w3.heap.size w3 wr) (fun _ _ i _ => YA.length - (intOf i).toNat)
      case atStart => exact ⟨0, Nat.zero_le _, rfl, rfl, World.ownsRow_nil _ _ _ _, Below.refl _ _⟩
      case round =>
        obtain ⟨k, hk, rfl, rfl, hown, hb⟩ := hrel
        have hbs := hb.size
        by_cases hlt : k < YA.length
        · have hltI : (k : Int) < (YA.length : Int) := by omega
          obtain ⟨hkY, hyk⟩ := HYA.out k hlt
          obtain ⟨b, e, hbl, hcl⟩ := HTA.out (by omega)
          subst e
          obtain ⟨c0, c1, c2⟩ := hcl k YA[k] (List.getElem?_eq_getElem hlt)
          rw [← hyk] at c0 c1 c2
          have hT := (HX.out Y[k] (List.getElem_mem hkY)).2
          have hsm := smz_succ Y (k) hkY
          have hsl := HS.out (k) (by omega)
          obtain ⟨⟨K, at_, T⟩, hy⟩ : ∃ y, Y[k] = y := ⟨_, rfl⟩
          rw [hy] at c0 c1 c2 hT hsm
          simp only at c0 c1 c2 hT hsm
          have c0' : wr.cell? ⟨b, k * 3, none⟩ = some (.int .u8 K) := (hb.cell (p := ⟨b, k * 3, none⟩) hbl).trans c0
          have c1' : wr.cell? ⟨b, k * 3 + 1, none⟩ = some (.int .i64 at_) := (hb.cell (p := ⟨b, k * 3 + 1, none⟩) hbl).trans c1
          have c2' : wr.cell? ⟨b, k * 3 + 2, none⟩ = some (.string T) := (hb.cell (p := ⟨b, k * 3 + 2, none⟩) hbl).trans c2
          obtain ⟨N, hN⟩ : ∃ N, smz Y (k) = N := ⟨_, rfl⟩
          rw [hN] at hsm hsl
          rw [hN]
          have HSm := hidK hsm
          have HYk := hidK hy
          have HC2 := hidK c2
          clear hcl c0 c1 c2 hy hyk hN hsm HTA HYA
          go_wp2_with (first
            | (at_builtin; refine wpList_append_own _ rfl _ _ 24 rfl w3.heap.size 36 i0 (.agg #[.int .u8 0, .int .i64 0, .string ⟨#[]⟩]) 3 32 Try.underlying24 hi hz0 hz1 hz2 rfl (by decide) _ _ _ rfl (hown.alloc _) ⟨_, 0, none⟩ 1 1 [.int .u8 (K : Int), .int .i64 (at_ : Int), .string T] rfl rfl (app3 _ _ _ _ _) (one3 _ _ _) (by unfold maxLen; omega) (by omega) (by simp; omega) ?_; intro v' w5 hown' hgrow hnil; clear hnil; have hb5 := gm_below hb hown hgrow; have c5 : w5.cell? ⟨b, k * 3 + 2, none⟩ = some (.string T) := (hb5.cell (p := ⟨b, k * 3 + 2, none⟩) hbl).trans HC2.out)
            | fail)
          go_roundw
          case rel => exact ⟨k + 1, by omega, by go_num, by rw [HSm.out]; go_num, gm_snoc hkY HYk.out hown', hb5⟩
          case measure => simp [intOf]; omega
        · obtain rfl : k = YA.length := by omega
          go_wp2_with fail
          go_loopw [13, 14, 16] (fun v n i wr => ∃ k : Nat, k ≤ YB.length ∧ i = .int .i64 k ∧ n = .int .i64 (smz Y (YA.length + k)) ∧ wr.ownsRow w3.heap.size 36 3 v (YA.length + k) (tw (Y.take (YA.length + k))) ∧ Below w3.heap.size w3 wr) (fun _ _ i _ => YB.length - (intOf i).toNat)
          case atStart => exact ⟨0, Nat.zero_le _, rfl, rfl, hown, hb⟩
          case round =>
            obtain ⟨k, hk, rfl, rfl, hown, hb⟩ := hrel
            have hbs := hb.size
            by_cases hlt : k < YB.length
            · have hltI : (k : Int) < (YB.length : Int) := by omega
              obtain ⟨hkY, hyk⟩ := HYB.out k hlt
              obtain ⟨b, e, hbl, hcl⟩ := HTB.out (by omega)
              subst e
              obtain ⟨c0, c1, c2⟩ := hcl k YB[k] (List.getElem?_eq_getElem hlt)
              rw [← hyk] at c0 c1 c2
              have hT := (HX.out Y[YA.length + k] (List.getElem_mem hkY)).2
              have hsm := smz_succ Y (YA.length + k) hkY
              have hsl := HS.out (YA.length + k) (by omega)
              obtain ⟨⟨K, at_, T⟩, hy⟩ : ∃ y, Y[YA.length + k] = y := ⟨_, rfl⟩
              rw [hy] at c0 c1 c2 hT hsm
              simp only at c0 c1 c2 hT hsm
              have c0' : wr.cell? ⟨b, k * 3, none⟩ = some (.int .u8 K) := (hb.cell (p := ⟨b, k * 3, none⟩) hbl).trans c0
              have c1' : wr.cell? ⟨b, k * 3 + 1, none⟩ = some (.int .i64 at_) := (hb.cell (p := ⟨b, k * 3 + 1, none⟩) hbl).trans c1
              have c2' : wr.cell? ⟨b, k * 3 + 2, none⟩ = some (.string T) := (hb.cell (p := ⟨b, k * 3 + 2, none⟩) hbl).trans c2
              obtain ⟨N, hN⟩ : ∃ N, smz Y (YA.length + k) = N := ⟨_, rfl⟩
              rw [hN] at hsm hsl
              rw [hN]
              have HSm := hidK hsm
              have HYk := hidK hy
              have HC2 := hidK c2
              clear hcl c0 c1 c2 hy hyk hN hsm HTB HYB
              go_wp2_with (first
                | (at_builtin; refine wpList_append_own _ rfl _ _ 24 rfl w3.heap.size 36 i0 (.agg #[.int .u8 0, .int .i64 0, .string ⟨#[]⟩]) 3 32 Try.underlying24 hi hz0 hz1 hz2 rfl (by decide) _ _ _ rfl (hown.alloc _) ⟨_, 0, none⟩ 1 1 [.int .u8 (K : Int), .int .i64 (at_ : Int), .string T] rfl rfl (app3 _ _ _ _ _) (one3 _ _ _) (by unfold maxLen; omega) (by omega) (by simp; omega) ?_; intro v' w5 hown' hgrow hnil; clear hnil; have hb5 := gm_below hb hown hgrow; have c5 : w5.cell? ⟨b, k * 3 + 2, none⟩ = some (.string T) := (hb5.cell (p := ⟨b, k * 3 + 2, none⟩) hbl).trans HC2.out)
                | fail)
              go_roundw
              case rel => exact ⟨k + 1, by omega, by go_num, by rw [← Nat.add_assoc, HSm.out]; go_num, gm_snoc hkY HYk.out hown', hb5⟩
              case measure => simp [intOf]; omega
            · obtain rfl : k = YB.length := by omega
              have hYl := HYl.out
              rw [← hYl] at hown ⊢
              rw [List.take_length] at hown
              obtain ⟨so, sc, rfl, hcs, hTs⟩ := trd_own hown
              have hbw := h13.trans (hb.mono h13.size)
              have hG := HGl2.out so sc Y wr hbw HX.out (by omega) hcs hTs
              have hsl := HS.out Y.length (Nat.le_refl _)
              have HGS := hidK (gls_smz Y 6)
              obtain ⟨N, hN⟩ : ∃ N, smz Y Y.length = N := ⟨_, rfl⟩
              rw [hN] at hsl HGS ⊢
              have hYb : Y.length ≤ 1048576 := by omega
              have HX1 : Hid (∀ x ∈ Y.map ktO, Gd G x) := fun x hx => by
                rw [List.mem_map] at hx
                obtain ⟨y, hy, rfl⟩ := hx
                exact (HX.out y hy).1
              have HO := hidK hown
              have HTs := hidK hTs
              clear HTB HYB hN HS hown hTs HYl hYl HYA HX HTA
              by_cases hbig : 524288 < (gls 6 (Y.map ktO)).length
              · rw [glRes_big hbig] at hG
                have hNI : (524288 : Int) < (N : Int) := by have := HGS.out; omega
                clear hbig HGS
                go_wp2_with (first
                  | (go_at_call 13; with_reducible refine hG.mono ?_; rintro e w6 ⟨rfl, h6⟩)
                  | fail)
                go_ret
                exact ⟨rfl, hbw.trans (h6.mono hbw.size)⟩
              · rw [glRes_ok hbig] at hG
                obtain ⟨M, hM1, hM2⟩ := glued_cut hm HX1.out hbig
                have hus := strNums_size (gls 6 (Y.map ktO))
                have HU := hidK (HTu.out (strOfNums (gls 6 (Y.map ktO))) (by omega))
                rw [hM1, tv_tw] at HU
                simp only at HU
                rw [← tsOf_len (strOfNums (gls 6 (Y.map ktO))) M] at HU
                generalize tsOf (strOfNums (gls 6 (Y.map ktO))) M = Z at *
                generalize strOfNums (gls 6 (Y.map ktO)) = u at *
                have hZl : Z.length ≤ 1048576 := by have := congrArg List.length hM2; simp at this; omega
                have HZ := hidK hM2
                clear hM1 hM2 hus hbig HGS HTu
                go_wp2_with (first
                  | (go_at_call 13; with_reducible refine hG.mono ?_; rintro e w6 ⟨rfl, h6⟩; have hb6 := hbw.trans (h6.mono hbw.size))
                  | (go_at_call 7; with_reducible refine (HU.out _ hb6).mono ?_; rintro e w7 ⟨v7, rfl, hown7, h7⟩; obtain ⟨so7, sc7, rfl, hc7, hT7⟩ := trd_own hown7; have hb7 := hb6.trans (h7.mono hb6.size); have hA7 := alike_any so7 sc7 Z so sc Y w7 hT7 (((HTs.out.below h6).mono h6.size).below h7 |>.mono h7.size) HZ.out hc7 hcs hZl)
                  | (go_at_call 14; with_reducible refine hA7.mono ?_; rintro e w8 ⟨rfl, h8⟩)
                  | fail)
                go_ret
                exact ⟨rfl, hb7.trans (h8.mono hb7.size)⟩
    · replace her2 : ¬ eb = 0 := her2
      have her2b : (eb != 0) = true := by simp; exact her2
      go_enter Try.func5, Try.ntmps5
      go_wp2_with (first
        | (go_at_call 11; with_reducible refine hA.mono ?_; rintro e w1 ⟨rfl, h1⟩)
        | (go_at_call 7; with_reducible refine (HTs.out _ h1).mono ?_; rintro e w2 ⟨v, rfl, hown, h2⟩; have h12 := h1.trans (h2.mono h1.size))
        | (go_at_call 7; with_reducible refine (HTt.out _ h12).mono ?_; rintro e w3 ⟨v2, rfl, hown2, h3⟩; have h13 := h12.trans (h3.mono h12.size))
        | fail)
      go_ret
      exact ⟨rfl, h13⟩
  · have herb : (ea != 0) = true := by simp; exact her
    go_enter Try.func5, Try.ntmps5
    go_wp2_with (first
      | (go_at_call 11; with_reducible refine hA.mono ?_; rintro e w1 ⟨rfl, h1⟩)
      | (go_at_call 7; with_reducible refine (HTs.out _ h1).mono ?_; rintro e w2 ⟨v, rfl, hown, h2⟩; have h12 := h1.trans (h2.mono h1.size))
      | (go_at_call 7; with_reducible refine (HTt.out _ h12).mono ?_; rintro e w3 ⟨v2, rfl, hown2, h3⟩; have h13 := h12.trans (h3.mono h12.size))
      | fail)
    go_ret
    exact ⟨rfl, h13⟩
end Go.Proofs.Ytldeodnlppjbcaa
