import Derived.Test.YtldeodnlppjbcaaKGg
import Derived.Lib.AppendStr
import Derived.Laws.BytesArg
namespace Go.Proofs.Ytldeodnlppjbcaa
open Go.RowKit
set_option maxRecDepth 100000

/-- tokens with their texts -/
abbrev Tt := Nat × Nat × ByteArray
def ktO (y : Tt) : Kt := (y.1, y.2.2)
/-- what a slice of tokens that is read holds -/
def TRd (w : World) (ao : Option Addr) (Y : List Tt) (B : Nat) : Prop :=
  0 < Y.length → ∃ b, ao = some ⟨b, 0, none⟩ ∧ b < B ∧ ∀ i y, Y[i]? = some y → w.cell? ⟨b, i * 3, none⟩ = some (.int .u8 y.1) ∧ w.cell? ⟨b, i * 3 + 1, none⟩ = some (.int .i64 y.2.1) ∧ w.cell? ⟨b, i * 3 + 2, none⟩ = some (.string y.2.2)
theorem TRd.below {w w' : World} {ao : Option Addr} {Y : List Tt} {B : Nat} (h : TRd w ao Y B) (hb : Below B w w') : TRd w' ao Y B := by
  intro hl
  obtain ⟨b, e, hlt, hc⟩ := h hl
  refine ⟨b, e, hlt, fun i y hy => ?_⟩
  obtain ⟨c0, c1, c2⟩ := hc i y hy
  exact ⟨(hb.cell (p := ⟨b, i * 3, none⟩) hlt).trans c0, (hb.cell (p := ⟨b, i * 3 + 1, none⟩) hlt).trans c1, (hb.cell (p := ⟨b, i * 3 + 2, none⟩) hlt).trans c2⟩
def lastK (p : Nat) (X : List Kt) : Nat := match X.getLast? with
  | some x => x.1
  | none => p
theorem lastK_cons (p : Nat) (x : Kt) (X : List Kt) : lastK p (x :: X) = lastK x.1 X := by
  cases X with
  | nil => rfl
  | cons y X =>
    unfold lastK
    rw [List.getLast?_cons_cons, List.getLast?_eq_some_getLast (by simp : (y :: X) ≠ [])]
theorem gls_snoc (x : Kt) : ∀ (X : List Kt) (p : Nat), gls p (X ++ [x]) = gls p X ++ (sepOf (lastK p X) x ++ bz x.2)
  | [], p => by simp [gls, lastK]
  | y :: X, p => by
    rw [List.cons_append, gls, gls_snoc x X y.1, gls, lastK_cons]
    simp [List.append_assoc]
theorem gls_app (Z : List Kt) : ∀ (X : List Kt) (p : Nat), (gls p X).length ≤ (gls p (X ++ Z)).length
  | [], p => by simp [gls]
  | y :: X, p => by
    rw [List.cons_append, gls, gls]
    have := gls_app Z X y.1
    simp only [List.length_append]
    omega
def Lk (Y : List Tt) (k : Nat) : List Int := gls 6 ((Y.take k).map ktO)
def pk (Y : List Tt) (k : Nat) : Nat := lastK 6 ((Y.take k).map ktO)
theorem Lk_succ (Y : List Tt) (k : Nat) (h : k < Y.length) : Lk Y (k + 1) = Lk Y k ++ (sepOf (pk Y k) (ktO Y[k]) ++ bz (ktO Y[k]).2) := by
  unfold Lk pk
  rw [List.take_succ_eq_append_getElem h, List.map_append, List.map_cons, List.map_nil, gls_snoc]
theorem Lk_le (Y : List Tt) (k : Nat) : (Lk Y k).length ≤ (gls 6 (Y.map ktO)).length := by
  unfold Lk
  have := gls_app ((Y.drop k).map ktO) ((Y.take k).map ktO) 6
  rwa [← List.map_append, List.take_append_drop] at this
theorem Lk_all (Y : List Tt) : Lk Y Y.length = gls 6 (Y.map ktO) := by unfold Lk; rw [List.take_length]
theorem pk_zero (Y : List Tt) : pk Y 0 = 6 := rfl
theorem pk_succ (Y : List Tt) (k : Nat) (h : k < Y.length) : pk Y (k + 1) = Y[k].1 := by
  unfold pk lastK
  rw [List.take_succ_eq_append_getElem h, List.map_append, List.map_cons, List.map_nil, List.getLast?_append]
  rfl
theorem strCells_bz (T : ByteArray) : Lib.strCells T = bv (bz T) := by
  unfold Lib.strCells bv bz
  rw [List.map_map]
  rfl
theorem bt_form {W : World} {B : Nat} {v : Value} {n : Nat} {xs : List Value} (h : W.ownsRow B 5 1 v n xs) : ∃ ao cap, v = .slice ao n cap := by
  rcases h.2 with ⟨rfl, rfl⟩ | ⟨g, cap, cur, rfl, _⟩
  · exact ⟨_, _, rfl⟩
  · exact ⟨_, _, rfl⟩
theorem gl_conv {W : World} {B : Nat} {v : Value} {L : List Int} (h : W.ownsRow B 5 1 v L.length (bv L)) : (convert 48 9 v).run Try.prog W = .ok (.string (strOfNums L)) W := by
  have h' := h
  rcases h.2 with ⟨rfl, hz⟩ | ⟨g, cap, cur, rfl, _⟩
  · have : L = [] := List.eq_nil_of_length_eq_zero hz
    subst this
    exact run_convert_bytes_nil W 48 5 Try.underlying48 Try.underlying5 0 0 9 Try.underlying9
  · exact run_convert_bytes_arg W 48 5 Try.underlying48 Try.underlying5 g 0 L.length cap L rfl (fun i hi => own_cell h' hi) 9 Try.underlying9
theorem gl_kept {wr w5 : World} {o o2 : Obj} {B n : Nat} {v : Value} {xs : List Value} (hown : wr.ownsRow B 5 1 v n xs) (hg : ((wr.alloc o).alloc o2).grownBy w5 v.ownBlock) : w5.heap[wr.heap.size]? = some o := by
  rw [hg.block wr.heap.size (by simp; omega) (fun e => by have := (hown.lt _ e.symm).2; omega), Below.heap_alloc _ _ _ (by simp)]
  exact heap_alloc_last wr o
theorem news1 (W : World) (c : Int) (n : Nat) (hn : W.heap.size = n) : ∀ j u, [Value.int .u8 c][j]? = some u → (W.alloc (.cells #[.int .u8 c] 5)).cell? (Addr.add ⟨n, 0, none⟩ j) = some u := by
  subst hn
  intro j u hj
  match j, hj with
  | 0, hj => simp at hj; subst hj; simp [Addr.add]
  | (j + 1), hj => simp at hj
theorem one1 (c : Int) : ∀ u ∈ [Value.int .u8 c], u.oneCell' = true := by
  intro u hu
  rw [List.mem_singleton.1 hu]
  rfl
theorem gl_cell {w5 : World} {b : Nat} {K a : Int} {T : ByteArray} (h : w5.heap[b]? = some (.cells #[.int .u8 K, .int .i64 a, .string T] 36)) : w5.cell? ⟨b, 2, none⟩ = some (.string T) := by
  simp [World.cell?, h]
theorem gl_below {w wr w5 : World} {o o2 : Obj} {n : Nat} {v : Value} {xs : List Value} (hb : Below w.heap.size w wr) (hown : wr.ownsRow w.heap.size 5 1 v n xs) (hg : ((wr.alloc o).alloc o2).grownBy w5 v.ownBlock) : Below w.heap.size w w5 := by
  have h1 : Below w.heap.size w (wr.alloc o) := hb.alloc hb.size _
  have h2 : Below w.heap.size w ((wr.alloc o).alloc o2) := h1.alloc h1.size _
  exact h2.grown hg h2.size (fun j e => (hown.lt j e).1)
theorem gl_base {w wr : World} {o o2 : Obj} (hb : w.heap.size ≤ wr.heap.size) : w.heap.size ≤ ((wr.alloc o).alloc o2).heap.size := by
  rw [World.size_alloc, World.size_alloc]; omega
def glRes (Z : List Int) : Value := if 524288 < Z.length then .tuple #[.string ⟨#[]⟩, .int .i64 15] else .tuple #[.string (strOfNums Z), .int .i64 0]
theorem glRes_big {Z : List Int} (h : 524288 < Z.length) : glRes Z = .tuple #[.string ⟨#[]⟩, .int .i64 15] := by rw [glRes, if_pos h]
theorem glRes_ok {Z : List Int} (h : ¬ 524288 < Z.length) : glRes Z = .tuple #[.string (strOfNums Z), .int .i64 0] := by rw [glRes, if_neg h]
set_option maxHeartbeats 4000000 in
theorem glue_any (so : Option Addr) (sc : Nat) (Y : List Tt) (ao : Option Addr) (c : Nat) (G : List ByteArray) (w : World) (hm : mayB G = true) (hc : G.length ≤ c) (hg : ∀ x ∈ G, x.size ≤ 9223372036854775807) (hr : GRd w ao G w.heap.size)
    (hY : ∀ y ∈ Y, Gd G (ktO y) ∧ y.2.2.size ≤ 524288) (hYl : Y.length ≤ 1048576) (_ : Y.length ≤ sc) (hT : TRd w so Y w.heap.size) :
    Calls Try.prog 13 #[.slice so Y.length sc, .slice ao G.length c] w fun e w' => e = .returned (glRes (gls 6 (Y.map ktO))) ∧ Below w.heap.size w w' := by
  have h64 : G.length ≤ 64 := by
    unfold mayB at hm
    simp only [Bool.and_eq_true, decide_eq_true_eq] at hm
    exact hm.1
  have hM := mayBe_any ao c G w hc (by omega) hg hr
  rw [hm] at hM
  have HA : Hid (∀ y ∈ Y, ∀ w1, Below w.heap.size w w1 → Calls Try.prog 21 #[.agg #[.int .u8 y.1, .int .i64 y.2.1, .string y.2.2], .slice ao G.length c] w1 fun e w' => e = .returned (.bool true) ∧ Below w1.heap.size w1 w') := fun y hy w1 h1 => alone_any y.1 y.2.1 y.2.2 ao c G w1 (hY y hy).1 (hY y hy).2 hc h64 ((hr.below h1).mono h1.size)
  have HT : Hid (TRd w so Y w.heap.size) := hT
  have HY : Hid (∀ y ∈ Y, y.2.2.size ≤ 524288) := fun y hy => (hY y hy).2
  clear hT hr hY hg
  go_enter Try.func13, Try.ntmps13
  go_wp2_with (first
    | (go_at_call 16; with_reducible refine hM.mono ?_; rintro e wq ⟨rfl, hq⟩; subst wq)
    | fail)
  clear hM
  go_loopw [16] (fun i wr => ∃ k : Nat, k ≤ Y.length ∧ i = .int .i64 k ∧ Below w.heap.size w wr) (fun i _ => Y.length - (intOf i).toNat)
  case atStart => exact ⟨0, Nat.zero_le _, rfl, Below.refl _ _⟩
  case round =>
    obtain ⟨k, hk, rfl, hb⟩ := hrel
    by_cases hlt : k < Y.length
    · have hltI : (k : Int) < (Y.length : Int) := by omega
      obtain ⟨b, e, hbl, hcl⟩ := HT.out (by omega)
      subst e
      obtain ⟨c0, c1, c2⟩ := hcl k Y[k] (List.getElem?_eq_getElem hlt)
      have hS := HA.out Y[k] (List.getElem_mem hlt)
      obtain ⟨⟨K, at_, T⟩, hy⟩ : ∃ y, Y[k] = y := ⟨_, rfl⟩
      rw [hy] at c0 c1 c2 hS
      simp only at c0 c1 c2 hS
      have c0' : wr.cell? ⟨b, k * 3, none⟩ = some (.int .u8 K) := (hb.cell (p := ⟨b, k * 3, none⟩) hbl).trans c0
      have c1' : wr.cell? ⟨b, k * 3 + 1, none⟩ = some (.int .i64 at_) := (hb.cell (p := ⟨b, k * 3 + 1, none⟩) hbl).trans c1
      have c2' : wr.cell? ⟨b, k * 3 + 2, none⟩ = some (.string T) := (hb.cell (p := ⟨b, k * 3 + 2, none⟩) hbl).trans c2
      have hb2 : Below w.heap.size w (wr.alloc (Obj.cells #[Value.int IntKind.u8 (K : Int), Value.int IntKind.i64 (at_ : Int), Value.string T] 36)) := hb.alloc hb.size _
      clear hcl c0 c1 c2 hy
      go_wp2_with (first
        | (go_at_call 21; with_reducible refine (hS _ hb2).mono ?_; rintro e wq ⟨rfl, hq⟩)
        | fail)
      go_roundw
      case rel => exact ⟨k + 1, by omega, by go_num, hb2.trans (hq.mono hb2.size)⟩
      case measure => simp [intOf]; omega
    · obtain rfl : k = Y.length := by omega
      obtain ⟨i0, hi, hz0, hz1, hz2⟩ := info_parts Try.info5
      go_wp2_with fail
      have hb0 := hb
      generalize wr = w0 at *
      go_loopw [8, 27] (fun v i wr => ∃ k : Nat, k ≤ Y.length ∧ i = .int .i64 k ∧ wr.ownsRow w.heap.size 5 1 v (Lk Y k).length (bv (Lk Y k)) ∧ (Lk Y k).length ≤ 524288 ∧ Below w.heap.size w wr) (fun _ i _ => Y.length - (intOf i).toNat)
      case atStart => exact ⟨0, Nat.zero_le _, rfl, World.ownsRow_nil _ _ _ _, by simp [Lk, gls], hb0⟩
      case round =>
        obtain ⟨k, hk2, rfl, hown, hLk, hb1⟩ := hrel
        have hB1 := hb1.size
        by_cases hlt : k < Y.length
        · have hltI : (k : Int) < (Y.length : Int) := by omega
          obtain ⟨b, e, hbl, hcl⟩ := HT.out (by omega)
          subst e
          obtain ⟨c0, c1, c2⟩ := hcl k Y[k] (List.getElem?_eq_getElem hlt)
          have hTz := HY.out Y[k] (List.getElem_mem hlt)
          obtain ⟨⟨K, at_, T⟩, hy⟩ : ∃ y, Y[k] = y := ⟨_, rfl⟩
          rw [hy] at c0 c1 c2 hTz
          simp only at c0 c1 c2 hTz
          have c0' : wr.cell? ⟨b, k * 3, none⟩ = some (.int .u8 K) := (hb1.cell (p := ⟨b, k * 3, none⟩) hbl).trans c0
          have c1' : wr.cell? ⟨b, k * 3 + 1, none⟩ = some (.int .i64 at_) := (hb1.cell (p := ⟨b, k * 3 + 1, none⟩) hbl).trans c1
          have c2' : wr.cell? ⟨b, k * 3 + 2, none⟩ = some (.string T) := (hb1.cell (p := ⟨b, k * 3 + 2, none⟩) hbl).trans c2
          clear c0 c1 c2
          by_cases hk0 : k = 0
          · have hP : pk Y k = 6 := by rw [hk0]; rfl
            have hk0I : ¬ (0 : Int) < (k : Int) := by omega
            clear hcl hk0
            have HL : Hid (Lk Y (k + 1) = Lk Y k ++ bz T) := by rw [Hid, Lk_succ Y k hlt, hy]; simp [ktO, sepOf, hP]
            have HLn : Hid ((Lk Y (k + 1)).length = (Lk Y k).length + T.size) := by rw [Hid, HL.out, List.length_append, bz_len]
            by_cases hbig : 524288 < (Lk Y k).length + T.size
            · have hbigI : (524288 : Int) < ((Lk Y k).length : Int) + (T.size : Int) := by omega
              have HBG : Hid (524288 < (gls 6 (Y.map ktO)).length) := by have h1 := Lk_le Y (k + 1); rw [HLn.out] at h1; exact Nat.lt_of_lt_of_le hbig h1
              go_wp2_with (first
                | (at_builtin; refine Lib.wpList_append_own_string _ rfl _ _ 48 9 rfl w.heap.size 5 i0 Try.underlying48 Try.underlying9 hi hz0 hz1 hz2 _ _ _ rfl (hown.alloc _) T rfl (by unfold maxLen; omega) (by omega) (by simp; omega) ?_; intro v' w6 hown' hgrow hnil; clear hnil; obtain ⟨ao2, cap2, rfl⟩ := bt_form hown')
                | fail)
              have R2 : Below w.heap.size w w6 := (hb1.alloc hB1 _).grown hgrow (by simp; omega) (fun j e => (hown.lt j e).1)
              refine bodyPost_ret (results_tmp2 rfl _ _ _) rfl ?_
              exact ⟨by rw [glRes_big HBG.out]; rfl, R2⟩
            · have hbigI : ¬ (524288 : Int) < ((Lk Y k).length : Int) + (T.size : Int) := by omega
              go_wp2_with (first
                | (at_builtin; refine Lib.wpList_append_own_string _ rfl _ _ 48 9 rfl w.heap.size 5 i0 Try.underlying48 Try.underlying9 hi hz0 hz1 hz2 _ _ _ rfl (hown.alloc _) T rfl (by unfold maxLen; omega) (by omega) (by simp; omega) ?_; intro v' w6 hown' hgrow hnil; clear hnil; obtain ⟨ao2, cap2, rfl⟩ := bt_form hown')
                | fail)
              have R2 : Below w.heap.size w w6 := (hb1.alloc hB1 _).grown hgrow (by simp; omega) (fun j e => (hown.lt j e).1)
              have R1 : w6.ownsRow w.heap.size 5 1 (.slice ao2 ((Lk Y k).length + T.size) cap2) (Lk Y (k + 1)).length (bv (Lk Y (k + 1))) := by rw [HL.out, bv_append, List.length_append, bz_len, ← strCells_bz]; exact hown'
              clear hown' hgrow
              go_roundw
              case rel => exact ⟨k + 1, by omega, by go_num, R1, by rw [HLn.out]; omega, R2⟩
              case measure => simp [intOf]; omega
          · obtain ⟨j, hj⟩ : ∃ j, k = j + 1 := ⟨k - 1, by omega⟩
            have hjl : j < Y.length := by omega
            have hP : pk Y k = Y[j].1 := by rw [show k = j + 1 from hj]; exact pk_succ Y j hjl
            have p0 := (hcl j Y[j] (List.getElem?_eq_getElem hjl)).1
            have p0' : wr.cell? ⟨b, j * 3, none⟩ = some (.int .u8 Y[j].1) := (hb1.cell (p := ⟨b, j * 3, none⟩) hbl).trans p0
            have p0a : ∀ o, (wr.alloc o).cell? ⟨b, j * 3, none⟩ = some (.int .u8 Y[j].1) := fun o => by rw [World.cell?_alloc_old _ _ _ (by show b ≠ wr.heap.size; omega)]; exact p0'
            have hjI : (k : Int) - 1 = (j : Int) := by omega
            have hjlI : (j : Int) < (Y.length : Int) := by omega
            have hk0I : (0 : Int) < (k : Int) := by omega
            clear hcl p0 hj p0'
            generalize Y[j].1 = P at *
            by_cases hK6 : K = 6
            · have hK6b : ((K : Int) != 6) = false := by simp; omega
              have hK6c : (K : Int) = 6 := by omega
              have HL : Hid (Lk Y (k + 1) = Lk Y k ++ bz T) := by rw [Hid, Lk_succ Y k hlt, hy]; simp [ktO, sepOf, hK6]
              have HLn : Hid ((Lk Y (k + 1)).length = (Lk Y k).length + T.size) := by rw [Hid, HL.out, List.length_append, bz_len]
              clear hK6c
              by_cases hbig : 524288 < (Lk Y k).length + T.size
              · have hbigI : (524288 : Int) < ((Lk Y k).length : Int) + (T.size : Int) := by omega
                have HBG : Hid (524288 < (gls 6 (Y.map ktO)).length) := by have h1 := Lk_le Y (k + 1); rw [HLn.out] at h1; exact Nat.lt_of_lt_of_le hbig h1
                go_wp2_with (first
                  | (at_builtin; refine Lib.wpList_append_own_string _ rfl _ _ 48 9 rfl w.heap.size 5 i0 Try.underlying48 Try.underlying9 hi hz0 hz1 hz2 _ _ _ rfl (hown.alloc _) T rfl (by unfold maxLen; omega) (by omega) (by simp; omega) ?_; intro v' w6 hown' hgrow hnil; clear hnil; obtain ⟨ao2, cap2, rfl⟩ := bt_form hown')
                  | fail)
                have R2 : Below w.heap.size w w6 := (hb1.alloc hB1 _).grown hgrow (by simp; omega) (fun j e => (hown.lt j e).1)
                refine bodyPost_ret (results_tmp2 rfl _ _ _) rfl ?_
                exact ⟨by rw [glRes_big HBG.out]; rfl, R2⟩
              · have hbigI : ¬ (524288 : Int) < ((Lk Y k).length : Int) + (T.size : Int) := by omega
                go_wp2_with (first
                  | (at_builtin; refine Lib.wpList_append_own_string _ rfl _ _ 48 9 rfl w.heap.size 5 i0 Try.underlying48 Try.underlying9 hi hz0 hz1 hz2 _ _ _ rfl (hown.alloc _) T rfl (by unfold maxLen; omega) (by omega) (by simp; omega) ?_; intro v' w6 hown' hgrow hnil; clear hnil; obtain ⟨ao2, cap2, rfl⟩ := bt_form hown')
                  | fail)
                have R2 : Below w.heap.size w w6 := (hb1.alloc hB1 _).grown hgrow (by simp; omega) (fun j e => (hown.lt j e).1)
                have R1 : w6.ownsRow w.heap.size 5 1 (.slice ao2 ((Lk Y k).length + T.size) cap2) (Lk Y (k + 1)).length (bv (Lk Y (k + 1))) := by rw [HL.out, bv_append, List.length_append, bz_len, ← strCells_bz]; exact hown'
                clear hown' hgrow
                go_roundw
                case rel => exact ⟨k + 1, by omega, by go_num, R1, by rw [HLn.out]; omega, R2⟩
                case measure => simp [intOf]; omega
            · have hK6b : ((K : Int) != 6) = true := by simp; omega
              by_cases hP6 : P = 6
              · have hP6b : ((P : Int) != 6) = false := by simp; omega
                have HL : Hid (Lk Y (k + 1) = Lk Y k ++ bz T) := by rw [Hid, Lk_succ Y k hlt, hy]; simp [ktO, sepOf, hP, hP6]
                have HLn : Hid ((Lk Y (k + 1)).length = (Lk Y k).length + T.size) := by rw [Hid, HL.out, List.length_append, bz_len]
                by_cases hbig : 524288 < (Lk Y k).length + T.size
                · have hbigI : (524288 : Int) < ((Lk Y k).length : Int) + (T.size : Int) := by omega
                  have HBG : Hid (524288 < (gls 6 (Y.map ktO)).length) := by have h1 := Lk_le Y (k + 1); rw [HLn.out] at h1; exact Nat.lt_of_lt_of_le hbig h1
                  go_wp2_with (first
                    | (at_builtin; refine Lib.wpList_append_own_string _ rfl _ _ 48 9 rfl w.heap.size 5 i0 Try.underlying48 Try.underlying9 hi hz0 hz1 hz2 _ _ _ rfl (hown.alloc _) T rfl (by unfold maxLen; omega) (by omega) (by simp; omega) ?_; intro v' w6 hown' hgrow hnil; clear hnil; obtain ⟨ao2, cap2, rfl⟩ := bt_form hown')
                    | fail)
                  have R2 : Below w.heap.size w w6 := (hb1.alloc hB1 _).grown hgrow (by simp; omega) (fun j e => (hown.lt j e).1)
                  refine bodyPost_ret (results_tmp2 rfl _ _ _) rfl ?_
                  exact ⟨by rw [glRes_big HBG.out]; rfl, R2⟩
                · have hbigI : ¬ (524288 : Int) < ((Lk Y k).length : Int) + (T.size : Int) := by omega
                  go_wp2_with (first
                    | (at_builtin; refine Lib.wpList_append_own_string _ rfl _ _ 48 9 rfl w.heap.size 5 i0 Try.underlying48 Try.underlying9 hi hz0 hz1 hz2 _ _ _ rfl (hown.alloc _) T rfl (by unfold maxLen; omega) (by omega) (by simp; omega) ?_; intro v' w6 hown' hgrow hnil; clear hnil; obtain ⟨ao2, cap2, rfl⟩ := bt_form hown')
                    | fail)
                  have R2 : Below w.heap.size w w6 := (hb1.alloc hB1 _).grown hgrow (by simp; omega) (fun j e => (hown.lt j e).1)
                  have R1 : w6.ownsRow w.heap.size 5 1 (.slice ao2 ((Lk Y k).length + T.size) cap2) (Lk Y (k + 1)).length (bv (Lk Y (k + 1))) := by rw [HL.out, bv_append, List.length_append, bz_len, ← strCells_bz]; exact hown'
                  clear hown' hgrow
                  go_roundw
                  case rel => exact ⟨k + 1, by omega, by go_num, R1, by rw [HLn.out]; omega, R2⟩
                  case measure => simp [intOf]; omega
              · have hP6b : ((P : Int) != 6) = true := by simp; omega
                have HL : Hid (Lk Y (k + 1) = Lk Y k ++ [32] ++ bz T) := by rw [Hid, Lk_succ Y k hlt, hy]; simp [ktO, sepOf, hP, hK6, hP6]
                have HLn : Hid ((Lk Y (k + 1)).length = (Lk Y k).length + 1 + T.size) := by rw [Hid, HL.out, List.length_append, List.length_append, bz_len]; rfl
                by_cases hbig : 524288 < (Lk Y k).length + 1 + T.size
                · have hbigI : (524288 : Int) < ((Lk Y k).length : Int) + 1 + (T.size : Int) := by omega
                  have HBG : Hid (524288 < (gls 6 (Y.map ktO)).length) := by have h1 := Lk_le Y (k + 1); rw [HLn.out] at h1; exact Nat.lt_of_lt_of_le hbig h1
                  go_wp2_with (first
                    | (at_builtin; refine Lib.wpList_append_own_string _ rfl _ _ 48 9 rfl w.heap.size 5 i0 Try.underlying48 Try.underlying9 hi hz0 hz1 hz2 _ _ _ rfl hown5 T rfl (by unfold maxLen; omega) (by omega) (by have := R5.size; omega) ?_; intro v' w6 hown' hgrow hnil; clear hnil; obtain ⟨ao2, cap2, rfl⟩ := bt_form hown')
                    | (at_builtin; refine wpList_append_own _ rfl _ _ 48 rfl w.heap.size 5 i0 (.int .u8 0) 1 1 Try.underlying48 hi hz0 hz1 hz2 rfl (by decide) _ _ _ rfl ((hown.alloc _).alloc _) ⟨_, 0, none⟩ 1 1 [.int .u8 32] rfl rfl (news1 _ _ _ (World.size_alloc _ _)) (one1 32) (by unfold maxLen; omega) (by omega) (gl_base hB1) ?_; intro v5 w5 hown5 hgrow5 hnil5; clear hnil5; have d2 := gl_cell (gl_kept hown hgrow5); have R5 := gl_below hb1 hown hgrow5)
                    | fail)
                  have R2 : Below w.heap.size w w6 := R5.grown hgrow R5.size (fun j e => (hown5.lt j e).1)
                  refine bodyPost_ret (results_tmp2 rfl _ _ _) rfl ?_
                  exact ⟨by rw [glRes_big HBG.out]; rfl, R2⟩
                · have hbigI : ¬ (524288 : Int) < ((Lk Y k).length : Int) + 1 + (T.size : Int) := by omega
                  go_wp2_with (first
                    | (at_builtin; refine Lib.wpList_append_own_string _ rfl _ _ 48 9 rfl w.heap.size 5 i0 Try.underlying48 Try.underlying9 hi hz0 hz1 hz2 _ _ _ rfl hown5 T rfl (by unfold maxLen; omega) (by omega) (by have := R5.size; omega) ?_; intro v' w6 hown' hgrow hnil; clear hnil; obtain ⟨ao2, cap2, rfl⟩ := bt_form hown')
                    | (at_builtin; refine wpList_append_own _ rfl _ _ 48 rfl w.heap.size 5 i0 (.int .u8 0) 1 1 Try.underlying48 hi hz0 hz1 hz2 rfl (by decide) _ _ _ rfl ((hown.alloc _).alloc _) ⟨_, 0, none⟩ 1 1 [.int .u8 32] rfl rfl (news1 _ _ _ (World.size_alloc _ _)) (one1 32) (by unfold maxLen; omega) (by omega) (gl_base hB1) ?_; intro v5 w5 hown5 hgrow5 hnil5; clear hnil5; have d2 := gl_cell (gl_kept hown hgrow5); have R5 := gl_below hb1 hown hgrow5)
                    | fail)
                  have R2 : Below w.heap.size w w6 := R5.grown hgrow R5.size (fun j e => (hown5.lt j e).1)
                  have R1 : w6.ownsRow w.heap.size 5 1 (.slice ao2 ((Lk Y k).length + 1 + T.size) cap2) (Lk Y (k + 1)).length (bv (Lk Y (k + 1))) := by rw [HL.out, bv_append, bv_append, List.length_append, List.length_append, bz_len, ← strCells_bz]; exact hown'
                  clear hown' hgrow
                  go_roundw
                  case rel => exact ⟨k + 1, by omega, by go_num, R1, by rw [HLn.out]; omega, R2⟩
                  case measure => simp [intOf]; omega
        · obtain rfl : k = Y.length := by omega
          have hcv := gl_conv hown
          have HL : Hid (Lk Y Y.length = gls 6 (Y.map ktO)) := Lk_all Y
          have HN : Hid (¬ 524288 < (gls 6 (Y.map ktO)).length) := by rw [Hid, ← HL.out]; omega
          clear hown
          go_wp2_with fail
          refine bodyPost_ret (results_tmp2 rfl _ _ _) rfl ?_
          exact ⟨by rw [glRes_ok HN.out, ← HL.out]; rfl, hb1⟩
end Go.Proofs.Ytldeodnlppjbcaa
