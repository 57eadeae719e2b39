import Derived.Test.YtldeodnlppjbcaaUTs
import Derived.Test.YtldeodnlppjbcaaCKGg
import Derived.Shelf.SlSortCmp.QuietGrown
namespace Go.Proofs.Ytldeodnlppjbcaa
open Go.RowKit
set_option maxRecDepth 100000

/-- the mark of a place in a list of texts -/
def mtx (i : Nat) : ByteArray := strOfNums [35, 0, 0, (i : Int), 0]
set_option maxHeartbeats 2000000 in
theorem markT_any (i : Nat) (w : World) (hi : i < 64) :
    Calls Try.prog 15 #[.int .i64 0, .int .i64 i] w fun e w' => e = .returned (.string (mtx i)) ∧ w' = w.alloc (.cells #[.int .u8 35, .int .u8 0, .int .u8 0, .int .u8 i, .int .u8 0] 5) := by
  have hC : (convert 48 9 (.slice (some ⟨w.heap.size, 0, none⟩) 5 5)).run Try.prog (w.alloc (.cells #[.int .u8 35, .int .u8 0, .int .u8 0, .int .u8 i, .int .u8 0] 5)) = .ok (.string (mtx i)) (w.alloc (.cells #[.int .u8 35, .int .u8 0, .int .u8 0, .int .u8 i, .int .u8 0] 5)) := by
    refine run_convert_bytes_arg _ 48 5 Try.underlying48 Try.underlying5 w.heap.size 0 5 5 [35, 0, 0, (i : Int), 0] rfl (fun j hj => ?_) 9 Try.underlying9
    have hj5 : j < 5 := hj
    match j, hj5 with
    | 0, _ => simp
    | 1, _ => simp
    | 2, _ => simp
    | 3, _ => simp
    | 4, _ => simp
  have hd : (i : Int) / 256 = 0 := by omega
  go_enter Try.func15, Try.ntmps15
  go_wp2_with fail
  go_ret
  exact ⟨rfl, rfl⟩
def gsv (L : List ByteArray) : List Value := L.map .string
theorem gsv_append (L M : List ByteArray) : gsv (L ++ M) = gsv L ++ gsv M := by simp [gsv]
def mtxs (m : Nat) : List ByteArray := (List.range m).map mtx
theorem mtxs_succ (m : Nat) : mtxs (m + 1) = mtxs m ++ [mtx m] := by simp [mtxs, List.range_succ]
theorem mtxs_len (m : Nat) : (mtxs m).length = m := by simp [mtxs]
theorem Try.infoSt : (Try.prog.info? 9).map (fun i => (i.zero, i.size, i.bytes)) = some (some (.string ⟨#[]⟩), 1, 16) := by kernel_rfl
theorem newsS (W : World) (x : ByteArray) (n : Nat) (hn : W.heap.size = n) : ∀ j u, [Value.string x][j]? = some u → (W.alloc (.cells #[.string x] 9)).cell? (Addr.add ⟨n, 0, none⟩ j) = some u := by
  subst hn
  intro j u hj
  match j, hj with
  | 0, hj => simp at hj; subst hj; simp [Addr.add]
  | (j + 1), hj => simp at hj
theorem oneS (x : ByteArray) : ∀ u ∈ [Value.string x], u.oneCell' = true := by
  intro u hu
  rw [List.mem_singleton.1 hu]
  rfl
theorem lent_below {w wr w5 : World} {o : Obj} {n e : Nat} {v : Value} {xs : List Value} (hb : Below w.heap.size w wr) (hown : wr.ownsRow w.heap.size e 1 v n xs) (hg : (wr.alloc o).grownBy w5 v.ownBlock) : Below w.heap.size w w5 :=
  (hb.alloc hb.size _).grown hg (by have := hb.size; simp; omega) (fun j e => (hown.lt j e).1)
theorem gsv_len (L : List ByteArray) : (gsv L).length = L.length := by simp [gsv]
set_option maxHeartbeats 4000000 in
theorem lentT_any (ao : Option Addr) (c : Nat) (G : List ByteArray) (w : World) (hn : G.length ≤ 8796093021952) (hr : GRd w ao G w.heap.size) :
    Calls Try.prog 6 #[.slice ao G.length c] w fun e w' => ∃ v, e = .returned v ∧ w'.ownsRow w.heap.size 9 1 v (G.length + 64) (gsv (G ++ mtxs 64)) ∧ Below w.heap.size w w' := by
  obtain ⟨i0, hi, hz0, hz1, hz2⟩ := info_parts Try.infoSt
  have HG : Hid (GRd w ao G w.heap.size) := hr
  clear hr
  go_enter Try.func6, Try.ntmps6
  go_wp2_with fail
  go_loopw [3, 4] (fun v i wr => ∃ k : Nat, k ≤ G.length ∧ i = .int .i64 k ∧ wr.ownsRow w.heap.size 9 1 v k (gsv (G.take k)) ∧ Below w.heap.size w wr) (fun _ i _ => G.length - (intOf i).toNat)
  case atStart => exact ⟨0, Nat.zero_le _, rfl, World.ownsRow_nil _ _ _ _, Below.refl _ _⟩
  case round =>
    obtain ⟨k, hk, rfl, hown, hb⟩ := hrel
    have hbs := hb.size
    by_cases hlt : k < G.length
    · have hltI : (k : Int) < (G.length : Int) := by omega
      obtain ⟨b, off, e, hbl, hcell⟩ := HG.out (by omega)
      subst e
      have hck := (hb.cell (p := ⟨b, off + k, none⟩) hbl).trans (hcell k hlt)
      have HT : Hid (gsv (G.take (k + 1)) = gsv (G.take k) ++ [.string (G.getD k ByteArray.empty)]) := by
        rw [Hid, List.take_succ_eq_append_getElem hlt, gsv_append, List.getD_eq_getElem?_getD, List.getElem?_eq_getElem hlt]; rfl
      generalize G.getD k ByteArray.empty = x at *
      clear hcell
      go_wp2_with (first
        | (at_builtin; refine wpList_append_own _ rfl _ _ 22 rfl w.heap.size 9 i0 (.string ⟨#[]⟩) 1 16 Try.underlying22 hi hz0 hz1 hz2 rfl (by decide) _ _ _ rfl (hown.alloc _) ⟨_, 0, none⟩ 1 1 [.string x] rfl rfl (newsS _ _ _ rfl) (oneS x) (by unfold maxLen; omega) (by omega) (by simp; omega) ?_; intro v' w5 hown' hgrow hnil; clear hnil; have hb5 := lent_below hb hown hgrow; rw [← HT.out] at hown'; clear hgrow)
        | fail)
      go_roundw
      case rel => exact ⟨k + 1, by omega, by go_num, hown', hb5⟩
      case measure => simp [intOf]; omega
    · obtain rfl : k = G.length := by omega
      rw [List.take_length] at hown
      go_wp2_with fail
      go_loopw [3, 5] (fun v i wr => ∃ k : Nat, k ≤ 64 ∧ i = .int .i64 k ∧ wr.ownsRow w.heap.size 9 1 v (G.length + k) (gsv (G ++ mtxs k)) ∧ Below w.heap.size w wr) (fun _ i _ => 64 - (intOf i).toNat)
      case atStart => exact ⟨0, by omega, rfl, by simpa [mtxs] using hown, hb⟩
      case round =>
        clear hown hb
        obtain ⟨k, hk, rfl, hown, hb⟩ := hrel
        have hbs := hb.size
        by_cases hlt : k < 64
        · have hltI : (k : Int) < 64 := by omega
          have hM := fun w1 => markT_any k w1 hlt
          have HT : Hid (gsv (G ++ mtxs (k + 1)) = gsv (G ++ mtxs k) ++ [.string (mtx k)]) := by
            rw [Hid, mtxs_succ, ← List.append_assoc, gsv_append]; rfl
          generalize mtx k = x at *
          go_wp2_with (first
            | (go_at_call 15; with_reducible refine (hM _).mono ?_; rintro e wq ⟨rfl, hq⟩; subst wq)
            | (at_builtin; refine wpList_append_own _ rfl _ _ 22 rfl w.heap.size 9 i0 (.string ⟨#[]⟩) 1 16 Try.underlying22 hi hz0 hz1 hz2 rfl (by decide) _ _ _ rfl ((hown.alloc _).alloc _) ⟨_, 0, none⟩ 1 1 [.string x] rfl rfl (newsS _ _ _ (World.size_alloc _ _)) (oneS x) (by unfold maxLen; omega) (by omega) (gl_base hbs) ?_; intro v' w5 hown' hgrow hnil; clear hnil; have hb5 := lent_below (hb.alloc hb.size _) (hown.alloc _) hgrow; rw [← HT.out] at hown'; clear hgrow)
            | fail)
          go_roundw
          case rel => exact ⟨k + 1, by omega, by go_num, hown', hb5⟩
          case measure => simp [intOf]; omega
        · obtain rfl : k = 64 := by omega
          go_wp2_with fail
          go_ret
          exact ⟨_, rfl, hown, hb⟩
end Go.Proofs.Ytldeodnlppjbcaa
namespace Go.Proofs.Ytldeodnlppjbcaa
open Go.RowKit Go.Sort
set_option maxRecDepth 100000

theorem markT_grown (i : Nat) (w : World) (hi : i < 64) :
    Calls Try.prog 15 #[.int .i64 0, .int .i64 i] w fun e w' => e = .returned (.string (mtx i)) ∧ ∃ q os', w' = grow (w.drewN q) os' :=
  (markT_any i w hi).mono fun e w' ⟨h1, h2⟩ => ⟨h1, 0, #[.cells #[.int .u8 35, .int .u8 0, .int .u8 0, .int .u8 i, .int .u8 0] 5], by subst h2; exact alloc_eq_grow _ _⟩
theorem belowG (w : World) (n : Nat) (os : Array Obj) : Below w.heap.size w (grow (w.drewN n) os) :=
  ⟨rfl, rfl, rfl, by simp [grow], fun j hj => by
    have := heap_grow_old (w.drewN n) os (by exact hj)
    exact this⟩
set_option maxHeartbeats 4000000 in
theorem keptT_any (ao : Option Addr) (c : Nat) (G : List ByteArray) (g cF : Nat) (w : World) (hn : G.length ≤ 8796093021952) (hr : GRd w ao G w.heap.size) (hg : g < w.heap.size)
    (hcl : ∀ i, i < G.length + 64 → w.cell? ⟨g, i, none⟩ = some (.string ((G ++ mtxs 64).getD i ByteArray.empty))) :
    Calls Try.prog 9 #[.slice (some ⟨g, 0, none⟩) (G.length + 64) cF, .slice ao G.length c] w fun e w' => e = .returned (.bool true) ∧ Below w.heap.size w w' := by
  have HC : Hid (∀ i, i < G.length + 64 → w.cell? ⟨g, i, none⟩ = some (.string ((G ++ mtxs 64).getD i ByteArray.empty))) := hcl
  have HG : Hid (GRd w ao G w.heap.size) := hr
  have mixed : Try.prog.follows .mixedOrders = true := by kernel_rfl
  clear hcl hr
  go_enter Try.func9, Try.ntmps9
  go_wp2_with fail
  go_loopw [5] (fun i wr => ∃ k : Nat, k ≤ G.length ∧ i = .int .i64 k ∧ Below w.heap.size w wr) (fun i _ => G.length - (intOf i).toNat)
  case atStart => exact ⟨0, Nat.zero_le _, rfl, Below.refl _ _⟩
  case round =>
    obtain ⟨k, hk, rfl, hb⟩ := hrel
    by_cases hlt : k < G.length
    · have hltI : (k : Int) < (G.length : Int) := by omega
      have hltI2 : (k : Int) < (G.length : Int) + 64 := by omega
      obtain ⟨b, off, e, hbl, hcell⟩ := HG.out (by omega)
      subst e
      have hck := (hb.cell (p := ⟨b, off + k, none⟩) hbl).trans (hcell k hlt)
      have hfk : wr.cell? ⟨g, k, none⟩ = some (.string (G.getD k ByteArray.empty)) := by
        rw [hb.cell (p := ⟨g, k, none⟩) hg, HC.out k (by omega)]
        simp [List.getElem?_append_left hlt]
      generalize G.getD k ByteArray.empty = x at *
      clear hcell
      go_wp2_with fail
      go_quiet (fail)
      go_wp2_with fail
      go_roundw
      case rel => exact ⟨k + 1, by omega, by go_num, below_drewN hb _⟩
      case measure => simp [intOf]; omega
    · obtain rfl : k = G.length := by omega
      go_wp2_with fail
      go_loopw [6] (fun i wr => ∃ k : Nat, k ≤ 64 ∧ i = .int .i64 k ∧ Below w.heap.size w wr) (fun i _ => 64 - (intOf i).toNat)
      case atStart => exact ⟨0, by omega, rfl, hb⟩
      case round =>
        clear hb
        obtain ⟨j, hj, rfl, hb⟩ := hrel
        have hbs := hb.size
        by_cases hlt2 : j < 64
        · have hltI : (j : Int) < 64 := by omega
          have hfk : wr.cell? ⟨g, G.length + j, none⟩ = some (.string (mtx j)) := by
            rw [hb.cell (p := ⟨g, G.length + j, none⟩) hg, HC.out _ (by omega)]
            simp [mtxs, hlt2]
          have hM := fun w1 => markT_grown j w1 hlt2
          generalize mtx j = x at *
          have y0 : ∀ n os, (grow (wr.drewN n) os).cell? ⟨g, G.length + j, none⟩ = some (.string x) := fun n os => cell_grown (a := ⟨g, G.length + j, none⟩) (by show g < _; omega) hfk n os
          have hltI3 : (G.length : Int) + (j : Int) < (G.length : Int) + 64 := by omega
          have hw1 : IntKind.i64.wrap ((G.length : Int) + (j : Int)) = (G.length : Int) + (j : Int) := by rw [IntKind.wrap_i64]; omega
          have t1 : ((G.length : Int) + (j : Int)).toNat = G.length + j := by omega
          have t2 : ¬ (G.length : Int) + (j : Int) < 0 := by omega
          have t3 : (0 : Int) ≤ (G.length : Int) + (j : Int) := by omega
          go_wp2_with fail
          go_quiet_grown (first | (with_reducible refine Calls.grown_of (hM _)) | fail)
          go_wp2_with fail
          go_roundw
          case rel => exact ⟨j + 1, by omega, by go_num, hb.trans ((belowG _ _ _).mono hb.size)⟩
          case measure => simp [intOf]; omega
        · obtain rfl : j = 64 := by omega
          go_wp2_with fail
          go_ret
          exact ⟨rfl, hb⟩
set_option maxHeartbeats 4000000 in
theorem sameK_any (s1 : Option Addr) (k1 : Nat) (s2 : Option Addr) (k2 : Nat) (Y : List Tt) (w : World) (h1 : TRd w s1 Y w.heap.size) (h2 : TRd w s2 Y w.heap.size) (hz : Y.length ≤ 1048576) :
    Calls Try.prog 19 #[.slice s1 Y.length k1, .slice s2 Y.length k2] w fun e w' => e = .returned (.bool true) ∧ Below w.heap.size w w' := by
  have H1 : Hid (TRd w s1 Y w.heap.size) := h1
  have H2 : Hid (TRd w s2 Y w.heap.size) := h2
  clear h1 h2
  go_enter Try.func19, Try.ntmps19
  go_wp2_with fail
  go_loopw [5] (fun i wr => ∃ k : Nat, k ≤ Y.length ∧ i = .int .i64 k ∧ Below w.heap.size w wr) (fun i _ => Y.length - (intOf i).toNat)
  case atStart => exact ⟨0, Nat.zero_le _, rfl, Below.refl _ _⟩
  case round =>
    obtain ⟨k, hk, rfl, hb⟩ := hrel
    by_cases hlt : k < Y.length
    · have hltI : (k : Int) < (Y.length : Int) := by omega
      obtain ⟨b1, e1, hb1, hc1⟩ := H1.out (by omega)
      obtain ⟨b2, e2, hb2, hc2⟩ := H2.out (by omega)
      subst e1 e2
      obtain ⟨c0, c1, c2⟩ := hc1 k Y[k] (List.getElem?_eq_getElem hlt)
      obtain ⟨d0, d1, d2⟩ := hc2 k Y[k] (List.getElem?_eq_getElem hlt)
      obtain ⟨⟨K, a1, T⟩, hy1⟩ : ∃ y, Y[k] = y := ⟨_, rfl⟩
      rw [hy1] at c0 c1 c2 d0 d1 d2
      simp only at c0 c1 c2 d0 d1 d2
      have c0' : wr.cell? ⟨b1, k * 3, none⟩ = some (.int .u8 K) := (hb.cell (p := ⟨b1, k * 3, none⟩) hb1).trans c0
      have c1' : wr.cell? ⟨b1, k * 3 + 1, none⟩ = some (.int .i64 a1) := (hb.cell (p := ⟨b1, k * 3 + 1, none⟩) hb1).trans c1
      have c2' : wr.cell? ⟨b1, k * 3 + 2, none⟩ = some (.string T) := (hb.cell (p := ⟨b1, k * 3 + 2, none⟩) hb1).trans c2
      have d0' : wr.cell? ⟨b2, k * 3, none⟩ = some (.int .u8 K) := (hb.cell (p := ⟨b2, k * 3, none⟩) hb2).trans d0
      have d1' : wr.cell? ⟨b2, k * 3 + 1, none⟩ = some (.int .i64 a1) := (hb.cell (p := ⟨b2, k * 3 + 1, none⟩) hb2).trans d1
      have d2' : wr.cell? ⟨b2, k * 3 + 2, none⟩ = some (.string T) := (hb.cell (p := ⟨b2, k * 3 + 2, none⟩) hb2).trans d2
      clear c0 c1 c2 d0 d1 d2 hc1 hc2 hy1 H1 H2
      go_wp2_with fail
      go_quiet (fail)
      go_wp2_with fail
      go_roundw
      case rel => exact ⟨k + 1, by omega, by go_num, below_drewN hb nq⟩
      case measure => simp [intOf]; omega
    · obtain rfl : k = Y.length := by omega
      go_wp2_with fail
      go_ret
      exact ⟨rfl, hb⟩
end Go.Proofs.Ytldeodnlppjbcaa
