import Derived.Test.YtpndbbepfjocgaaVTs
import Derived.Shelf.SlSortCmp.QuietGrown
import Derived.Deep.RegionHeld3
import Derived.Deep.MidRow
namespace Go.Proofs.Ytpndbbepfjocgaa
open Go.RowKit
set_option maxRecDepth 100000

/-- the mark of a place in a list of texts -/
def mtx (i : Nat) : ByteArray := strOfNums [35, 0, 0, (i : Int), 0]
set_option maxHeartbeats 2000000 in
theorem markT_any (i : Nat) (w : World) (hi : i < 64) :
    Calls Try.prog 14 #[.int .i64 0, .int .i64 i] w fun e w' => e = .returned (.string (mtx i)) ∧ w' = w.alloc (.cells #[.int .u8 35, .int .u8 0, .int .u8 0, .int .u8 i, .int .u8 0] 5) := by
  have hC : (convert 35 9 (.slice (some ⟨w.heap.size, 0, none⟩) 5 5)).run Try.prog (w.alloc (.cells #[.int .u8 35, .int .u8 0, .int .u8 0, .int .u8 i, .int .u8 0] 5)) = .ok (.string (mtx i)) (w.alloc (.cells #[.int .u8 35, .int .u8 0, .int .u8 0, .int .u8 i, .int .u8 0] 5)) := by
    refine run_convert_bytes_arg _ 35 5 Try.underlying35 Try.underlying5 w.heap.size 0 5 5 [35, 0, 0, (i : Int), 0] rfl (fun j hj => ?_) 9 Try.underlying9
    have hj5 : j < 5 := hj
    match j, hj5 with
    | 0, _ => simp
    | 1, _ => simp
    | 2, _ => simp
    | 3, _ => simp
    | 4, _ => simp
  have hd : (i : Int) / 256 = 0 := by omega
  go_enter Try.func14, Try.ntmps14
  go_wp2_with fail
  go_ret
  exact ⟨rfl, rfl⟩
def gsv (L : List ByteArray) : List Value := L.map .string
theorem gsv_append (L M : List ByteArray) : gsv (L ++ M) = gsv L ++ gsv M := by simp [gsv]
def mtxs (m : Nat) : List ByteArray := (List.range m).map mtx
theorem mtxs_succ (m : Nat) : mtxs (m + 1) = mtxs m ++ [mtx m] := by simp [mtxs, List.range_succ]
theorem mtxs_len (m : Nat) : (mtxs m).length = m := by simp [mtxs]
theorem Try.infoSt : (Try.prog.info? 9).map (fun i => (i.zero, i.size, i.bytes)) = some (some (.string ⟨#[]⟩), 1, 16) := by kernel_rfl
theorem newsS (W : World) (x : ByteArray) (n : Nat) (hn : W.heap.size = n) : ∀ j u, [Value.string x][j]? = some u → (W.alloc (.cells #[.string x] 9)).cell? (Addr.add ⟨n, 0, none⟩ j) = some u := by
  subst hn
  intro j u hj
  match j, hj with
  | 0, hj => simp at hj; subst hj; simp [Addr.add]
  | (j + 1), hj => simp at hj
theorem oneS (x : ByteArray) : ∀ u ∈ [Value.string x], u.oneCell' = true := by
  intro u hu
  rw [List.mem_singleton.1 hu]
  rfl
theorem lent_below {w wr w5 : World} {o : Obj} {n e : Nat} {v : Value} {xs : List Value} (hb : Below w.heap.size w wr) (hown : wr.ownsRow w.heap.size e 1 v n xs) (hg : (wr.alloc o).grownBy w5 v.ownBlock) : Below w.heap.size w w5 :=
  (hb.alloc hb.size _).grown hg (by have := hb.size; simp; omega) (fun j e => (hown.lt j e).1)
theorem gsv_len (L : List ByteArray) : (gsv L).length = L.length := by simp [gsv]
set_option maxHeartbeats 4000000 in
theorem lentT_any (ao : Option Addr) (c : Nat) (G : List ByteArray) (w : World) (hn : G.length ≤ 8796093021952) (hr : GRd w ao G w.heap.size) :
    Calls Try.prog 6 #[.slice ao G.length c] w fun e w' => ∃ v, e = .returned v ∧ w'.ownsRow w.heap.size 9 1 v (G.length + 64) (gsv (G ++ mtxs 64)) ∧ Below w.heap.size w w' := by
  obtain ⟨i0, hi, hz0, hz1, hz2⟩ := info_parts Try.infoSt
  have HG : Hid (GRd w ao G w.heap.size) := hr
  clear hr
  go_enter Try.func6, Try.ntmps6
  go_wp2_with fail
  go_loopw [3, 4] (fun v i wr => ∃ k : Nat, k ≤ G.length ∧ i = .int .i64 k ∧ wr.ownsRow w.heap.size 9 1 v k (gsv (G.take k)) ∧ Below w.heap.size w wr) (fun _ i _ => G.length - (intOf i).toNat)
  case atStart => exact ⟨0, Nat.zero_le _, rfl, World.ownsRow_nil _ _ _ _, Below.refl _ _⟩
  case round =>
    obtain ⟨k, hk, rfl, hown, hb⟩ := hrel
    have hbs := hb.size
    by_cases hlt : k < G.length
    · have hltI : (k : Int) < (G.length : Int) := by omega
      obtain ⟨b, off, e, hbl, hcell⟩ := HG.out (by omega)
      subst e
      have hck := (hb.cell (p := ⟨b, off + k, none⟩) hbl).trans (hcell k hlt)
      have HT : Hid (gsv (G.take (k + 1)) = gsv (G.take k) ++ [.string (G.getD k ByteArray.empty)]) := by
        rw [Hid, List.take_succ_eq_append_getElem hlt, gsv_append, List.getD_eq_getElem?_getD, List.getElem?_eq_getElem hlt]; rfl
      generalize G.getD k ByteArray.empty = x at *
      clear hcell
      go_wp2_with (first
        | (at_builtin; refine wpList_append_own _ rfl _ _ 23 rfl w.heap.size 9 i0 (.string ⟨#[]⟩) 1 16 Try.underlying23 hi hz0 hz1 hz2 rfl (by decide) _ _ _ rfl (hown.alloc _) ⟨_, 0, none⟩ 1 1 [.string x] rfl rfl (newsS _ _ _ rfl) (oneS x) (by unfold maxLen; omega) (by omega) (by simp; omega) ?_; intro v' w5 hown' hgrow hnil; clear hnil; have hb5 := lent_below hb hown hgrow; rw [← HT.out] at hown'; clear hgrow)
        | fail)
      go_roundw
      case rel => exact ⟨k + 1, by omega, by go_num, hown', hb5⟩
      case measure => simp [intOf]; omega
    · obtain rfl : k = G.length := by omega
      rw [List.take_length] at hown
      go_wp2_with fail
      go_loopw [3, 5] (fun v i wr => ∃ k : Nat, k ≤ 64 ∧ i = .int .i64 k ∧ wr.ownsRow w.heap.size 9 1 v (G.length + k) (gsv (G ++ mtxs k)) ∧ Below w.heap.size w wr) (fun _ i _ => 64 - (intOf i).toNat)
      case atStart => exact ⟨0, by omega, rfl, by simpa [mtxs] using hown, hb⟩
      case round =>
        clear hown hb
        obtain ⟨k, hk, rfl, hown, hb⟩ := hrel
        have hbs := hb.size
        by_cases hlt : k < 64
        · have hltI : (k : Int) < 64 := by omega
          have hM := fun w1 => markT_any k w1 hlt
          have HT : Hid (gsv (G ++ mtxs (k + 1)) = gsv (G ++ mtxs k) ++ [.string (mtx k)]) := by
            rw [Hid, mtxs_succ, ← List.append_assoc, gsv_append]; rfl
          generalize mtx k = x at *
          go_wp2_with (first
            | (go_at_call 14; with_reducible refine (hM _).mono ?_; rintro e wq ⟨rfl, hq⟩; subst wq)
            | (at_builtin; refine wpList_append_own _ rfl _ _ 23 rfl w.heap.size 9 i0 (.string ⟨#[]⟩) 1 16 Try.underlying23 hi hz0 hz1 hz2 rfl (by decide) _ _ _ rfl ((hown.alloc _).alloc _) ⟨_, 0, none⟩ 1 1 [.string x] rfl rfl (newsS _ _ _ (World.size_alloc _ _)) (oneS x) (by unfold maxLen; omega) (by omega) (gl_base hbs) ?_; intro v' w5 hown' hgrow hnil; clear hnil; have hb5 := lent_below (hb.alloc hb.size _) (hown.alloc _) hgrow; rw [← HT.out] at hown'; clear hgrow)
            | fail)
          go_roundw
          case rel => exact ⟨k + 1, by omega, by go_num, hown', hb5⟩
          case measure => simp [intOf]; omega
        · obtain rfl : k = 64 := by omega
          go_wp2_with fail
          go_ret
          exact ⟨_, rfl, hown, hb⟩
end Go.Proofs.Ytpndbbepfjocgaa
namespace Go.Proofs.Ytpndbbepfjocgaa
open Go.RowKit Go.Sort
set_option maxRecDepth 100000

theorem markT_grown (i : Nat) (w : World) (hi : i < 64) :
    Calls Try.prog 14 #[.int .i64 0, .int .i64 i] w fun e w' => e = .returned (.string (mtx i)) ∧ ∃ q os', w' = grow (w.drewN q) os' :=
  (markT_any i w hi).mono fun e w' ⟨h1, h2⟩ => ⟨h1, 0, #[.cells #[.int .u8 35, .int .u8 0, .int .u8 0, .int .u8 i, .int .u8 0] 5], by subst h2; exact alloc_eq_grow _ _⟩
theorem belowG (w : World) (n : Nat) (os : Array Obj) : Below w.heap.size w (grow (w.drewN n) os) :=
  ⟨rfl, rfl, rfl, by simp [grow], fun j hj => by
    have := heap_grow_old (w.drewN n) os (by exact hj)
    exact this⟩
set_option maxHeartbeats 4000000 in
theorem keptT_any (ao : Option Addr) (c : Nat) (G : List ByteArray) (g cF : Nat) (w : World) (hn : G.length ≤ 8796093021952) (hr : GRd w ao G w.heap.size) (hg : g < w.heap.size)
    (hcl : ∀ i, i < G.length + 64 → w.cell? ⟨g, i, none⟩ = some (.string ((G ++ mtxs 64).getD i ByteArray.empty))) :
    Calls Try.prog 9 #[.slice (some ⟨g, 0, none⟩) (G.length + 64) cF, .slice ao G.length c] w fun e w' => e = .returned (.bool true) ∧ Below w.heap.size w w' := by
  have HC : Hid (∀ i, i < G.length + 64 → w.cell? ⟨g, i, none⟩ = some (.string ((G ++ mtxs 64).getD i ByteArray.empty))) := hcl
  have HG : Hid (GRd w ao G w.heap.size) := hr
  have mixed : Try.prog.follows .mixedOrders = true := by kernel_rfl
  clear hcl hr
  go_enter Try.func9, Try.ntmps9
  go_wp2_with fail
  go_loopw [5] (fun i wr => ∃ k : Nat, k ≤ G.length ∧ i = .int .i64 k ∧ Below w.heap.size w wr) (fun i _ => G.length - (intOf i).toNat)
  case atStart => exact ⟨0, Nat.zero_le _, rfl, Below.refl _ _⟩
  case round =>
    obtain ⟨k, hk, rfl, hb⟩ := hrel
    by_cases hlt : k < G.length
    · have hltI : (k : Int) < (G.length : Int) := by omega
      have hltI2 : (k : Int) < (G.length : Int) + 64 := by omega
      obtain ⟨b, off, e, hbl, hcell⟩ := HG.out (by omega)
      subst e
      have hck := (hb.cell (p := ⟨b, off + k, none⟩) hbl).trans (hcell k hlt)
      have hfk : wr.cell? ⟨g, k, none⟩ = some (.string (G.getD k ByteArray.empty)) := by
        rw [hb.cell (p := ⟨g, k, none⟩) hg, HC.out k (by omega)]
        simp [List.getElem?_append_left hlt]
      generalize G.getD k ByteArray.empty = x at *
      clear hcell
      go_wp2_with fail
      go_quiet (fail)
      go_wp2_with fail
      go_roundw
      case rel => exact ⟨k + 1, by omega, by go_num, below_drewN hb _⟩
      case measure => simp [intOf]; omega
    · obtain rfl : k = G.length := by omega
      go_wp2_with fail
      go_loopw [6] (fun i wr => ∃ k : Nat, k ≤ 64 ∧ i = .int .i64 k ∧ Below w.heap.size w wr) (fun i _ => 64 - (intOf i).toNat)
      case atStart => exact ⟨0, by omega, rfl, hb⟩
      case round =>
        clear hb
        obtain ⟨j, hj, rfl, hb⟩ := hrel
        have hbs := hb.size
        by_cases hlt2 : j < 64
        · have hltI : (j : Int) < 64 := by omega
          have hfk : wr.cell? ⟨g, G.length + j, none⟩ = some (.string (mtx j)) := by
            rw [hb.cell (p := ⟨g, G.length + j, none⟩) hg, HC.out _ (by omega)]
            simp [mtxs, hlt2]
          have hM := fun w1 => markT_grown j w1 hlt2
          generalize mtx j = x at *
          have y0 : ∀ n os, (grow (wr.drewN n) os).cell? ⟨g, G.length + j, none⟩ = some (.string x) := fun n os => cell_grown (a := ⟨g, G.length + j, none⟩) (by show g < _; omega) hfk n os
          have hltI3 : (G.length : Int) + (j : Int) < (G.length : Int) + 64 := by omega
          have hw1 : IntKind.i64.wrap ((G.length : Int) + (j : Int)) = (G.length : Int) + (j : Int) := by rw [IntKind.wrap_i64]; omega
          have t1 : ((G.length : Int) + (j : Int)).toNat = G.length + j := by omega
          have t2 : ¬ (G.length : Int) + (j : Int) < 0 := by omega
          have t3 : (0 : Int) ≤ (G.length : Int) + (j : Int) := by omega
          go_wp2_with fail
          go_quiet_grown (first | (with_reducible refine Calls.grown_of (hM _)) | fail)
          go_wp2_with fail
          go_roundw
          case rel => exact ⟨j + 1, by omega, by go_num, hb.trans ((belowG _ _ _).mono hb.size)⟩
          case measure => simp [intOf]; omega
        · obtain rfl : j = 64 := by omega
          go_wp2_with fail
          go_ret
          exact ⟨rfl, hb⟩
end Go.Proofs.Ytpndbbepfjocgaa
namespace Go.Proofs.Ytpndbbepfjocgaa
open Go.RowKit Go.Sort
set_option maxRecDepth 100000

/-- the marks of tokens -/
def mkK (i : Nat) : Tt := (99, 1000003 + (i : Int), ⟨#[]⟩)
def mkO (i : Nat) : Tt := (99, (i : Int), ⟨#[]⟩)
def mkKs (m : Nat) : List Tt := (List.range m).map mkK
theorem mkKs_succ (m : Nat) : mkKs (m + 1) = mkKs m ++ [mkK m] := by simp [mkKs, List.range_succ]
theorem mkKs_len (m : Nat) : (mkKs m).length = m := by simp [mkKs]
set_option maxHeartbeats 1000000 in
theorem markK_any (i : Nat) (w : World) (hi : i ≤ 134217728) :
    Calls Try.prog 13 #[.int .i64 0, .int .i64 ((i : Nat) : Int)] w fun e w' => e = .returned (.agg #[.int .u8 99, .int .i64 (1000003 + (i : Int)), .string ⟨#[]⟩]) ∧ w' = w.alloc (.cells #[.int .u8 99, .int .i64 (1000003 + (i : Int)), .string ⟨#[]⟩] 40) := by
  have hiI : (i : Int) ≤ 134217728 := by omega
  have hi0 : (0 : Int) ≤ (i : Int) := by omega
  clear hi
  generalize (i : Int) = ii at *
  go_enter Try.func13, Try.ntmps13
  go_wp2
  obtain ⟨fs, hu⟩ := undTk
  exact bodyPost_ret (results_cell_row (p := 4) (ty := 40) (by kernel_rfl) _ _ w.heap.size 40 #[.int .u8 99, .int .i64 (1000003 + ii), .string ⟨#[]⟩] (0, 0) _ rfl (heap_alloc_last w _) hu rfl (by rw [infoTk]; rfl)) rfl ⟨rfl, rfl⟩
set_option maxHeartbeats 1000000 in
theorem markO_any (i : Nat) (w : World) (hi : i ≤ 134217728) :
    Calls Try.prog 13 #[.int .i64 (-1), .int .i64 ((i : Nat) : Int)] w fun e w' => e = .returned (.agg #[.int .u8 99, .int .i64 (i : Int), .string ⟨#[]⟩]) ∧ w' = w.alloc (.cells #[.int .u8 99, .int .i64 (i : Int), .string ⟨#[]⟩] 40) := by
  have hiI : (i : Int) ≤ 134217728 := by omega
  have hi0 : (0 : Int) ≤ (i : Int) := by omega
  clear hi
  generalize (i : Int) = ii at *
  go_enter Try.func13, Try.ntmps13
  go_wp2
  obtain ⟨fs, hu⟩ := undTk
  exact bodyPost_ret (results_cell_row (p := 4) (ty := 40) (by kernel_rfl) _ _ w.heap.size 40 #[.int .u8 99, .int .i64 ii, .string ⟨#[]⟩] (0, 0) _ rfl (heap_alloc_last w _) hu rfl (by rw [infoTk]; rfl)) rfl ⟨rfl, rfl⟩
theorem lentK_below {w wr w5 : World} {o : Obj} {n : Nat} {v : Value} {xs : List Value} (hb : Below w.heap.size w wr) (hown : wr.ownsRow w.heap.size 40 3 v n xs) (hg : (wr.alloc o).grownBy w5 v.ownBlock) : Below w.heap.size w w5 :=
  (hb.alloc hb.size _).grown hg (by have := hb.size; simp; omega) (fun j e => (hown.lt j e).1)
theorem one3i (k a : Int) (T : ByteArray) : ∀ u ∈ [Value.int .u8 k, Value.int .i64 a, Value.string T], u.oneCell' = true := by
  intro u hu
  simp at hu
  rcases hu with rfl | rfl | rfl <;> rfl
set_option maxHeartbeats 4000000 in
theorem lentK_any (so : Option Addr) (sc : Nat) (Y : List Tt) (w : World) (hn : Y.length ≤ 1048576) (hr : TRd w so Y w.heap.size) :
    Calls Try.prog 5 #[.slice so Y.length sc] w fun e w' => ∃ v, e = .returned v ∧ w'.ownsRow w.heap.size 40 3 v (Y.length + 64) (tw (Y ++ mkKs 64)) ∧ Below w.heap.size w w' := by
  obtain ⟨i0, hi, hz0, hz1, hz2⟩ := info_parts Try.infoTk
  have HG : Hid (TRd w so Y w.heap.size) := hr
  clear hr
  go_enter Try.func5, Try.ntmps5
  go_wp2_with fail
  go_loopw [3, 4] (fun v i wr => ∃ k : Nat, k ≤ Y.length ∧ i = .int .i64 k ∧ wr.ownsRow w.heap.size 40 3 v k (tw (Y.take k)) ∧ Below w.heap.size w wr) (fun _ i _ => Y.length - (intOf i).toNat)
  case atStart => exact ⟨0, Nat.zero_le _, rfl, World.ownsRow_nil _ _ _ _, Below.refl _ _⟩
  case round =>
    obtain ⟨k, hk, rfl, hown, hb⟩ := hrel
    have hbs := hb.size
    by_cases hlt : k < Y.length
    · have hltI : (k : Int) < (Y.length : Int) := by omega
      obtain ⟨b, off, e, hbl, hcl⟩ := HG.out (by omega)
      subst e
      obtain ⟨c0, c1, c2⟩ := hcl k Y[k] (List.getElem?_eq_getElem hlt)
      have HT : Hid (tw (Y.take (k + 1)) = tw (Y.take k) ++ [.int .u8 Y[k].1, .int .i64 Y[k].2.1, .string Y[k].2.2]) := by
        rw [Hid, List.take_succ_eq_append_getElem hlt, tw_append]; rfl
      obtain ⟨⟨K, at_, T⟩, hy⟩ : ∃ y, Y[k] = y := ⟨_, rfl⟩
      rw [hy] at c0 c1 c2 HT
      simp only at c0 c1 c2 HT
      have c0' : wr.cell? ⟨b, off + k * 3, none⟩ = some (.int .u8 K) := (hb.cell (p := ⟨b, off + k * 3, none⟩) hbl).trans c0
      have c1' : wr.cell? ⟨b, off + k * 3 + 1, none⟩ = some (.int .i64 at_) := (hb.cell (p := ⟨b, off + k * 3 + 1, none⟩) hbl).trans c1
      have c2' : wr.cell? ⟨b, off + k * 3 + 2, none⟩ = some (.string T) := (hb.cell (p := ⟨b, off + k * 3 + 2, none⟩) hbl).trans c2
      clear hcl c0 c1 c2 hy
      go_wp2_with (first
        | (at_builtin; refine wpList_append_own _ rfl _ _ 22 rfl w.heap.size 40 i0 (.agg #[.int .u8 0, .int .i64 0, .string ⟨#[]⟩]) 3 32 Try.underlying22 hi hz0 hz1 hz2 rfl (by decide) _ _ _ rfl (hown.alloc _) ⟨_, 0, none⟩ 1 1 [.int .u8 (K : Int), .int .i64 at_, .string T] rfl rfl (app3 _ _ _ _ _) (one3i _ _ _) (by unfold maxLen; omega) (by omega) (by simp; omega) ?_; intro v' w5 hown' hgrow hnil; clear hnil; have hb5 := lentK_below hb hown hgrow; rw [← HT.out] at hown'; clear hgrow)
        | fail)
      go_roundw
      case rel => exact ⟨k + 1, by omega, by go_num, hown', hb5⟩
      case measure => simp [intOf]; omega
    · obtain rfl : k = Y.length := by omega
      rw [List.take_length] at hown
      go_wp2_with fail
      go_loopw [3, 5] (fun v i wr => ∃ k : Nat, k ≤ 64 ∧ i = .int .i64 k ∧ wr.ownsRow w.heap.size 40 3 v (Y.length + k) (tw (Y ++ mkKs k)) ∧ Below w.heap.size w wr) (fun _ i _ => 64 - (intOf i).toNat)
      case atStart => exact ⟨0, by omega, rfl, by simpa [mkKs] using hown, hb⟩
      case round =>
        clear hown hb
        obtain ⟨k, hk, rfl, hown, hb⟩ := hrel
        have hbs := hb.size
        by_cases hlt : k < 64
        · have hltI : (k : Int) < 64 := by omega
          have hM := fun w1 => markK_any k w1 (by omega)
          have HT : Hid (tw (Y ++ mkKs (k + 1)) = tw (Y ++ mkKs k) ++ [.int .u8 99, .int .i64 (1000003 + (k : Int)), .string ⟨#[]⟩]) := by
            rw [Hid, mkKs_succ, ← List.append_assoc, tw_append]; rfl
          generalize (1000003 + (k : Int)) = m2 at *
          go_wp2_with (first
            | (go_at_call 13; with_reducible refine (hM _).mono ?_; rintro e wq ⟨rfl, hq⟩; subst wq)
            | (at_builtin; refine wpList_append_own _ rfl _ _ 22 rfl w.heap.size 40 i0 (.agg #[.int .u8 0, .int .i64 0, .string ⟨#[]⟩]) 3 32 Try.underlying22 hi hz0 hz1 hz2 rfl (by decide) _ _ _ rfl ((hown.alloc _).alloc _) ⟨_, 0, none⟩ 1 1 [.int .u8 99, .int .i64 m2, .string ⟨#[]⟩] rfl rfl (app3n _ _ _ (World.size_alloc _ _) _ _ _) (one3i _ _ _) (by unfold maxLen; omega) (by omega) (gl_base hbs) ?_; intro v' w5 hown' hgrow hnil; clear hnil; have hb5 := lentK_below (hb.alloc hb.size _) (hown.alloc _) hgrow; rw [← HT.out] at hown'; clear hgrow)
            | fail)
          go_roundw
          case rel => exact ⟨k + 1, by omega, by go_num, hown', hb5⟩
          case measure => simp [intOf]; omega
        · obtain rfl : k = 64 := by omega
          go_wp2_with fail
          go_ret
          exact ⟨_, rfl, hown, hb⟩
end Go.Proofs.Ytpndbbepfjocgaa
namespace Go.Proofs.Ytpndbbepfjocgaa
open Go.RowKit Go.Sort
set_option maxRecDepth 100000

theorem markK_grown (i : Nat) (w : World) (hi : i ≤ 134217728) :
    Calls Try.prog 13 #[.int .i64 0, .int .i64 ((i : Nat) : Int)] w fun e w' => e = .returned (.agg #[.int .u8 99, .int .i64 (1000003 + (i : Int)), .string ⟨#[]⟩]) ∧ ∃ q os', w' = grow (w.drewN q) os' :=
  (markK_any i w hi).mono fun e w' ⟨h1, h2⟩ => ⟨h1, 0, #[.cells #[.int .u8 99, .int .i64 (1000003 + (i : Int)), .string ⟨#[]⟩] 40], by subst h2; exact alloc_eq_grow _ _⟩
set_option maxHeartbeats 4000000 in
theorem keptK_any (so : Option Addr) (sc : Nat) (Y : List Tt) (g cF : Nat) (w : World) (hn : Y.length ≤ 1048576) (hr : TRd w so Y w.heap.size) (hg : g < w.heap.size)
    (hcl : ∀ i y, (Y ++ mkKs 64)[i]? = some y → w.cell? ⟨g, i * 3, none⟩ = some (.int .u8 y.1) ∧ w.cell? ⟨g, i * 3 + 1, none⟩ = some (.int .i64 y.2.1) ∧ w.cell? ⟨g, i * 3 + 2, none⟩ = some (.string y.2.2)) :
    Calls Try.prog 8 #[.slice (some ⟨g, 0, none⟩) (Y.length + 64) cF, .slice so Y.length sc] w fun e w' => e = .returned (.bool true) ∧ Below w.heap.size w w' := by
  have HC := hidK hcl
  have HG : Hid (TRd w so Y w.heap.size) := hr
  have mixed : Try.prog.follows .mixedOrders = true := by kernel_rfl
  clear hcl hr
  go_enter Try.func8, Try.ntmps8
  go_wp2_with fail
  go_loopw [5] (fun i wr => ∃ k : Nat, k ≤ Y.length ∧ i = .int .i64 k ∧ Below w.heap.size w wr) (fun i _ => Y.length - (intOf i).toNat)
  case atStart => exact ⟨0, Nat.zero_le _, rfl, Below.refl _ _⟩
  case round =>
    obtain ⟨k, hk, rfl, hb⟩ := hrel
    by_cases hlt : k < Y.length
    · have hltI : (k : Int) < (Y.length : Int) := by omega
      have hltI2 : (k : Int) < (Y.length : Int) + 64 := by omega
      obtain ⟨b, off, e, hbl, hcell⟩ := HG.out (by omega)
      subst e
      obtain ⟨c0, c1, c2⟩ := hcell k Y[k] (List.getElem?_eq_getElem hlt)
      obtain ⟨d0, d1, d2⟩ := HC.out k Y[k] (by rw [List.getElem?_append_left hlt, List.getElem?_eq_getElem hlt])
      obtain ⟨⟨K, at_, T⟩, hy⟩ : ∃ y, Y[k] = y := ⟨_, rfl⟩
      rw [hy] at c0 c1 c2 d0 d1 d2
      simp only at c0 c1 c2 d0 d1 d2
      have c0' : wr.cell? ⟨b, off + k * 3, none⟩ = some (.int .u8 K) := (hb.cell (p := ⟨b, off + k * 3, none⟩) hbl).trans c0
      have c1' : wr.cell? ⟨b, off + k * 3 + 1, none⟩ = some (.int .i64 at_) := (hb.cell (p := ⟨b, off + k * 3 + 1, none⟩) hbl).trans c1
      have c2' : wr.cell? ⟨b, off + k * 3 + 2, none⟩ = some (.string T) := (hb.cell (p := ⟨b, off + k * 3 + 2, none⟩) hbl).trans c2
      have d0' : wr.cell? ⟨g, k * 3, none⟩ = some (.int .u8 K) := (hb.cell (p := ⟨g, k * 3, none⟩) hg).trans d0
      have d1' : wr.cell? ⟨g, k * 3 + 1, none⟩ = some (.int .i64 at_) := (hb.cell (p := ⟨g, k * 3 + 1, none⟩) hg).trans d1
      have d2' : wr.cell? ⟨g, k * 3 + 2, none⟩ = some (.string T) := (hb.cell (p := ⟨g, k * 3 + 2, none⟩) hg).trans d2
      clear hcell c0 c1 c2 d0 d1 d2 hy
      go_wp2_with fail
      go_quiet (fail)
      go_wp2_with fail
      go_roundw
      case rel => exact ⟨k + 1, by omega, by go_num, below_drewN hb _⟩
      case measure => simp [intOf]; omega
    · obtain rfl : k = Y.length := by omega
      go_wp2_with fail
      go_loopw [6] (fun i wr => ∃ k : Nat, k ≤ 64 ∧ i = .int .i64 k ∧ Below w.heap.size w wr) (fun i _ => 64 - (intOf i).toNat)
      case atStart => exact ⟨0, by omega, rfl, hb⟩
      case round =>
        clear hb
        obtain ⟨j, hj, rfl, hb⟩ := hrel
        have hbs := hb.size
        by_cases hlt2 : j < 64
        · have hltI : (j : Int) < 64 := by omega
          obtain ⟨d0, d1, d2⟩ := HC.out (Y.length + j) (mkK j) (by rw [List.getElem?_append_right (by omega)]; simp [mkKs, hlt2])
          simp only [mkK] at d0 d1 d2
          have hM := fun w1 => markK_grown j w1 (by omega)
          generalize (1000003 + (j : Int)) = m2 at *
          have y0 : ∀ n os, (grow (wr.drewN n) os).cell? ⟨g, (Y.length + j) * 3, none⟩ = some (.int .u8 99) := fun n os => cell_grown (a := ⟨g, (Y.length + j) * 3, none⟩) (by show g < _; omega) ((hb.cell (p := ⟨g, (Y.length + j) * 3, none⟩) hg).trans d0) n os
          have y1 : ∀ n os, (grow (wr.drewN n) os).cell? ⟨g, (Y.length + j) * 3 + 1, none⟩ = some (.int .i64 m2) := fun n os => cell_grown (a := ⟨g, (Y.length + j) * 3 + 1, none⟩) (by show g < _; omega) ((hb.cell (p := ⟨g, (Y.length + j) * 3 + 1, none⟩) hg).trans d1) n os
          have y2 : ∀ n os, (grow (wr.drewN n) os).cell? ⟨g, (Y.length + j) * 3 + 2, none⟩ = some (.string ⟨#[]⟩) := fun n os => cell_grown (a := ⟨g, (Y.length + j) * 3 + 2, none⟩) (by show g < _; omega) ((hb.cell (p := ⟨g, (Y.length + j) * 3 + 2, none⟩) hg).trans d2) n os
          have hltI3 : (Y.length : Int) + (j : Int) < (Y.length : Int) + 64 := by omega
          have hw1 : IntKind.i64.wrap ((Y.length : Int) + (j : Int)) = (Y.length : Int) + (j : Int) := by rw [IntKind.wrap_i64]; omega
          have t1 : ((Y.length : Int) + (j : Int)).toNat = Y.length + j := by omega
          have t2 : ¬ (Y.length : Int) + (j : Int) < 0 := by omega
          have t3 : (0 : Int) ≤ (Y.length : Int) + (j : Int) := by omega
          clear d0 d1 d2
          go_wp2_with fail
          go_quiet_grown (first | (with_reducible refine Calls.grown_of (hM _)) | fail)
          go_wp2_with fail
          go_roundw
          case rel => exact ⟨j + 1, by omega, by go_num, hb.trans ((belowG _ _ _).mono hb.size)⟩
          case measure => simp [intOf]; omega
        · obtain rfl : j = 64 := by omega
          go_wp2_with fail
          go_ret
          exact ⟨rfl, hb⟩
end Go.Proofs.Ytpndbbepfjocgaa
namespace Go.Proofs.Ytpndbbepfjocgaa
open Go.RowKit
set_option maxRecDepth 100000

def mkOs (m : Nat) : List Tt := (List.range m).map mkO
theorem mkOs_succ (m : Nat) : mkOs (m + 1) = mkOs m ++ [mkO m] := by simp [mkOs, List.range_succ]
theorem mkOs_len (m : Nat) : (mkOs m).length = m := by simp [mkOs]
theorem msetO (L : List Tt) (i : Nat) (h : i < L.length) : tw (mkOs (i + 1) ++ L.drop (i + 1)) = (((tw (mkOs i ++ L.drop i)).set (i * 3) (.int .u8 99)).set (i * 3 + 1) (.int .i64 (i : Int))).set (i * 3 + 2) (.string ⟨#[]⟩) := by
  have hl : (tw (mkOs i)).length = i * 3 := by rw [tw_len, mkOs_len]
  rw [mkOs_succ, List.drop_eq_getElem_cons h, tw_append, tw_append, tw_append]
  have e : tw (L[i] :: L.drop (i + 1)) = .int .u8 L[i].1 :: .int .i64 L[i].2.1 :: .string L[i].2.2 :: tw (L.drop (i + 1)) := rfl
  have e2 : tw [mkO i] = [.int .u8 99, .int .i64 (i : Int), .string ⟨#[]⟩] := rfl
  rw [e, e2, List.set_append_right _ _ (by omega), List.set_append_right _ _ (by omega), List.set_append_right _ _ (by omega), hl]
  simp
theorem grownA {w wr : World} {g : Option Nat} (h : w.grownBy wr g) (o : Obj) : w.grownBy (wr.alloc o) g :=
  ⟨h.os, h.tape, h.output, by rw [World.size_alloc]; have := h.size; omega, fun k hk hn => (Below.heap_alloc wr o k (by have := h.size; omega)).trans (h.block k hk hn)⟩
theorem grownT {w w1 w2 : World} {g : Option Nat} (h : w.grownBy w1 g) (h' : w1.grownBy w2 g) : w.grownBy w2 g :=
  ⟨h'.os.trans h.os, h'.tape.trans h.tape, h'.output.trans h.output, Nat.le_trans h.size h'.size, fun k hk hn => (h'.block k (Nat.lt_of_lt_of_le hk h.size) hn).trans (h.block k hk hn)⟩
set_option maxHeartbeats 4000000 in
theorem overK_any (g cap B : Nat) (L : List Tt) (w : World) (hn : L.length ≤ 2097152) (hown : w.ownsRow B 40 3 (.slice (some ⟨g, 0, none⟩) L.length cap) L.length (tw L)) :
    Calls Try.prog 10 #[.slice (some ⟨g, 0, none⟩) L.length cap] w fun e w' => e = .returned (.tuple #[]) ∧ w'.ownsRow B 40 3 (.slice (some ⟨g, 0, none⟩) L.length cap) L.length (tw (mkOs L.length)) ∧ w.grownBy w' (some g) := by
  obtain ⟨n, hnn⟩ : ∃ n, L.length = n := ⟨_, rfl⟩
  rw [hnn] at hn hown ⊢
  have HN := hidK hnn
  clear hnn
  go_enter Try.func10, Try.ntmps10
  go_wp2_with fail
  go_loopw [2] (fun i wr => ∃ k : Nat, k ≤ n ∧ i = .int .i64 k ∧ wr.ownsRow B 40 3 (.slice (some ⟨g, 0, none⟩) n cap) n (tw (mkOs k ++ L.drop k)) ∧ w.grownBy wr (some g)) (fun i _ => n - (intOf i).toNat)
  case atStart => exact ⟨0, Nat.zero_le _, rfl, hown, World.grownBy.refl _ _⟩
  case round =>
    clear hown
    obtain ⟨k, hk, rfl, hown, hG⟩ := hrel
    by_cases hlt : k < n
    · have hltI : (k : Int) < (n : Int) := by omega
      have hlt2 : k < L.length := by rw [HN.out]; exact hlt
      have hX : (mkOs k ++ L.drop k).length = n := by rw [List.length_append, mkOs_len, List.length_drop, HN.out]; omega
      obtain ⟨c0, c1, c2⟩ := tw_at (mkOs k ++ L.drop k) k ((mkOs k ++ L.drop k)[k]'(by rw [hX]; exact hlt)) (List.getElem?_eq_getElem _)
      generalize (mkOs k ++ L.drop k)[k]'(by rw [hX]; exact hlt) = y at *
      have hset := msetO L k hlt2
      have hM := fun w1 => markO_any k w1 (by omega)
      have hgw : g < wr.heap.size := (hown.lt g rfl).2
      obtain ⟨W, hW⟩ : ∃ W, wr.alloc (.cells #[.int .u8 99, .int .i64 (k : Int), .string ⟨#[]⟩] 40) = W := ⟨_, rfl⟩
      have ho := hown.alloc (.cells #[.int .u8 99, .int .i64 (k : Int), .string ⟨#[]⟩] 40)
      have hGa := grownA hG (.cells #[.int .u8 99, .int .i64 (k : Int), .string ⟨#[]⟩] 40)
      rw [hW] at ho hGa
      have x0 := ho.cells (g := g) rfl _ _ c0
      rw [Go.WideShapes.add_plain, Nat.zero_add] at x0
      have y0 := ho.frozenAt (k * 3)
      obtain ⟨R1, G1⟩ := ho.stored (k * 3) (.int .u8 99)
      have hx1 : ((tw (mkOs k ++ L.drop k)).set (k * 3) (.int .u8 99))[k * 3 + 1]? = some (.int .i64 y.2.1) := by
        rw [List.getElem?_set_ne (by omega)]; exact c1
      have z1 := R1.cells (g := g) rfl _ _ hx1
      rw [Go.WideShapes.add_plain, Nat.zero_add] at z1
      have zy1 := R1.frozenAt (k * 3 + 1)
      obtain ⟨R2, G2⟩ := R1.stored (k * 3 + 1) (.int .i64 (k : Int))
      have hx2 : (((tw (mkOs k ++ L.drop k)).set (k * 3) (.int .u8 99)).set (k * 3 + 1) (.int .i64 (k : Int)))[k * 3 + 2]? = some (.string y.2.2) := by
        rw [List.getElem?_set_ne (by omega), List.getElem?_set_ne (by omega)]; exact c2
      have z2 := R2.cells (g := g) rfl _ _ hx2
      rw [Go.WideShapes.add_plain, Nat.zero_add] at z2
      have zy2 := R2.frozenAt (k * 3 + 2)
      obtain ⟨R3, G3⟩ := R2.stored (k * 3 + 2) (.string ⟨#[]⟩)
      rw [← hset] at R3
      have HR3 := hidK R3
      have HG3 : Hid (w.grownBy (((W.setCell ⟨g, k * 3, none⟩ (.int .u8 99)).setCell ⟨g, k * 3 + 1, none⟩ (.int .i64 (k : Int))).setCell ⟨g, k * 3 + 2, none⟩ (.string ⟨#[]⟩)) (some g)) := grownT (grownT (grownT hGa G1) G2) G3
      generalize y.1 = q0 at *
      generalize y.2.1 = q1 at *
      generalize y.2.2 = q2 at *
      clear hown hG ho hGa R1 R2 R3 G1 G2 G3 hx1 hx2 c0 c1 c2 hset hX hlt2
      go_wp2_with (first
        | (go_at_call 13; with_reducible refine (hM _).mono ?_; rintro e wq ⟨rfl, hq⟩; subst wq)
        | fail)
      go_roundw
      case rel => exact ⟨k + 1, by omega, by go_num, HR3.out, HG3.out⟩
      case measure => simp [intOf]; omega
    · obtain rfl : k = n := by omega
      rw [List.drop_of_length_le (by rw [HN.out]; exact Nat.le_refl _), List.append_nil] at hown
      go_wp2_with fail
      go_end0
      exact ⟨rfl, hown, hG⟩
end Go.Proofs.Ytpndbbepfjocgaa
