import Derived.Test.YtgfgdkeeonolcaaIEnd
namespace Go.Proofs.Ytgfgdkeeonolcaa
open Go.RowKit
set_option maxRecDepth 100000

theorem num_cons (z : Int) (L : List Int) : num (z :: L) = z + 256 * num L := rfl
theorem resOne {W : World} {b : Nat} {v0 v1 u1 u2 : Value} {tmps : Array Value} (h : W.heap[b]? = some (.cells #[v0, v1] 37)) (e0 : tmps[4]?.getD undef = .pointer (some ⟨b, 0, none⟩)) (e1 : tmps[5]?.getD undef = u1) (e2 : tmps[6]?.getD undef = u2) :
    (results Try.f10 tmps).run Try.prog W = .ok (.tuple #[.agg #[v0, v1], u1, u2]) W := by
  have c0 : W.cell? ⟨b, 0, none⟩ = some v0 := by simp [World.cell?, h]
  have c1 : W.cell? ⟨b, 1, none⟩ = some v1 := by simp [World.cell?, h]
  simp [results, Try.f10, e0, e1, e2, c0, c1, go_sem]
theorem two_all (a b : Int) : (#[Value.int .u8 a, Value.int .u32 b]).all (·.oneCell') = true := by kernel_rfl
theorem below_set0 {w W : World} {j : Nat} {u : Value} (h : Below w.heap.size w W) : Below w.heap.size w (W.setCell ⟨w.heap.size, j, none⟩ u) := h.setCell (p := ⟨w.heap.size, j, none⟩) (Nat.le_refl _) u
theorem hpO {w W : World} {o : Obj} (h : Below (w.alloc o).heap.size (w.alloc o) W) (o' : Obj) : (W.alloc o').heap[w.heap.size]? = some o := hpR h o'
set_option maxRecDepth 100000 in
set_option maxHeartbeats 2000000 in
theorem rone_any (b off cap p : Nat) (zs : List Int) (w : World) (hn : zs.length ≤ 140737488355328) (hp : p < zs.length) (hwf : ∀ z ∈ zs, 0 ≤ z ∧ z ≤ 255) (hbl : b < w.heap.size)
    (hc : ∀ j, j < zs.length → w.cell? ⟨b, off + j, none⟩ = some (.int .u8 (zs.getD j 0))) :
    Calls Try.prog 10 #[.slice (some ⟨b, off, none⟩) zs.length cap, .int .i64 p] w fun e w' => e = .returned (.tuple #[.agg #[.int .u8 (rdV (zs.drop p)).1, .int .u32 (rdV (zs.drop p)).2.1], .int .i64 (rdV (zs.drop p)).2.2.1, .int .i64 (rdV (zs.drop p)).2.2.2]) ∧ Below w.heap.size w w' := by
  obtain ⟨op, hop⟩ : ∃ op : Nat, zs.getD p 0 = op := ⟨(zs.getD p 0).toNat, by have := (hwf _ (getD_mem hp)).1; omega⟩
  have hop2 : op < 256 := by have := (hwf _ (getD_mem hp)).2; omega
  have hg : (zs.drop p).getD 0 0 = op := by rw [← hop]; simp [List.getD]
  have hI := fun w => rinfo_any op w hop2
  have hpI : (p : Int) < (zs.length : Int) := by omega
  have c0 := hc p hp
  rw [hop] at c0
  have c0' : ∀ o, (w.alloc o).cell? ⟨b, off + p, none⟩ = some (.int .u8 op) := fun o => by rw [World.cell?_alloc_old _ _ _ (by show b ≠ w.heap.size; omega)]; exact c0
  have hWi := opWi_le op
  have hMo := opMo_lt op
  have hld : (zs.drop p).length = zs.length - p := List.length_drop ..
  cases hb : isOp op
  · have HV : Hid (rdV (zs.drop p) = (0, 0, 0, 70)) := by rw [Hid, rdV, hg, Int.toNat_natCast, if_pos hb]
    rw [hb] at hI
    generalize opWd op = a0 at *
    generalize opWi op = a1 at *
    generalize opMo op = a2 at *
    generalize opTa op = a3 at *
    generalize opGi op = a4 at *
    generalize opKi op = a5 at *
    clear hb hMo hc hwf c0 hWi hld hg hop
    go_enter Try.func10, Try.ntmps10
    go_wp2_with (first
      | (go_at_call 15; with_reducible refine (hI _).mono ?_; rintro e w1 ⟨rfl, hq1⟩)
      | (refine wpList_store_row rfl _ _ _ rfl w.heap.size _ #[.int .u8 0, .int .u32 0] rfl rfl (hpO hq1 _) (by rw [infoI2]; rfl) rfl (two_all _ _) ?_))
    exact bodyPost_ret (resOne (setRow_heap _ _ _ _ _ _ (hpO hq1 _)) rfl rfl rfl) rfl ⟨by rw [HV.out]; rfl, below_setRow (bel (bt (bel (Below.refl _ _)) hq1)) (Nat.le_refl _) _⟩
  · rw [hb] at hI
    have hbs : ((zs.drop p).drop 1).take (opWi op) = (zs.drop (p + 1)).take (opWi op) := by rw [List.drop_drop]
    by_cases hl : zs.length < p + 1 + opWi op
    · have HV : Hid (rdV (zs.drop p) = (0, 0, 0, 72)) := by rw [Hid, rdV, hg, Int.toNat_natCast, if_neg (by simp [hb]), if_pos (by rw [hld]; omega)]
      generalize opWd op = a0 at *
      generalize opWi op = a1 at *
      generalize opMo op = a2 at *
      generalize opTa op = a3 at *
      generalize opGi op = a4 at *
      generalize opKi op = a5 at *
      have q1 : (zs.length : Int) ≤ (p : Int) + (a1 : Int) := by omega
      clear hb hMo hc hwf c0 hld hg hop hbs hl
      go_enter Try.func10, Try.ntmps10
      go_wp2_with (first
        | (go_at_call 15; with_reducible refine (hI _).mono ?_; rintro e w1 ⟨rfl, hq1⟩)
        | (refine wpList_store_row rfl _ _ _ rfl w.heap.size _ #[.int .u8 0, .int .u32 0] rfl rfl (hpO hq1 _) (by rw [infoI2]; rfl) rfl (two_all _ _) ?_))
      exact bodyPost_ret (resOne (setRow_heap _ _ _ _ _ _ (hpO hq1 _)) rfl rfl rfl) rfl ⟨by rw [HV.out]; rfl, below_setRow (bel (bt (bel (Below.refl _ _)) hq1)) (Nat.le_refl _) _⟩
    have hV0 : rdV (zs.drop p) = if opMo op < (num ((zs.drop (p + 1)).take (opWi op))).toNat then (0, 0, 0, 71) else (op, (num ((zs.drop (p + 1)).take (opWi op))).toNat, 1 + opWi op, 0) := by
      rw [rdV, hg, Int.toNat_natCast, if_neg (by simp [hb]), if_neg (by rw [hld]; omega), hbs]
    have HV := hid_of hV0
    have hB1 : ((zs.drop (p + 1)).take (opWi op)).length = opWi op := by rw [List.length_take, List.length_drop]; omega
    have hB2 : ∀ z ∈ (zs.drop (p + 1)).take (opWi op), 0 ≤ z ∧ z ≤ 255 := fun z hz => hwf z (List.mem_of_mem_drop (List.mem_of_mem_take hz))
    have hB3 : ∀ j, j < opWi op → w.cell? ⟨b, off + (p + (j + 1)), none⟩ = some (.int .u8 (((zs.drop (p + 1)).take (opWi op)).getD j 0)) := fun j hj => by
      rw [hc (p + (j + 1)) (by omega)]
      simp [List.getD, hj, show p + 1 + j = p + (j + 1) by omega]
    generalize (zs.drop (p + 1)).take (opWi op) = bs at *
    generalize opWd op = a0 at *
    generalize opWi op = a1 at *
    generalize opMo op = a2 at *
    generalize opTa op = a3 at *
    generalize opGi op = a4 at *
    generalize opKi op = a5 at *
    have q1 : ¬ (zs.length : Int) ≤ (p : Int) + (a1 : Int) := by omega
    have HBS := hid_of hB2
    clear hb hc hwf c0 hld hg hop hbs hV0 hB2
    go_enter Try.func10, Try.ntmps10
    go_wp2_with (go_at_call 15; with_reducible refine (hI _).mono ?_; rintro e w1 ⟨rfl, hq1⟩)
    have R1 : Below w.heap.size w w1 := bt (bel (Below.refl _ _)) hq1
    have hz1 := R1.size
    have hcW : ∀ j, j < a1 → (w1.alloc (.cells #[.string a0, .int .i64 a1, .int .u32 a2, .int .i64 a3, .int .i64 a4, .int .u8 a5] 51)).cell? ⟨b, off + (p + (j + 1)), none⟩ = some (.int .u8 (bs.getD j 0)) := fun j hj => by
      rw [World.cell?_alloc_old _ _ _ (by show b ≠ w1.heap.size; omega)]
      exact (R1.cell (p := ⟨b, off + (p + (j + 1)), none⟩) hbl).trans (hB3 j hj)
    clear hI hB3
    go_loopw [9, 10] (fun x i wr => ∃ (j X : Nat), j ≤ a1 ∧ (X : Int) = num (bs.drop j) ∧ i = .int .i64 j ∧ x = .int .u32 X ∧ wr = w1.alloc (.cells #[.string a0, .int .i64 a1, .int .u32 a2, .int .i64 a3, .int .i64 a4, .int .u8 a5] 51))
      (fun _ i _ => (intOf i).toNat)
    case atStart => exact ⟨a1, 0, Nat.le_refl _, by rw [List.drop_of_length_le (by omega)]; rfl, rfl, rfl, rfl⟩
    case round =>
      obtain ⟨j, X, hj, hX, rfl, rfl, rfl⟩ := hrel
      by_cases hj0 : 0 < j
      · obtain ⟨j', rfl⟩ : ∃ j', j = j' + 1 := ⟨j - 1, by omega⟩
        have hcj := hcW j' (by omega)
        have hnr := num_range (bs.drop (j' + 1)) (fun z hz => HBS.out z (List.mem_of_mem_drop hz))
        have hbz := HBS.out _ (getD_mem (zs := bs) (k := j') (by omega))
        have HNX : Hid (num (bs.drop j') = bs.getD j' 0 + 256 * (X : Int)) := by
          rw [Hid, List.drop_eq_getElem_cons (by omega), num_cons, hX, List.getD_eq_getElem?_getD, List.getElem?_eq_getElem (by omega)]; rfl
        have hXb : (X : Int) < 16777216 := by
          rw [hX]
          have h2 : (256 : Int) ^ (bs.drop (j' + 1)).length ≤ 16777216 := by
            have hl3 : (bs.drop (j' + 1)).length ≤ 3 := by rw [List.length_drop]; omega
            generalize (bs.drop (j' + 1)).length = q at hl3
            match q, hl3 with
            | 0, _ => decide
            | 1, _ => decide
            | 2, _ => decide
            | 3, _ => decide
          omega
        generalize bs.getD j' 0 = z at *
        obtain ⟨zn, rfl⟩ : ∃ zn : Nat, z = zn := ⟨z.toNat, by omega⟩
        have hz5 : (zn : Int) ≤ 255 := hbz.2
        have hidx : (p : Int) + ((j' : Int) + 1) < (zs.length : Int) := by omega
        clear hcW hX hnr hbz HBS
        go_wp2
        go_roundw
        case rel => exact ⟨j', X * 256 + zn, by omega, by rw [HNX.out]; push_cast; omega, by go_num, by go_num, trivial⟩
        case measure => simp [intOf]
      · obtain rfl : j = 0 := by omega
        have hXn : (num bs).toNat = X := by rw [show bs = bs.drop 0 from rfl, ← hX, Int.toNat_natCast]
        rw [hXn] at HV
        have qz : ¬ (0 : Int) < 0 := by omega
        by_cases hm : a2 < X
        · rw [if_pos hm] at HV
          have hm' : (a2 : Int) < (X : Int) := by omega
          clear hX hXn hcW HBS hm hMo
          go_wp2_with (refine wpList_store_row rfl _ _ _ rfl w.heap.size _ #[.int .u8 0, .int .u32 0] rfl rfl (hpO hq1 _) (by rw [infoI2]; rfl) rfl (two_all _ _) ?_)
          exact bodyPost_ret (resOne (setRow_heap _ _ _ _ _ _ (hpO hq1 _)) rfl rfl rfl) rfl ⟨by rw [HV.out]; rfl, below_setRow (bel R1) (Nat.le_refl _) _⟩
        · rw [if_neg hm] at HV
          have hm' : ¬ (a2 : Int) < (X : Int) := by omega
          have c1W : (w1.alloc (.cells #[.string a0, .int .i64 a1, .int .u32 a2, .int .i64 a3, .int .i64 a4, .int .u8 a5] 51)).cell? ⟨b, off + p, none⟩ = some (.int .u8 op) := by
            rw [World.cell?_alloc_old _ _ _ (by show b ≠ w1.heap.size; omega)]
            exact (hq1.cell (p := ⟨b, off + p, none⟩) (by simp; omega)).trans (c0' _)
          have hHP := hpO hq1 (.cells #[.string a0, .int .i64 a1, .int .u32 a2, .int .i64 a3, .int .i64 a4, .int .u8 a5] 51)
          have d0 : (w1.alloc (.cells #[.string a0, .int .i64 a1, .int .u32 a2, .int .i64 a3, .int .i64 a4, .int .u8 a5] 51)).cell? ⟨w.heap.size, 0, none⟩ = some (.int .u8 0) := by simp [World.cell?, hHP]
          have d1 : (w1.alloc (.cells #[.string a0, .int .i64 a1, .int .u32 a2, .int .i64 a3, .int .i64 a4, .int .u8 a5] 51)).cell? ⟨w.heap.size, 1, none⟩ = some (.int .u32 0) := by simp [World.cell?, hHP]
          have f0 : (w1.alloc (.cells #[.string a0, .int .i64 a1, .int .u32 a2, .int .i64 a3, .int .i64 a4, .int .u8 a5] 51)).frozen? ⟨w.heap.size, 0, none⟩ = false := by simp [World.frozen?, hHP]
          have f1 : (w1.alloc (.cells #[.string a0, .int .i64 a1, .int .u32 a2, .int .i64 a3, .int .i64 a4, .int .u8 a5] 51)).frozen? ⟨w.heap.size, 1, none⟩ = false := by simp [World.frozen?, hHP]
          clear hX hXn hcW HBS hm hMo
          have h1 := heap_setCell_same (w1.alloc (.cells #[.string a0, .int .i64 a1, .int .u32 a2, .int .i64 a3, .int .i64 a4, .int .u8 a5] 51)) w.heap.size 0 _ _ (.int .u8 op) hHP
          have h2 := heap_setCell_same _ w.heap.size 1 _ _ (.int .u32 (X : Int)) h1
          have e1 : ((w1.alloc (.cells #[.string a0, .int .i64 a1, .int .u32 a2, .int .i64 a3, .int .i64 a4, .int .u8 a5] 51)).setCell ⟨w.heap.size, 0, none⟩ (.int .u8 op)).cell? ⟨w.heap.size, 1, none⟩ = some (.int .u32 0) := by
            simp [World.cell?, h1]
          have e2 : ((w1.alloc (.cells #[.string a0, .int .i64 a1, .int .u32 a2, .int .i64 a3, .int .i64 a4, .int .u8 a5] 51)).setCell ⟨w.heap.size, 0, none⟩ (.int .u8 op)).frozen? ⟨w.heap.size, 1, none⟩ = false := by
            simp [World.frozen?, h1]
          have e3 : (((w1.alloc (.cells #[.string a0, .int .i64 a1, .int .u32 a2, .int .i64 a3, .int .i64 a4, .int .u8 a5] 51)).setCell ⟨w.heap.size, 0, none⟩ (.int .u8 op)).setCell ⟨w.heap.size, 1, none⟩ (.int .u32 (X : Int))).cell? ⟨w1.heap.size, 1, none⟩ = some (.int .i64 a1) := by
            have h3 : (((w1.alloc (.cells #[.string a0, .int .i64 a1, .int .u32 a2, .int .i64 a3, .int .i64 a4, .int .u8 a5] 51)).setCell ⟨w.heap.size, 0, none⟩ (.int .u8 op)).setCell ⟨w.heap.size, 1, none⟩ (.int .u32 (X : Int))).heap[w1.heap.size]? = some (.cells #[.string a0, .int .i64 a1, .int .u32 a2, .int .i64 a3, .int .i64 a4, .int .u8 a5] 51) := by
              have hne : w1.heap.size ≠ w.heap.size := by have := hq1.size; simp at this; omega
              rw [Below.heap_setCell _ _ _ _ hne, Below.heap_setCell _ _ _ _ hne]
              exact heap_alloc_last w1 _
            rw [cell_of_row _ _ 1 _ _ (0, 0) h3]; rfl
          have HH2 := hid_of h2
          clear h1 h2
          go_wp2
          go_region
          all_goals go_wp2
          all_goals
            refine bodyPost_ret (resOne (b := w.heap.size) (v0 := .int .u8 op) (v1 := .int .u32 (X : Int)) HH2.out rfl rfl rfl) rfl ⟨?_, ?_⟩
            · rw [HV.out]; rfl
            · (repeat (first | exact bel R1 | with_reducible refine Below.drew ?_ | with_reducible refine below_set0 ?_))
end Go.Proofs.Ytgfgdkeeonolcaa
