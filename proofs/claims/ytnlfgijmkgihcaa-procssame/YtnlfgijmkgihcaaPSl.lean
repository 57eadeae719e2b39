import Derived.Test.YtnlfgijmkgihcaaPSv
namespace Go.Proofs.Ytnlfgijmkgihcaa
open Go.RowKit Go.WideShapes
set_option maxRecDepth 100000

theorem has_put {bound : Nat} {ws : List Nat} {x : Nat} (hl : ws.length = (bound + 63) / 64) (hx : x < bound) (y : Nat) : hasW (putW bound ws x) y = (hasW ws y || decide (y = x)) := by
  unfold putW
  by_cases h : hasW ws x = false
  · rw [if_pos ⟨hx, h⟩, hasW_flip (by omega)]
    by_cases he : y = x
    · subst he; simp [h]
    · simp [he]
  · rw [if_neg (fun q => h q.2)]
    by_cases he : y = x
    · subst he; simpa using h
    · simp [he]
theorem has_dropW {bound : Nat} {ws : List Nat} {x : Nat} (hl : ws.length = (bound + 63) / 64) (hx : x < bound) (y : Nat) : hasW (dropW ws x) y = (hasW ws y && !decide (y = x)) := by
  unfold dropW
  by_cases h : hasW ws x = true
  · rw [if_pos h, hasW_flip (by omega)]
    by_cases he : y = x
    · subst he; simp [h]
    · simp [he]
  · rw [if_neg h]
    by_cases he : y = x
    · subst he; simpa using h
    · simp [he]
theorem put_len (bound : Nat) (ws : List Nat) (x : Nat) : (putW bound ws x).length = ws.length := by unfold putW; split <;> simp [flipW_len]
theorem drop_len (ws : List Nat) (x : Nat) : (dropW ws x).length = ws.length := by unfold dropW; split <;> simp [flipW_len]
theorem els_put_le {bound : Nat} {ws : List Nat} {x : Nat} (hl : ws.length = (bound + 63) / 64) : (els bound (hasW (putW bound ws x))).length ≤ (els bound (hasW ws)).length + 1 := by
  unfold putW
  split
  · rename_i h
    rw [els_flip_put hl h.1 h.2]
    omega
  · omega
/-- a list of words that is read -/
def Wds (w : World) (ao : Option Addr) (xs : List Nat) (B : Nat) : Prop :=
  0 < xs.length → ∃ b off, ao = some ⟨b, off, none⟩ ∧ b < B ∧ ∀ j, j < xs.length → w.cell? ⟨b, off + j, none⟩ = some (.int .u32 ((xs.getD j 0 : Nat) : Int))
theorem Wds.below {w w' : World} {ao : Option Addr} {zs : List Nat} {B : Nat} (h : Wds w ao zs B) (hb : Below B w w') : Wds w' ao zs B := by
  intro hl
  obtain ⟨b, off, e, hlt, hc⟩ := h hl
  exact ⟨b, off, e, hlt, fun j hj => (hb.cell (p := ⟨b, off + j, none⟩) hlt).trans (hc j hj)⟩
/-- is a number among those of a list? -/
def inL (L : List Nat) (x : Nat) : Bool := L.any fun z => decide (x = z % 65536)
theorem inL_snoc (L : List Nat) (z x : Nat) : inL (L ++ [z]) x = (inL L x || decide (x = z % 65536)) := by simp [inL, List.any_append]
theorem inL_cons (L : List Nat) (z x : Nat) : inL (z :: L) x = (inL L x || decide (x = z % 65536)) := by simp [inL, Bool.or_comm]
theorem inL_lt {L : List Nat} {x : Nat} (h : inL L x = true) : x < 65536 := by
  simp only [inL, List.any_eq_true, decide_eq_true_eq] at h
  obtain ⟨z, _, rfl⟩ := h
  exact Nat.mod_lt _ (by decide)
theorem inL_mem {L : List Nat} {z : Nat} (h : z ∈ L) : inL L (z % 65536) = true := by
  simp only [inL, List.any_eq_true, decide_eq_true_eq]
  exact ⟨z, h, rfl⟩
/-- two sets that share nothing -/
structure Two (w0 w : World) (p1 g1 p2 g2 : Nat) (A B : List Nat) : Prop where
  a : SetS w p1 g1 65536 A
  b : SetS w p2 g2 131072 B
  bel : Below w0.heap.size w0 w
theorem Two.stepA {w0 w w' : World} {p1 g1 p2 g2 : Nat} {A B A' : List Nat} (h : Two w0 w p1 g1 p2 g2 A B) (hs : SetS w' p1 g1 65536 A') (hk : Kp (fun k => k = p1 ∨ k = g1) w w')
    (hd : w0.heap.size ≤ p1 ∧ w0.heap.size ≤ g1 ∧ p2 ≠ p1 ∧ p2 ≠ g1 ∧ g2 ≠ p1 ∧ g2 ≠ g1) : Two w0 w' p1 g1 p2 g2 A' B :=
  ⟨hs, h.b.kept hk (by omega) (by omega), h.bel.trans (hk.below h.bel.size (fun i e => by omega))⟩
theorem Two.stepB {w0 w w' : World} {p1 g1 p2 g2 : Nat} {A B B' : List Nat} (h : Two w0 w p1 g1 p2 g2 A B) (hs : SetS w' p2 g2 131072 B') (hk : Kp (fun k => k = p2 ∨ k = g2) w w')
    (hd : w0.heap.size ≤ p2 ∧ w0.heap.size ≤ g2 ∧ p2 ≠ p1 ∧ p2 ≠ g1 ∧ g2 ≠ p1 ∧ g2 ≠ g1) : Two w0 w' p1 g1 p2 g2 A B' :=
  ⟨h.a.kept hk (by omega) (by omega), hs, h.bel.trans (hk.below h.bel.size (fun i e => by omega))⟩
theorem take_snocM (zs : List Nat) (k : Nat) (h : k < zs.length) : zs.take (k + 1) = zs.take k ++ [zs.getD k 0] := take_snocN zs k h
theorem Dr.trans {a b c : World} (h : Dr a b) (k : Dr b c) : Dr a c := by
  obtain ⟨m, rfl⟩ := h
  obtain ⟨n, rfl⟩ := k
  exact ⟨_, World.drewN_drewN _ _ _⟩
theorem getD_memN {zs : List Nat} {k : Nat} (h : k < zs.length) : zs.getD k 0 ∈ zs := by simp [List.getD, List.getElem?_eq_getElem h]
theorem cast_mod (x : Nat) : ((x % 65536 : Nat) : Int) = (x : Int) % 65536 := by omega
set_option maxHeartbeats 4000000 in
theorem procsame_any (ao bo : Option Addr) (ca cb : Nat) (zs ys : List Nat) (w : World) (hn1 : zs.length ≤ 140737488351232) (hn2 : ys.length ≤ 140737488351232) (hz : Wds w ao zs w.heap.size) (hy : Wds w bo ys w.heap.size) (hzb : ∀ z ∈ zs, z < 4294967296) (hyb : ∀ z ∈ ys, z < 4294967296) :
    Calls Try.prog 3 #[.slice ao zs.length ca, .slice bo ys.length cb] w fun e w' => e = .returned (.bool true) ∧ Below w.heap.size w w' := by
  have HN1 : Hid (∀ W, Calls Try.prog 4 #[.int .i64 65536] W fun e w' => ∃ p g, e = .returned (.tuple #[.pointer (some ⟨p, 0, none⟩), .int .i64 0]) ∧ SetS w' p g 65536 (List.replicate 1024 0) ∧ W.heap.size ≤ p ∧ W.heap.size ≤ g ∧ Below W.heap.size W w') := hidS (fun W => newset_any 65536 W (by decide))
  have HN2 : Hid (∀ W, Calls Try.prog 4 #[.int .i64 131072] W fun e w' => ∃ p g, e = .returned (.tuple #[.pointer (some ⟨p, 0, none⟩), .int .i64 0]) ∧ SetS w' p g 131072 (List.replicate 2048 0) ∧ W.heap.size ≤ p ∧ W.heap.size ≤ g ∧ Below W.heap.size W w') := hidS (fun W => newset_any 131072 W (by decide))
  have HZ := hidS hz
  have HY := hidS hy
  have HZB := hidS hzb
  have HYB := hidS hyb
  clear hz hy hzb hyb
  go_enter Try.func3, Try.ntmps3
  go_wp2_with (go_at_call 4; first | (with_reducible refine (HN1.out _).mono ?_; rintro e w1 ⟨p1, g1, rfl, hs1, hp1, hg1, hB1⟩) | (with_reducible refine (HN2.out _).mono ?_; rintro e w2 ⟨p2, g2, rfl, hs2, hp2, hg2, hB2⟩))
  have HS1 : Hid (SetS w2 p1 g1 65536 (List.replicate 1024 0)) := hidS (hs1.kept (Kp.ofBelow (S := fun _ => False) hB2) (fun h => h) (fun h => h))
  have HS2 := hidS hs2
  have HB2 := hidS (hB1.trans (hB2.mono hB1.size))
  have lp1 := hs1.ltp
  have lg1 := hs1.ltg
  have hz1 := hB1.size
  have HDA : Hid (w.heap.size ≤ p1 ∧ w.heap.size ≤ g1 ∧ p2 ≠ p1 ∧ p2 ≠ g1 ∧ g2 ≠ p1 ∧ g2 ≠ g1) := hidS (by omega)
  have HDB : Hid (w.heap.size ≤ p2 ∧ w.heap.size ≤ g2 ∧ p2 ≠ p1 ∧ p2 ≠ g1 ∧ g2 ≠ p1 ∧ g2 ≠ g1) := hidS (by omega)
  clear hs1 hs2 hB1 hB2 hp1 hp2 hg1 hg2 lp1 lg1 hz1
  go_loopw [9] (fun i wr => ∃ (k : Nat) (B : List Nat), k ≤ ys.length ∧ i = .int .i64 k ∧ Two w wr p1 g1 p2 g2 (List.replicate 1024 0) B ∧ ∀ x, hasW B x = inL (ys.take k) x)
    (fun i _ => ys.length - (intOf i).toNat)
  case atStart => exact ⟨0, _, Nat.zero_le _, rfl, ⟨HS1.out, HS2.out, HB2.out⟩, fun x => by rw [hasW_zeros]; rfl⟩
  case round =>
    obtain ⟨k, B, hk, rfl, hT, hI⟩ := hrel
    have HI := hidS hI
    have HT := hidS hT
    clear hI
    by_cases hlt : k < ys.length
    · obtain ⟨b, off, rfl, hbl, hc⟩ := HY.out (by omega)
      have hck := (hT.bel.cell (p := ⟨b, off + k, none⟩) hbl).trans (hc k hlt)
      have hxb := HYB.out _ (getD_memN hlt)
      have HTK := hidS (take_snocN ys k hlt)
      have HM := hidS (getD_memN hlt)
      have hlt' : (k : Int) < (ys.length : Int) := by omega
      clear hc
      generalize ys.getD k 0 = x at hck hxb HTK HM
      have hA := add_any p2 g2 131072 (x % 65536) B wr (by omega) hT.b
      rw [cast_mod x] at hA
      have hxm : x % 65536 < 65536 := Nat.mod_lt _ (by decide)
      clear hT
      go_wp2_with (go_at_call 5; with_reducible refine hA.mono ?_; rintro e w3 ⟨rfl, hs3, hk3, hz3⟩)
      go_roundw
      case rel => exact ⟨k + 1, _, by omega, by go_num, HT.out.stepB hs3 hk3 HDB.out, fun y => by rw [has_put HT.out.b.len (by omega), HTK.out, inL_snoc, HI.out]⟩
      case measure => simp [intOf]; omega
    · have hke : k = ys.length := by omega
      subst hke
      rw [List.take_length] at HI
      go_wp2
      have HI1 := HI
      have HT1 := HT
      clear HI HT hT hlt hk
      have HE0 : Hid ((els 65536 (hasW (List.replicate 1024 0))).length = 0) := hidS (by unfold els; rw [List.filter_eq_nil_iff.2 (fun x _ => by rw [hasW_zeros]; simp)]; rfl)
      go_loopw [10] (fun i wr => ∃ (k : Nat) (A : List Nat), k ≤ zs.length ∧ i = .int .i64 k ∧ Two w wr p1 g1 p2 g2 A B ∧ (∀ x, hasW A x = inL (zs.take k) x) ∧ (els 65536 (hasW A)).length ≤ k)
        (fun i _ => zs.length - (intOf i).toNat)
      case atStart => exact ⟨0, _, Nat.zero_le _, rfl, ⟨HT1.out.a, HT1.out.b, HT1.out.bel⟩, fun x => by rw [hasW_zeros]; rfl, by rw [HE0.out]; exact Nat.zero_le _⟩
      case round =>
        obtain ⟨k, A, hk, rfl, hT, hI⟩ := hrel
        have HI := hidS hI
        have HT := hidS hT
        clear hI
        by_cases hlt : k < zs.length
        · obtain ⟨b, off, rfl, hbl, hc⟩ := HZ.out (by omega)
          have hck := (hT.bel.cell (p := ⟨b, off + k, none⟩) hbl).trans (hc k hlt)
          have hxb := HZB.out _ (getD_memN hlt)
          have HTK := hidS (take_snocN zs k hlt)
          have HM := hidS (getD_memN hlt)
          have hlt' : (k : Int) < (zs.length : Int) := by omega
          clear hc
          generalize zs.getD k 0 = x at hck hxb HTK HM
          have hA := add_any p1 g1 65536 (x % 65536) A wr (by omega) hT.a
          rw [cast_mod x] at hA
          have hxm : x % 65536 < 65536 := Nat.mod_lt _ (by decide)
          clear hT
          go_wp2_with (go_at_call 5; with_reducible refine hA.mono ?_; rintro e w3 ⟨rfl, hs3, hk3, hz3⟩)
          go_roundw
          case rel => exact ⟨k + 1, _, by omega, by go_num, HT.out.stepA hs3 hk3 HDA.out, fun y => by rw [has_put HT.out.a.len (by omega), HTK.out, inL_snoc, HI.out.1], by have := els_put_le (x := x % 65536) HT.out.a.len; have := HI.out.2; omega⟩
          case measure => simp [intOf]; omega
        · have hke : k = zs.length := by omega
          subst hke
          rw [List.take_length] at HI
          go_wp2
          have HI2 := HI
          have HT2 := HT
          clear HI HT hT hlt hk
          go_loopw [11] (fun i wr => ∃ (k : Nat) (B : List Nat), k ≤ ys.length ∧ i = .int .i64 k ∧ Two w wr p1 g1 p2 g2 A B ∧ ∀ x, hasW B x = (inL ys x && !inL (ys.take k) x))
            (fun i _ => ys.length - (intOf i).toNat)
          case atStart => exact ⟨0, _, Nat.zero_le _, rfl, ⟨HT2.out.a, HT2.out.b, HT2.out.bel⟩, fun x => by rw [HI1.out]; simp [inL]⟩
          case round =>
            obtain ⟨k, B, hk, rfl, hT, hI⟩ := hrel
            have HI := hidS hI
            have HT := hidS hT
            clear hI
            by_cases hlt : k < ys.length
            · obtain ⟨b, off, rfl, hbl, hc⟩ := HY.out (by omega)
              have hck := (hT.bel.cell (p := ⟨b, off + k, none⟩) hbl).trans (hc k hlt)
              have hxb := HYB.out _ (getD_memN hlt)
              have HTK := hidS (take_snocN ys k hlt)
              have HM := hidS (getD_memN hlt)
              have hlt' : (k : Int) < (ys.length : Int) := by omega
              clear hc
              generalize ys.getD k 0 = x at hck hxb HTK HM
              have hA := drop_any p2 g2 131072 (x % 65536) B wr (by omega) hT.b
              rw [cast_mod x] at hA
              have hxm : x % 65536 < 65536 := Nat.mod_lt _ (by decide)
              clear hT
              go_wp2_with (go_at_call 6; with_reducible refine hA.mono ?_; rintro e w3 ⟨rfl, hs3, hk3, hz3⟩)
              go_roundw
              case rel => exact ⟨k + 1, _, by omega, by go_num, HT.out.stepB hs3 hk3 HDB.out, fun y => by rw [has_dropW HT.out.b.len (by omega), HTK.out, inL_snoc, HI.out]; cases inL ys y <;> cases inL (ys.take k) y <;> simp⟩
              case measure => simp [intOf]; omega
            · have hke : k = ys.length := by omega
              subst hke
              rw [List.take_length] at HI
              go_wp2
              have HI3 : Hid (∀ x, hasW B x = false) := hidS (fun x => by rw [HI.out]; cases inL ys x <;> rfl)
              have HT3 := HT
              clear HI HT hT hlt hk HY HYB HI1 HT1 HT2 HS1 HS2 HB2 HE0 HN1 HN2
              go_loopw [12] (fun i wr => ∃ (k : Nat) (B : List Nat), k ≤ zs.length ∧ i = .int .i64 ((k : Int) - 1) ∧ Two w wr p1 g1 p2 g2 A B ∧ ∀ x, hasW B x = inL (zs.drop k) x)
                (fun i _ => (intOf i + 1).toNat)
              case atStart => exact ⟨zs.length, _, Nat.le_refl _, rfl, HT3.out, fun x => by rw [HI3.out, List.drop_length]; rfl⟩
              case round =>
                obtain ⟨k, B, hk, rfl, hT, hI⟩ := hrel
                have HI := hidS hI
                have HT := hidS hT
                clear hI
                cases k with
                | succ j =>
                  rw [show (((j + 1 : Nat) : Int) - 1) = (j : Int) by omega]
                  obtain ⟨b, off, rfl, hbl, hc⟩ := HZ.out (by omega)
                  have hck := (hT.bel.cell (p := ⟨b, off + j, none⟩) hbl).trans (hc j (by omega))
                  have hjl : j < zs.length := by omega
                  have hxb := HZB.out _ (getD_memN hjl)
                  have HTK : Hid (zs.drop j = zs.getD j 0 :: zs.drop (j + 1)) := hidS (by rw [List.drop_eq_getElem_cons hjl]; simp [List.getD, List.getElem?_eq_getElem hjl])
                  have hlt' : (j : Int) < (zs.length : Int) := by omega
                  clear hc
                  generalize zs.getD j 0 = x at hck hxb HTK
                  have hA := add_any p2 g2 131072 (x % 65536) B wr (by omega) hT.b
                  rw [cast_mod x] at hA
                  have hxm : x % 65536 < 65536 := Nat.mod_lt _ (by decide)
                  clear hT
                  go_wp2_with (go_at_call 5; with_reducible refine hA.mono ?_; rintro e w3 ⟨rfl, hs3, hk3, hz3⟩)
                  go_roundw
                  case rel => exact ⟨j, _, by omega, by go_num, HT.out.stepB hs3 hk3 HDB.out, fun y => by rw [has_put HT.out.b.len (by omega), HTK.out, inL_cons, HI.out]⟩
                  case measure => simp [intOf]
                | zero =>
                  rw [List.drop_zero] at HI
                  have hiv : (((0 : Nat) : Int) - 1) = -1 := rfl
                  rw [hiv]
                  have HSB : Hid (sameW A B = true) := hidS ((sameW_iff hT.a.wf hT.b.wf).2 (fun x => by rw [HI2.out.1, HI.out]))
                  have HSA : Hid (sameW B A = true) := hidS ((sameW_iff hT.b.wf hT.a.wf).2 (fun x => by rw [HI2.out.1, HI.out]))
                  have HLN : Hid ((els 131072 (hasW B)).length = (els 65536 (hasW A)).length) := hidS (by
                    rw [els_beyond (n := 65536) (by decide) (fun y hy => by rw [HI.out] at hy; exact inL_lt hy), els_congr (q := hasW A) (fun y _ => by rw [HI2.out.1, HI.out])])
                  have hS1 := same_any p1 g1 65536 _ p2 g2 131072 _ A B wr hT.a hT.b
                  rw [HSB.out] at hS1
                  have HL2 := hidS HI2.out.2
                  have HS2 : Hid (∀ W, Dr wr W → Calls Try.prog 7 #[.pointer (some ⟨p2, 0, none⟩), .pointer (some ⟨p1, 0, none⟩)] W fun e w' => e = .returned (.bool true) ∧ Dr W w') := hidS (fun W hW => by
                    have := same_any p2 g2 131072 _ p1 g1 65536 _ B A W (hW.set hT.b) (hW.set hT.a)
                    rw [HSA.out] at this
                    exact this)
                  have HLA : Hid (∀ W, Dr wr W → Calls Try.prog 8 #[.pointer (some ⟨p1, 0, none⟩)] W fun e w' => e = .returned (.int .i64 (els 65536 (hasW A)).length) ∧ w' = W) := hidS (fun W hW => len_any p1 g1 65536 _ A W (hW.set hT.a))
                  have HLB : Hid (∀ W, Dr wr W → Calls Try.prog 8 #[.pointer (some ⟨p2, 0, none⟩)] W fun e w' => e = .returned (.int .i64 (els 65536 (hasW A)).length) ∧ w' = W) := hidS (fun W hW => by have := len_any p2 g2 131072 _ B W (hW.set hT.b); rw [HLN.out] at this; exact this)
                  have hle : (els 65536 (hasW A)).length ≤ zs.length := HL2.out
                  have hnb : (els 65536 (hasW A)).length ≤ 65536 := els_le _ _
                  generalize (els 65536 (hasW A)).length = n at HLA HLB hle hnb
                  have hdl : decide (zs.length < n) = false := decide_eq_false (Nat.not_lt.2 hle)
                  have hdi : ¬ (zs.length : Int) < (n : Int) := by omega
                  clear hnb hle HLN HL2 hk
                  have HD0 : Dr wr wr := Dr.refl _
                  clear hT
                  go_wp2_with (first
                    | (go_at_call 7; first | (with_reducible refine hS1.mono ?_; rintro e w3 ⟨rfl, hd3⟩) | (with_reducible refine (HS2.out _ hd3).mono ?_; rintro e w4 ⟨rfl, hd4⟩; have hd5 := Dr.trans hd3 hd4))
                    | (go_at_call 8; first | (with_reducible refine (HLA.out _ hd5).mono ?_; rintro e w5 ⟨rfl, hd6⟩; subst hd6) | (with_reducible refine (HLB.out _ hd5).mono ?_; rintro e w5 ⟨rfl, hd6⟩; subst hd6)))
                  rename World => W5
                  have HT5 : Hid (Two w W5 p1 g1 p2 g2 A B) := hidS ⟨hd5.set HT.out.a, hd5.set HT.out.b, by
                    obtain ⟨m, rfl⟩ := hd5
                    exact HT.out.bel.trans ⟨rfl, rfl, rfl, Nat.le_refl _, fun _ _ => rfl⟩⟩
                  clear HT HLA HLB HS2 hS1 hd3 hd4 HD0
                  go_loopw [13] (fun i wr => ∃ (k : Nat), k ≤ zs.length ∧ i = .int .i64 k ∧ wr = W5)
                    (fun i _ => zs.length - (intOf i).toNat)
                  case atStart => exact ⟨0, Nat.zero_le _, rfl, rfl⟩
                  case round =>
                    obtain ⟨k, hk, rfl, hwr⟩ := hrel
                    subst hwr
                    rename World => W6
                    by_cases hlt : k < zs.length
                    · obtain ⟨b, off, rfl, hbl, hc⟩ := HZ.out (by omega)
                      have hck := (HT5.out.bel.cell (p := ⟨b, off + k, none⟩) hbl).trans (hc k hlt)
                      have hxb := HZB.out _ (getD_memN hlt)
                      have HM := hidS (getD_memN hlt)
                      have hlt' : (k : Int) < (zs.length : Int) := by omega
                      clear hc
                      generalize zs.getD k 0 = x at hck hxb HM
                      have hA := has_any p1 g1 65536 (x % 65536) _ A W6 (by omega) HT5.out.a
                      rw [cast_mod x, HI2.out.1, inL_mem HM.out] at hA
                      go_wp2_with (go_at_call 9; with_reducible refine hA.mono ?_; rintro e w3 ⟨rfl, hs3⟩; subst hs3)
                      go_roundw
                      case rel => exact ⟨k + 1, by omega, by go_num, by first | rfl | trivial⟩
                      case measure => simp [intOf]; omega
                    · have hke : k = zs.length := by omega
                      subst hke
                      have hno : hasW B 65536 = false := by
                        cases he : hasW B 65536 with
                        | false => rfl
                        | true => rw [HI.out] at he; have := inL_lt he; omega
                      have hA := add_any p2 g2 131072 65536 B W6 (by decide) HT5.out.b
                      rw [show (decide (65536 < 131072) && !hasW B 65536) = true by rw [hno]; rfl, show ((65536 : Nat) : Int) = 65536 from rfl] at hA
                      have HNE : Hid (sameW A (putW 131072 B 65536) = false) := hidS (by
                        cases he : sameW A (putW 131072 B 65536) with
                        | false => rfl
                        | true =>
                          have hwf : ∀ z ∈ putW 131072 B 65536, z < 2 ^ 64 := by
                            unfold putW
                            split
                            · exact flipW_lt HT5.out.b.wf
                            · exact HT5.out.b.wf
                          have := (sameW_iff HT5.out.a.wf hwf).1 he 65536
                          rw [has_put HT5.out.b.len (by decide), HI2.out.1] at this
                          have h2 : inL zs 65536 = true := by rw [this]; simp
                          have := inL_lt h2
                          omega)
                      go_wp2_with (go_at_call 5; with_reducible refine hA.mono ?_; rintro e w7 ⟨rfl, hs7, hk7, hz7⟩; have hT7 := HT5.out.stepB hs7 hk7 HDB.out; have hS9 := same_any p1 g1 65536 _ p2 g2 131072 _ A (putW 131072 B 65536) w7 hT7.a hT7.b; rw [HNE.out] at hS9; clear hA)
                      with_reducible refine hS9.mono ?_
                      rintro e w8 ⟨rfl, hd8⟩
                      have hA9 := add_any p1 g1 65536 65536 A w8 (by decide) (hd8.set hT7.a)
                      rw [show (decide (65536 < 65536) && !hasW A 65536) = false from rfl, show ((65536 : Nat) : Int) = 65536 from rfl] at hA9
                      have HB8 : Hid (Below w.heap.size w w8) := hidS (by
                        obtain ⟨m, rfl⟩ := hd8
                        exact hT7.bel.trans ⟨rfl, rfl, rfl, Nat.le_refl _, fun _ _ => rfl⟩)
                      clear hT7
                      go_wp2_with (go_at_call 5; with_reducible refine hA9.mono ?_; rintro e w9 ⟨rfl, hs9, hk9, hz9⟩)
                      go_ret
                      exact ⟨rfl, HB8.out.trans (hk9.below HB8.out.size (fun i e => by have := HDA.out; omega))⟩
end Go.Proofs.Ytnlfgijmkgihcaa
