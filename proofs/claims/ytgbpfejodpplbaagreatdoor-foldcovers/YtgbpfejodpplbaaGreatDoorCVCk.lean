import Derived.Test.YtgbpfejodpplbaaGreatDoorCVMf
import Derived.BigQuiet
import Derived.Deep.RegionHeld3
namespace Go.Proofs.YtgbpfejodpplbaaGreatDoor
open Go.RowKit Go.WideShapes
set_option maxRecDepth 100000

/-- may the name k stand where it stands? -/
def mayN (M : List (ByteArray × Nat)) (k : Nat) : Bool := mayB k (M.getD (k - 1) (.empty, 0)).1 (M.getD k (.empty, 0)).1
def namesOk (M : List (ByteArray × Nat)) : Bool := (List.range M.length).all (mayN M)
theorem namesOk_of {M : List (ByteArray × Nat)} (h : ∀ k, k < M.length → mayN M k = true) : namesOk M = true := by
  unfold namesOk
  rw [List.all_eq_true]
  intro k hk
  exact h k (List.mem_range.1 hk)
theorem namesOk_no {M : List (ByteArray × Nat)} {k : Nat} (hk : k < M.length) (h : mayN M k = false) : namesOk M = false := by
  rw [Bool.eq_false_iff]
  intro h2
  unfold namesOk at h2
  rw [List.all_eq_true] at h2
  have := h2 k (List.mem_range.2 hk)
  rw [h] at this
  cases this
/-- what image.Check answers -/
def ckV (L : List (Nat × Nat)) (nj n z st : Nat) (M : List (ByteArray × Nat)) : Nat :=
  if encX L = 0 then (if 16384 < nj then 86 else if stOk st = true ∧ n + z + st ≤ 65536 then (if namesOk M = true then 0 else 87) else 85) else encX L
/-- an image, as it is handed in -/
abbrev imV (ac : Option Addr) (nc cc : Nat) (aj : Option Addr) (nj cj : Nat) (ad : Option Addr) (nd cd z st : Nat) (an : Option Addr) (nn cn : Nat) : Value :=
  .agg #[.slice ac nc cc, .slice aj nj cj, .slice ad nd cd, .int .u32 (z : Nat), .int .u32 (st : Nat), .slice an nn cn]
abbrev imC (ac : Option Addr) (nc cc : Nat) (aj : Option Addr) (nj cj : Nat) (ad : Option Addr) (nd cd z st : Nat) (an : Option Addr) (nn cn : Nat) : Array Value :=
  #[.slice ac nc cc, .slice aj nj cj, .slice ad nd cd, .int .u32 (z : Nat), .int .u32 (st : Nat), .slice an nn cn]
theorem hbw3 {w1 wr w3 : World} {o : Obj} (h : Below w1.heap.size w1 wr) (h3 : Below (wr.alloc o).heap.size (wr.alloc o) w3) : Below w1.heap.size w1 w3 := (h.alloc h.size o).trans (h3.mono (by have := h.size; simp; omega))
theorem okI_er {p : Nat × Nat} : okI p = true ↔ erV p.1 p.2 = 0 := by unfold okI; simp
set_option maxHeartbeats 8000000 in
theorem icheck_any (ac aj ad an : Option Addr) (cc nj cj nd cd z st cn : Nat) (L : List (Nat × Nat)) (M : List (ByteArray × Nat)) (w : World) (hn : L.length ≤ 9223372036854775807) (hjn : nj ≤ 9223372036854775807) (hdn : nd ≤ 9223372036854775807) (hMn : M.length ≤ 9223372036854775807) (hwf : Wfc L) (hz : z < 4294967296) (hst : st < 4294967296) (hcn : M.length ≤ cn)
    (hr : CRd w ac L w.heap.size) (hrN : NRd w an M w.heap.size) :
    Calls Tryz.prog 21 #[imV ac L.length cc aj nj cj ad nd cd z st an M.length cn] w fun e w' => e = .returned (.int .i64 (ckV L nj nd z st M : Nat)) ∧ Below w.heap.size w w' := by
  obtain ⟨w1, hw1⟩ : ∃ w1, w.alloc (.cells (imC ac L.length cc aj nj cj ad nd cd z st an M.length cn) 28) = w1 := ⟨_, rfl⟩
  have hb1 : Below w.heap.size w w1 := by rw [← hw1]; exact (Below.refl w.heap.size w).alloc (Nat.le_refl _) _
  have hs1 : w.heap.size < w1.heap.size := by rw [← hw1]; simp
  have hlast : w1.heap[w.heap.size]? = some (.cells (imC ac L.length cc aj nj cj ad nd cd z st an M.length cn) 28) := by rw [← hw1]; exact heap_alloc_last w _
  have hcell : ∀ W, Below w1.heap.size w1 W → ∀ i, W.cell? ⟨w.heap.size, i, none⟩ = (imC ac L.length cc aj nj cj ad nd cd z st an M.length cn)[i]? := fun W hW i => obj_cell ((hW.block _ hs1).trans hlast) i
  have HCe := hidS hcell
  have HW1 := hidS hw1
  clear hcell hw1 hlast
  by_cases hl : 16384 < L.length
  · have hlI : (16384 : Int) < (L.length : Int) := by omega
    have e0 : encX L = 73 := by unfold encX; rw [if_pos hl]
    have e1 : ckV L nj nd z st M = 73 := by unfold ckV; rw [if_neg (by rw [e0]; decide), e0]
    rw [e1]
    go_enter Tryz.func21, Tryz.ntmps21
    go_wp2_with fail
    go_ret
    exact ⟨rfl, by rw [HW1.out]; exact hb1⟩
  · have hlI : ¬ (16384 : Int) < (L.length : Int) := by omega
    have HCk : Hid (∀ (k : Nat) (W : World), k < L.length → Calls Tryz.prog 36 #[.agg #[.int .u8 (L.getD k (0, 0)).1, .int .u32 (L.getD k (0, 0)).2]] W fun e w' => e = .returned (.int .i64 (erV (L.getD k (0, 0)).1 (L.getD k (0, 0)).2)) ∧ Below W.heap.size W w') := hidS (fun k W hk => check_any _ _ W (hwf.at hk).1)
    go_enter Tryz.func21, Tryz.ntmps21
    go_wp2_with fail
    go_loopw [15] (fun u wr => ∃ k : Nat, u = .int .i64 k ∧ k ≤ L.length ∧ (∀ j, j < k → okI (L.getD j (0, 0)) = true) ∧ Below w1.heap.size w1 wr)
      (fun u _ => L.length - (intOf u).toNat)
    case atStart => exact ⟨0, rfl, Nat.zero_le _, fun j hj => absurd hj (by omega), by rw [HW1.out]; exact Below.refl _ _⟩
    case round =>
      obtain ⟨k, rfl, hk, hok, hbw⟩ := hrel
      have HOk := hidS hok
      have HBW := hidS hbw
      clear hok
      by_cases hlt : k < L.length
      · have hltI : (k : Int) < (L.length : Int) := by omega
        obtain ⟨b, off, rfl, hb, hc⟩ := (hr.below (hb1.trans (hbw.mono hb1.size))) (by omega)
        have v0 := (hc k hlt).1
        have v1 := (hc k hlt).2
        have HK := hidS (fun W => HCk.out k W hlt)
        have HOK : Hid (okI (L.getD k (0, 0)) = true ↔ erV (L.getD k (0, 0)).1 (L.getD k (0, 0)).2 = 0) := hidS okI_er
        have HEX : Hid (okI (L.getD k (0, 0)) = false → encX L = erV (L.getD k (0, 0)).1 (L.getD k (0, 0)).2) := hidS (fun hf => by
          obtain ⟨q1, q2⟩ := badAt_of L k hlt HOk.out hf
          unfold encX
          rw [if_neg hl, q2, q1]
          rfl)
        generalize hop : (L.getD k (0, 0)).1 = op at v0 v1 HK HOK HEX
        generalize harg : (L.getD k (0, 0)).2 = arg at v0 v1 HK HOK HEX
        generalize hev : erV op arg = x at HK HOK HEX
        clear hc hop harg hev hbw
        by_cases hx : x = 0
        · have hxI : (x : Int) = 0 := by omega
          have HOK2 := hidS (HOK.out.2 hx)
          clear hx
          go_wp2_with (go_at_call 36; refine (HK.out _).mono ?_; rintro e w3 ⟨rfl, hq3⟩; have HB3 := hidS (hbw3 HBW.out hq3); clear hq3)
          go_roundw
          case rel => exact ⟨k + 1, by go_num, by omega, fun j hj => by
            by_cases hj2 : j < k
            · exact HOk.out j hj2
            · rw [show j = k by omega]; exact HOK2.out, HB3.out⟩
          case measure => simp [intOf]; omega
        · have hxI : ((x : Int) == 0) = false := by rw [beq_eq_false_iff_ne]; omega
          have hxI2 : ¬ (x : Int) = 0 := by omega
          have e1 : Hid (ckV L nj nd z st M = x) := hidS (by
            have := HEX.out (by rw [Bool.eq_false_iff]; exact fun h => hx (HOK.out.1 h))
            unfold ckV
            rw [if_neg (by rw [this]; exact hx), this])
          go_wp2_with (go_at_call 36; refine (HK.out _).mono ?_; rintro e w3 ⟨rfl, hq3⟩; have HB3 := hidS (hbw3 HBW.out hq3); clear hq3)
          go_ret
          exact ⟨by rw [e1.out]; rfl, hb1.trans (HB3.out.mono hb1.size)⟩
      · have hltI : ¬ (k : Int) < (L.length : Int) := by omega
        have hX : encX L = 0 := by
          unfold encX
          rw [if_neg hl, allOk_of L (fun j hj => HOk.out j (by omega))]
          rfl
        have c1 := HCe.out wr hbw 1
        have c4 := HCe.out wr hbw 4
        simp only [List.getElem?_toArray, List.getElem?_cons_zero, List.getElem?_cons_succ] at c1 c4
        have e1 : ckV L nj nd z st M = (if 16384 < nj then 86 else if stOk st = true ∧ nd + z + st ≤ 65536 then (if namesOk M = true then 0 else 87) else 85) := by unfold ckV; rw [if_pos hX]
        have E1 := hidS e1
        clear e1 hX HCk hr
        by_cases hj : 16384 < nj
        · have hjI : (16384 : Int) < (nj : Int) := by omega
          go_wp2_with fail
          go_ret
          exact ⟨by rw [E1.out, if_pos hj]; rfl, hb1.trans (hbw.mono hb1.size)⟩
        · have hjI : ¬ (16384 : Int) < (nj : Int) := by omega
          have E2 : Hid (ckV L nj nd z st M = (if stOk st = true ∧ nd + z + st ≤ 65536 then (if namesOk M = true then 0 else 87) else 85)) := hidS (by rw [E1.out, if_neg hj])
          have HS := hidS (stk_any st wr hst)
          have c0 := HCe.out wr hbw 0
          have c2 := HCe.out wr hbw 2
          have c3 := HCe.out wr hbw 3
          have c5 := HCe.out wr hbw 5
          simp only [List.getElem?_toArray, List.getElem?_cons_zero, List.getElem?_cons_succ] at c0 c2 c3 c5
          clear E1 hlI hltI
          cases hso : stOk st with
          | false =>
            rw [hso] at HS
            go_wp2_with (go_at_call 42; refine HS.out.mono ?_; rintro e w3 ⟨rfl, hw3⟩; have hw3 := hw3.symm; subst hw3)
            go_ret
            exact ⟨by rw [E2.out, if_neg (fun h => by rw [hso] at h; cases h.1)]; rfl, hb1.trans (hbw.mono hb1.size)⟩
          | true =>
            rw [hso] at HS E2
            have HR := hidS (room_any (.slice ac L.length cc) (.slice aj nj cj) (.slice an M.length cn) ad nd cd z st wr rfl rfl rfl hdn hz hst)
            by_cases hrm : nd + z + st ≤ 65536
            · have hrI : ¬ (65536 : Int) < (nd : Int) + (z : Int) + (st : Int) := by omega
              go_wp2_with (first
                | (go_at_call 42; refine HS.out.mono ?_; rintro e w3 ⟨rfl, hw3⟩; have hw3 := hw3.symm; subst hw3)
                | (go_at_call 22; refine HR.out.mono ?_; rintro e w4 ⟨rfl, hb4⟩; have hbw4 := hbw.trans (hb4.mono hbw.size); have c54 := HCe.out w4 hbw4 5; simp only [List.getElem?_toArray, List.getElem?_cons_zero, List.getElem?_cons_succ] at c54; clear hb4))
              clear c0 c1 c2 c3 c4 c5 HS HR hbw HBW
              go_loopw [41] (fun u wr => ∃ k : Nat, u = .int .i64 k ∧ k ≤ M.length ∧ (∀ j, j < k → mayN M j = true) ∧ Below w1.heap.size w1 wr)
                (fun u _ => M.length - (intOf u).toNat)
              case atStart => exact ⟨0, rfl, Nat.zero_le _, fun j hj => absurd hj (by omega), hbw4⟩
              case round =>
                clear hbw4 c54
                obtain ⟨k, rfl, hk, hok, hbw⟩ := hrel
                have HOk := hidS hok
                clear hok
                by_cases hlt : k < M.length
                · have hltI : (k : Int) < (M.length : Int) := by omega
                  have hkc : (k : Int) ≤ (cn : Int) := by omega
                  obtain ⟨b, off, rfl, hb, hc⟩ := (hrN.below (hb1.trans (hbw.mono hb1.size))) (by omega)
                  have v0 := (hc k hlt).1
                  have v1 := (hc k hlt).2
                  have HPr : Hid (0 < k → ∃ b' off', some (⟨b, off, none⟩ : Addr) = some ⟨b', off', none⟩ ∧ b' < w.heap.size ∧ wr.cell? ⟨b', off' + (k - 1) * 2, none⟩ = some (.string (M.getD (k - 1) (.empty, 0)).1)) := hidS (fun h => ⟨b, off, rfl, hb, (hc (k - 1) (by omega)).1⟩)
                  have HMy : Hid (mayN M k = mayB k (M.getD (k - 1) (.empty, 0)).1 (M.getD k (.empty, 0)).1) := hidS rfl
                  generalize hs0 : (M.getD k (.empty, 0)).1 = s at v0 HMy
                  generalize hx0 : (M.getD k (.empty, 0)).2 = x at v1
                  generalize (M.getD (k - 1) (.empty, 0)).1 = s' at HPr HMy
                  obtain ⟨W0, hW0⟩ : ∃ W0, wr.alloc (Obj.cells #[.string s, .int .u32 (x : Int)] 64) = W0 := ⟨_, rfl⟩
                  have hb0 : Below wr.heap.size wr W0 := by rw [← hW0]; exact (Below.refl wr.heap.size wr).alloc (Nat.le_refl _) _
                  have hs00 : wr.heap.size < W0.heap.size := by rw [← hW0]; simp
                  have hl0 : W0.heap[wr.heap.size]? = some (Obj.cells #[.string s, .int .u32 (x : Int)] 64) := by rw [← hW0]; exact heap_alloc_last wr _
                  have hbw0 : Below w1.heap.size w1 W0 := hbw.trans (hb0.mono hbw.size)
                  have n5 := HCe.out W0 hbw0 5
                  simp only [List.getElem?_toArray, List.getElem?_cons_zero, List.getElem?_cons_succ] at n5
                  have n0 := obj_cell hl0 0
                  have n1 := obj_cell hl0 1
                  simp only [List.getElem?_toArray, List.getElem?_cons_zero, List.getElem?_cons_succ] at n0 n1
                  have HM : Hid (∀ W, Below W0.heap.size W0 W → Calls Tryz.prog 43 #[.slice (some ⟨b, off, none⟩) k cn, .agg #[.string s, .int .u32 (x : Int)]] W fun e w' => e = .returned (.bool (mayB k s' s)) ∧ Below W.heap.size W w') := hidS (fun W hW => mayf_any (some ⟨b, off, none⟩) k cn s s' x W (by omega) (fun h => by
                    obtain ⟨b', off', e, hlt', hc'⟩ := HPr.out h
                    have hq := hb0.trans (hW.mono hb0.size)
                    have h9 := hb1.size
                    have h10 := hbw.size
                    have h11 := hq.size
                    exact ⟨b', off', e, by omega, (hq.cell (p := ⟨b', off' + (k - 1) * 2, none⟩) (by show b' < _; omega)).trans hc'⟩))
                  have HW0 := hidS hW0
                  have HB0 := hidS hbw0
                  have gW : ∀ w', Below W0.heap.size W0 w' → (w'.cell? ⟨w.heap.size, 5, none⟩ = some (.slice (some ⟨b, off, none⟩) M.length cn) ∧ w'.cell? ⟨wr.heap.size, 0, none⟩ = some (.string s) ∧ w'.cell? ⟨wr.heap.size, 1, none⟩ = some (.int .u32 (x : Int))) := fun w' h => ⟨(h.cell (p := ⟨w.heap.size, 5, none⟩) (by show w.heap.size < _; have := hbw.size; omega)).trans n5, (h.cell (p := ⟨wr.heap.size, 0, none⟩) hs00).trans n0, (h.cell (p := ⟨wr.heap.size, 1, none⟩) hs00).trans n1⟩
                  clear hc hs0 hx0 hb0 hl0 hbw0 hW0
                  generalize hmv : mayB k s' s = mv at HM HMy
                  go_wp2_with fail
                  rw [HW0.out]
                  have HB : Below W0.heap.size W0 W0 := Below.refl _ _
                  go_region_held3 (fun w' => w'.cell? ⟨w.heap.size, 5, none⟩ = some (.slice (some ⟨b, off, none⟩) M.length cn) ∧ w'.cell? ⟨wr.heap.size, 0, none⟩ = some (.string s) ∧ w'.cell? ⟨wr.heap.size, 1, none⟩ = some (.int .u32 (x : Int))) ((refine gW _ ?_; (repeat (first | exact HB | exact Below.refl _ _ | with_reducible refine belP ?_ | with_reducible refine Below.drew ?_)))) (first
                    | (go_at_call 43; with_reducible refine (HM.out _ (show Below W0.heap.size W0 _ from by (repeat (first | exact HB | exact Below.refl _ _ | with_reducible refine belP ?_ | with_reducible refine Below.drew ?_)))).mono ?_; rintro e w5 ⟨rfl, hq⟩; replace HB : Below W0.heap.size W0 w5 := btP (show Below W0.heap.size W0 _ from by (repeat (first | exact HB | exact Below.refl _ _ | with_reducible refine belP ?_ | with_reducible refine Below.drew ?_))) hq; clear hq))
                  have HB5 := hidS (HB0.out.trans (HB.mono HB0.out.size))
                  clear HB HM gW n0 n1 n5
                  cases mv with
                  | true =>
                    go_wp2_with fail
                    go_roundw
                    case rel => exact ⟨k + 1, by go_num, by omega, fun j hj => by
                      by_cases hj2 : j < k
                      · exact HOk.out j hj2
                      · rw [show j = k by omega]; exact HMy.out, HB5.out⟩
                    case measure => simp [intOf]; omega
                  | false =>
                    go_wp2_with fail
                    go_ret
                    exact ⟨by rw [E2.out, if_pos ⟨trivial, hrm⟩, if_neg (by rw [namesOk_no hlt HMy.out]; decide)]; rfl, hb1.trans (HB5.out.mono hb1.size)⟩
                · have hltI : ¬ (k : Int) < (M.length : Int) := by omega
                  go_wp2_with fail
                  go_ret
                  exact ⟨by rw [E2.out, if_pos ⟨trivial, hrm⟩, if_pos (namesOk_of (fun j hj => HOk.out j (by omega)))]; rfl, hb1.trans (hbw.mono hb1.size)⟩
            · have hrI : (65536 : Int) < (nd : Int) + (z : Int) + (st : Int) := by omega
              go_wp2_with (first
                | (go_at_call 42; refine HS.out.mono ?_; rintro e w3 ⟨rfl, hw3⟩; have hw3 := hw3.symm; subst hw3)
                | (go_at_call 22; refine HR.out.mono ?_; rintro e w4 ⟨rfl, hb4⟩; have HB4 := hidS (hbw.trans (hb4.mono hbw.size)); clear hb4))
              go_ret
              exact ⟨by rw [E2.out, if_neg (fun h => hrm h.2)]; rfl, hb1.trans (HB4.out.mono hb1.size)⟩
/-- the least k for which 2^k bytes are enough -/
def lstF : Nat → Nat → Nat → Nat
  | 0, k, _ => k
  | f + 1, k, m => if m ≤ 2 ^ k then k else lstF f (k + 1) m
def lstK (m : Nat) : Nat := lstF 8 8 m
theorem lstF_le : ∀ (f k m : Nat), m ≤ 2 ^ (k + f) → k ≤ lstF f k m ∧ lstF f k m ≤ k + f ∧ m ≤ 2 ^ lstF f k m
  | 0, k, m, h => ⟨Nat.le_refl _, Nat.le_refl _, h⟩
  | f + 1, k, m, h => by
    unfold lstF
    split
    · exact ⟨Nat.le_refl _, by omega, by assumption⟩
    · have := lstF_le f (k + 1) m (by rw [show k + 1 + f = k + (f + 1) by omega]; exact h)
      omega
theorem lstF_step {f k m : Nat} (hk : ¬ m ≤ 2 ^ k) : lstF (f + 1) k m = lstF f (k + 1) m := by
  show (if m ≤ 2 ^ k then k else lstF f (k + 1) m) = _
  rw [if_neg hk]
theorem lstF_end {f k m : Nat} (hk : m ≤ 2 ^ k) : lstF f k m = k := by
  cases f with
  | zero => rfl
  | succ f =>
    show (if m ≤ 2 ^ k then k else lstF f (k + 1) m) = _
    rw [if_pos hk]
theorem lstK_in {m : Nat} (h : m ≤ 65536) : 8 ≤ lstK m ∧ lstK m ≤ 16 ∧ m ≤ 2 ^ lstK m := lstF_le 8 8 m h
theorem shl_1 : ∀ k : Nat, k ≤ 16 → IntKind.u64.wrap ((2 : Int) ^ k) = ((2 ^ k : Nat) : Int) := by decide
theorem ckV_0 {L : List (Nat × Nat)} {nj n z st : Nat} {M : List (ByteArray × Nat)} (h : ckV L nj n z st M = 0) : encX L = 0 ∧ nj ≤ 16384 ∧ stOk st = true ∧ n + z + st ≤ 65536 ∧ namesOk M = true := by
  unfold ckV at h
  split at h
  · rename_i h0
    split at h
    · cases h
    · split at h
      · rename_i h1 h2
        split at h
        · rename_i h3
          exact ⟨h0, by omega, h2.1, h2.2, h3⟩
        · cases h
      · cases h
  · rename_i h0
    exact absurd h h0
end Go.Proofs.YtgbpfejodpplbaaGreatDoor
namespace Go.Proofs.YtgbpfejodpplbaaGreatDoor
open Go.RowKit Go.WideShapes
set_option maxRecDepth 100000
/-- what image.Bits answers -/
def biV (L : List (Nat × Nat)) (nj n z st : Nat) (M : List (ByteArray × Nat)) : Nat := if ckV L nj n z st M = 0 then lstK (n + z + st) else 0
set_option maxHeartbeats 8000000 in
theorem ibits_any (ac aj ad an : Option Addr) (cc nj cj nd cd z st cn : Nat) (L : List (Nat × Nat)) (M : List (ByteArray × Nat)) (w : World) (hn : L.length ≤ 9223372036854775807) (hjn : nj ≤ 9223372036854775807) (hdn : nd ≤ 9223372036854775807) (hMn : M.length ≤ 9223372036854775807) (hwf : Wfc L) (hz : z < 4294967296) (hst : st < 4294967296) (hcn : M.length ≤ cn)
    (hr : CRd w ac L w.heap.size) (hrN : NRd w an M w.heap.size) :
    Calls Tryz.prog 10 #[imV ac L.length cc aj nj cj ad nd cd z st an M.length cn] w fun e w' => e = .returned (.tuple #[.int .i64 (biV L nj nd z st M : Nat), .int .i64 (ckV L nj nd z st M : Nat)]) ∧ Below w.heap.size w w' := by
  obtain ⟨w1, hw1⟩ : ∃ w1, w.alloc (.cells (imC ac L.length cc aj nj cj ad nd cd z st an M.length cn) 28) = w1 := ⟨_, rfl⟩
  have hb1 : Below w.heap.size w w1 := by rw [← hw1]; exact (Below.refl w.heap.size w).alloc (Nat.le_refl _) _
  have hs1 : w.heap.size < w1.heap.size := by rw [← hw1]; simp
  have hlast : w1.heap[w.heap.size]? = some (.cells (imC ac L.length cc aj nj cj ad nd cd z st an M.length cn) 28) := by rw [← hw1]; exact heap_alloc_last w _
  have hcell : ∀ W, Below w1.heap.size w1 W → ∀ i, W.cell? ⟨w.heap.size, i, none⟩ = (imC ac L.length cc aj nj cj ad nd cd z st an M.length cn)[i]? := fun W hW i => obj_cell ((hW.block _ hs1).trans hlast) i
  have HCe := hidS hcell
  have HC := hidS (icheck_any ac aj ad an cc nj cj nd cd z st cn L M w1 hn hjn hdn hMn hwf hz hst hcn ((hr.below hb1).mono hb1.size) (by
    have := hrN.below hb1
    exact fun h => by
      obtain ⟨b, off, e, hlt, hc⟩ := this h
      exact ⟨b, off, e, by omega, hc⟩))
  have HW1 := hidS hw1
  clear hcell hw1 hlast hr hrN
  generalize hcv : ckV L nj nd z st M = x at HC
  have HX := hidS hcv
  by_cases hx : x = 0
  · subst hx
    have hk0 := ckV_0 hcv
    have hm := hk0.2.2.2.1
    have hb2 : biV L nj nd z st M = lstK (nd + z + st) := by unfold biV; rw [if_pos hcv]
    rw [hb2]
    have HR := hidS (fun W => room_any (.slice ac L.length cc) (.slice aj nj cj) (.slice an M.length cn) ad nd cd z st W rfl rfl rfl hdn hz hst)
    clear hk0 hb2 hcv
    go_enter Tryz.func10, Tryz.ntmps10
    go_wp2_with (go_at_call 21; rw [HW1.out]; refine HC.out.mono ?_; rintro e w2 ⟨rfl, hb2⟩)
    go_loopw [5] (fun u wr => ∃ k f : Nat, u = .int .i64 k ∧ 8 ≤ k ∧ k + f = 16 ∧ lstF f k (nd + z + st) = lstK (nd + z + st) ∧ Below w1.heap.size w1 wr)
      (fun u _ => 16 - (intOf u).toNat)
    case atStart => exact ⟨8, 8, rfl, Nat.le_refl _, rfl, rfl, hb2⟩
    case round =>
      clear hb2 HC
      obtain ⟨k, f, rfl, hk, hkf, hls, hbw⟩ := hrel
      have hk16 : k ≤ 16 := by omega
      have HWW := hidS (shl_1 k hk16)
      have cs := HCe.out wr hbw
      have c0 := cs 0
      have c1 := cs 1
      have c2 := cs 2
      have c3 := cs 3
      have c4 := cs 4
      have c5 := cs 5
      simp only [List.getElem?_toArray, List.getElem?_cons_zero, List.getElem?_cons_succ] at c0 c1 c2 c3 c4 c5
      clear cs
      have hs2 : w.heap.size < wr.heap.size := by have := hbw.size; omega
      have gW : ∀ w', Below wr.heap.size wr w' → (w'.cell? ⟨w.heap.size, 0, none⟩ = some (.slice ac L.length cc) ∧ w'.cell? ⟨w.heap.size, 1, none⟩ = some (.slice aj nj cj) ∧ w'.cell? ⟨w.heap.size, 2, none⟩ = some (.slice ad nd cd) ∧ w'.cell? ⟨w.heap.size, 3, none⟩ = some (.int .u32 (z : Nat)) ∧ w'.cell? ⟨w.heap.size, 4, none⟩ = some (.int .u32 (st : Nat)) ∧ w'.cell? ⟨w.heap.size, 5, none⟩ = some (.slice an M.length cn)) := fun w' h => ⟨(h.cell (p := ⟨w.heap.size, 0, none⟩) hs2).trans c0, (h.cell (p := ⟨w.heap.size, 1, none⟩) hs2).trans c1, (h.cell (p := ⟨w.heap.size, 2, none⟩) hs2).trans c2, (h.cell (p := ⟨w.heap.size, 3, none⟩) hs2).trans c3, (h.cell (p := ⟨w.heap.size, 4, none⟩) hs2).trans c4, (h.cell (p := ⟨w.heap.size, 5, none⟩) hs2).trans c5⟩
      have HB : Below wr.heap.size wr wr := Below.refl _ _
      have HLS := hidS hls
      have HKF := hidS hkf
      clear hls hkf
      have htn : ((k : Int)).toNat = k := by omega
      have hk0 : ¬ (k : Int) < 0 := by omega
      go_wp2_with fail
      go_region_held3 (fun w' => w'.cell? ⟨w.heap.size, 0, none⟩ = some (.slice ac L.length cc) ∧ w'.cell? ⟨w.heap.size, 1, none⟩ = some (.slice aj nj cj) ∧ w'.cell? ⟨w.heap.size, 2, none⟩ = some (.slice ad nd cd) ∧ w'.cell? ⟨w.heap.size, 3, none⟩ = some (.int .u32 (z : Nat)) ∧ w'.cell? ⟨w.heap.size, 4, none⟩ = some (.int .u32 (st : Nat)) ∧ w'.cell? ⟨w.heap.size, 5, none⟩ = some (.slice an M.length cn)) ((refine gW _ ?_; (repeat (first | exact HB | exact Below.refl _ _ | with_reducible refine belP ?_ | with_reducible refine Below.drew ?_)))) (first
        | (go_at_call 22; with_reducible refine (HR.out _).mono ?_; rintro e w5 ⟨rfl, hq⟩; replace HB : Below wr.heap.size wr w5 := btP (show Below wr.heap.size wr _ from by (repeat (first | exact HB | exact Below.refl _ _ | with_reducible refine belP ?_ | with_reducible refine Below.drew ?_))) hq; clear hq))
      rw [HWW.out]
      have HB5 := hidS (btP hbw HB)
      clear HB gW c0 c1 c2 c3 c4 c5 HCe HR HWW
      by_cases hle : nd + z + st ≤ 2 ^ k
      · have HE : Hid (lstK (nd + z + st) = k) := hidS (by rw [← HLS.out]; exact lstF_end hle)
        generalize 2 ^ k = pk at *
        have hgI : ¬ (pk : Int) < (nd : Int) + (z : Int) + (st : Int) := by omega
        clear hle
        go_wp2_with fail
        refine bodyPost_ret (results_tmp2 rfl _ _ _) rfl ?_
        exact ⟨by rw [HE.out]; rfl, btP hb1 HB5.out⟩
      · have HF : Hid (∃ f', k + 1 + f' = 16 ∧ lstF f' (k + 1) (nd + z + st) = lstK (nd + z + st)) := hidS (by
          have h1 := HKF.out
          have h2 := HLS.out
          cases f with
          | zero =>
            have : k = 16 := by omega
            subst this
            exact absurd hm (by omega)
          | succ f => exact ⟨f, by omega, by rw [← lstF_step hle]; exact h2⟩)
        generalize 2 ^ k = pk at *
        have hgI : (pk : Int) < (nd : Int) + (z : Int) + (st : Int) := by omega
        clear hle
        go_wp2_with fail
        go_roundw
        case rel =>
          obtain ⟨f', h1, h2⟩ := HF.out
          exact ⟨k + 1, f', by go_num, by omega, h1, h2, HB5.out⟩
        case measure =>
          obtain ⟨f', h1, h2⟩ := HF.out
          simp [intOf]; omega
  · have hxI : ((x : Int) == 0) = false := by rw [beq_eq_false_iff_ne]; omega
    have hxI2 : ¬ (x : Int) = 0 := by omega
    have hb2 : biV L nj nd z st M = 0 := by unfold biV; rw [if_neg (by rw [hcv]; exact hx)]
    rw [hb2]
    go_enter Tryz.func10, Tryz.ntmps10
    go_wp2_with (go_at_call 21; rw [HW1.out]; refine HC.out.mono ?_; rintro e w2 ⟨rfl, hb2⟩; have HB2 := hidS (btP hb1 hb2); clear hb2)
    refine bodyPost_ret (results_tmp2 rfl _ _ _) rfl ?_
    exact ⟨rfl, HB2.out⟩
end Go.Proofs.YtgbpfejodpplbaaGreatDoor
