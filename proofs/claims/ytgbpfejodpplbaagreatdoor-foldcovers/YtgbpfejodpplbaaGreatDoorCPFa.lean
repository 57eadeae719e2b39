import Derived.Test.YtgbpfejodpplbaaGreatDoorCPCm
import Derived.Sort.QuietIn
namespace Go.Proofs.YtgbpfejodpplbaaGreatDoor
open Go.RowKit Go.WideShapes Go.Shelf
set_option maxRecDepth 100000

theorem peq_self (a : Nat) (w : World) : (binOp .eql 49 (.pointer (some ⟨a, 0, none⟩)) (.pointer (some ⟨a, 0, none⟩))).run Tryz.prog w = .ok (.bool true) w := by
  have h : (Tryz.prog.info? 111).map (·.size) = some 4 := by kernel_rfl
  cases hi : Tryz.prog.info? 111 with
  | none => rw [hi] at h; cases h
  | some i => exact run_eql_ptr_same w ⟨a, 0, none⟩ Tryz.underlying49 hi
theorem PrS.c0 {w : World} {B pp p1 g1 p2 g2 n : Nat} {lv : Value} {Ps : List (Nat × Nat × Nat)} {A C : List Nat} (h : PrS w B pp p1 g1 p2 g2 n lv Ps A C) : w.cell? ⟨pp, 0, none⟩ = some (.pointer (some ⟨pp, 0, none⟩)) := obj_cell h.obj 0
theorem PrS.c1 {w : World} {B pp p1 g1 p2 g2 n : Nat} {lv : Value} {Ps : List (Nat × Nat × Nat)} {A C : List Nat} (h : PrS w B pp p1 g1 p2 g2 n lv Ps A C) : w.cell? ⟨pp, 1, none⟩ = some lv := obj_cell h.obj 1
theorem PrS.c2 {w : World} {B pp p1 g1 p2 g2 n : Nat} {lv : Value} {Ps : List (Nat × Nat × Nat)} {A C : List Nat} (h : PrS w B pp p1 g1 p2 g2 n lv Ps A C) : w.cell? ⟨pp, 2, none⟩ = some (.pointer (some ⟨p1, 0, none⟩)) := obj_cell h.obj 2
theorem PrS.c3 {w : World} {B pp p1 g1 p2 g2 n : Nat} {lv : Value} {Ps : List (Nat × Nat × Nat)} {A C : List Nat} (h : PrS w B pp p1 g1 p2 g2 n lv Ps A C) : w.cell? ⟨pp, 3, none⟩ = some (.pointer (some ⟨p2, 0, none⟩)) := obj_cell h.obj 3
theorem PrS.kept {S : Nat → Prop} {w w' : World} {B pp p1 g1 p2 g2 n : Nat} {lv : Value} {Ps : List (Nat × Nat × Nat)} {A C : List Nat} (h : PrS w B pp p1 g1 p2 g2 n lv Ps A C) (hk : Kp S w w') (hS : ∀ k, k < w.heap.size → ¬ S k) : PrS w' B pp p1 g1 p2 g2 n lv Ps A C :=
  ⟨(hk.block pp (Array.getElem?_eq_some_iff.1 h.obj).1 (hS pp (Array.getElem?_eq_some_iff.1 h.obj).1)).trans h.obj, hk.own h.row (fun k e => hS k (h.row.lt k e).2), h.s1.kept hk (hS p1 h.s1.ltp) (hS g1 h.s1.ltg), h.s2.kept hk (hS p2 h.s2.ltp) (hS g2 h.s2.ltg), h.nd, h.lt⟩
theorem PrS.below {w w' : World} {B pp p1 g1 p2 g2 n : Nat} {lv : Value} {Ps : List (Nat × Nat × Nat)} {A C : List Nat} (h : PrS w B pp p1 g1 p2 g2 n lv Ps A C) (hb : Below w.heap.size w w') : PrS w' B pp p1 g1 p2 g2 n lv Ps A C :=
  h.kept (Kp.ofBelow (S := fun _ => False) hb) (fun _ _ e => e)
/-- procedures that are read -/
def PRd (w : World) (ao : Option Addr) (Ps : List (Nat × Nat × Nat)) (B : Nat) : Prop :=
  0 < Ps.length → ∃ b off, ao = some ⟨b, off, none⟩ ∧ b < B ∧ ∀ j, j < Ps.length → w.cell? ⟨b, off + j * 4, none⟩ = some (.int .u32 (Ps.getD j (0, 0, 0)).1) ∧ w.cell? ⟨b, off + j * 4 + 1, none⟩ = some (.int .u32 (Ps.getD j (0, 0, 0)).2.1) ∧ w.cell? ⟨b, off + j * 4 + 2, none⟩ = some (.int .u32 (Ps.getD j (0, 0, 0)).2.2) ∧ w.cell? ⟨b, off + j * 4 + 3, none⟩ = some (.int .i64 0)
theorem PRd.below {w w' : World} {ao : Option Addr} {Ps : List (Nat × Nat × Nat)} {B : Nat} (h : PRd w ao Ps B) (hb : Below B w w') : PRd w' ao Ps B := by
  intro hl
  obtain ⟨b, off, e, hlt, hc⟩ := h hl
  exact ⟨b, off, e, hlt, fun j hj => ⟨(hb.cell (p := ⟨b, off + j * 4, none⟩) hlt).trans (hc j hj).1, (hb.cell (p := ⟨b, off + j * 4 + 1, none⟩) hlt).trans (hc j hj).2.1, (hb.cell (p := ⟨b, off + j * 4 + 2, none⟩) hlt).trans (hc j hj).2.2.1, (hb.cell (p := ⟨b, off + j * 4 + 3, none⟩) hlt).trans (hc j hj).2.2.2⟩⟩
theorem PRd.mono {w : World} {ao : Option Addr} {Ps : List (Nat × Nat × Nat)} {B C : Nat} (h : PRd w ao Ps B) (hb : B ≤ C) : PRd w ao Ps C := by
  intro hl
  obtain ⟨b, off, e, hlt, hc⟩ := h hl
  exact ⟨b, off, e, by omega, hc⟩
theorem pv_all : ∀ (P : List (Nat × Nat × Nat)) (m : Nat), m < P.length → (pv P)[m * 4]? = some (.int .u32 ((P.getD m (0, 0, 0)).1 : Nat)) ∧ (pv P)[m * 4 + 1]? = some (.int .u32 ((P.getD m (0, 0, 0)).2.1 : Nat)) ∧ (pv P)[m * 4 + 2]? = some (.int .u32 ((P.getD m (0, 0, 0)).2.2 : Nat)) ∧ (pv P)[m * 4 + 3]? = some (.int .i64 0)
  | [], m, h => by simp at h
  | a :: t, 0, _ => ⟨rfl, rfl, rfl, rfl⟩
  | a :: t, m + 1, h => by
    have := pv_all t m (by simpa using h)
    rw [show (m + 1) * 4 + 1 = (m * 4 + 1) + 4 by omega, show (m + 1) * 4 + 2 = (m * 4 + 2) + 4 by omega, show (m + 1) * 4 + 3 = (m * 4 + 3) + 4 by omega, show (m + 1) * 4 = m * 4 + 4 by omega]
    simpa [pv] using this
theorem PrS.reads {w : World} {B pp p1 g1 p2 g2 n : Nat} {lv : Value} {Ps : List (Nat × Nat × Nat)} {A C : List Nat} (h : PrS w B pp p1 g1 p2 g2 n lv Ps A C) : ∃ ao cap, lv = .slice ao Ps.length cap ∧ PRd w ao Ps w.heap.size := by
  have h' := h.row
  have hlt := h'.lt
  rcases h'.2 with ⟨rfl, hz⟩ | ⟨g, cap, cur, rfl, _⟩
  · exact ⟨none, 0, by rw [hz], fun hp => by omega⟩
  · refine ⟨_, cap, rfl, fun _ => ⟨g, 0, rfl, (hlt g rfl).2, fun j hj => ?_⟩⟩
    obtain ⟨e1, e2, e3, e4⟩ := pv_all Ps j hj
    simp only [Nat.zero_add]
    exact ⟨(h'.cellAt (j * 4) (by omega)).trans e1, (h'.cellAt (j * 4 + 1) (by omega)).trans e2, (h'.cellAt (j * 4 + 2) (by omega)).trans e3, (h'.cellAt (j * 4 + 3) (by omega)).trans e4⟩
theorem pmade_any (a : Nat) (w : World) (hc : w.cell? ⟨a, 0, none⟩ = some (.pointer (some ⟨a, 0, none⟩))) :
    Calls Tryz.prog 78 #[.pointer (some ⟨a, 0, none⟩)] w fun e w' => e = .returned (.bool true) ∧ w' = w := by
  have hq := peq_self a w
  go_enter Tryz.func78, Tryz.ntmps78
  go_wp2
  go_ret
  exact ⟨rfl, rfl⟩
theorem pheld_any (a : Nat) (lv : Value) (w : World) (hc : w.cell? ⟨a, 0, none⟩ = some (.pointer (some ⟨a, 0, none⟩))) (hl : w.cell? ⟨a, 1, none⟩ = some lv) :
    Calls Tryz.prog 56 #[.pointer (some ⟨a, 0, none⟩)] w fun e w' => e = .returned lv ∧ w' = w := by
  have hM := pmade_any a w hc
  go_enter Tryz.func56, Tryz.ntmps56
  go_wp2_with (go_at_call 78; refine hM.mono ?_; rintro e w2 ⟨rfl, hw2⟩; subst hw2)
  go_ret
  exact ⟨rfl, rfl⟩
theorem pcount_any (a n cap : Nat) (ao : Option Addr) (w : World) (hc : w.cell? ⟨a, 0, none⟩ = some (.pointer (some ⟨a, 0, none⟩))) (hl : w.cell? ⟨a, 1, none⟩ = some (.slice ao n cap)) :
    Calls Tryz.prog 98 #[.pointer (some ⟨a, 0, none⟩)] w fun e w' => e = .returned (.int .i64 n) ∧ w' = w := by
  have hM := pheld_any a _ w hc hl
  go_enter Tryz.func98, Tryz.ntmps98
  go_wp2_with (go_at_call 56; refine hM.mono ?_; rintro e w2 ⟨rfl, hw2⟩; subst hw2)
  go_ret
  exact ⟨rfl, rfl⟩
theorem pbegins_any {B pp p1 g1 p2 g2 n : Nat} {lv : Value} {Ps : List (Nat × Nat × Nat)} {A C : List Nat} (x : Nat) (w : World) (hx : x < 4294967296) (h : PrS w B pp p1 g1 p2 g2 n lv Ps A C) :
    Calls Tryz.prog 51 #[.pointer (some ⟨pp, 0, none⟩), .int .u32 x] w fun e w' => e = .returned (.bool (hasW A x)) ∧ w' = w := by
  have hM := pmade_any pp w h.c0
  have c2 := h.c2
  have hH := has_any p1 g1 n x _ A w hx h.s1
  clear h
  go_enter Tryz.func51, Tryz.ntmps51
  go_wp2_with (first | (go_at_call 78; refine hM.mono ?_; rintro e w2 ⟨rfl, hw2⟩; subst hw2) | (go_at_call 68; refine hH.mono ?_; rintro e w2 ⟨rfl, hw2⟩; subst hw2))
  go_ret
  exact ⟨rfl, rfl⟩
end Go.Proofs.YtgbpfejodpplbaaGreatDoor
namespace Go.Proofs.YtgbpfejodpplbaaGreatDoor
set_option maxRecDepth 100000

theorem prs_get (L : List (Nat × Nat)) : ∀ (bs : List Nat) (i : Nat), i < bs.length → (prs L bs).getD i (0, 0, 0) = (bs.getD i 0, bs.getD (i + 1) L.length, argL L (bs.getD i 0))
  | [], i, h => by simp at h
  | [b], 0, _ => rfl
  | [b], i + 1, h => by simp at h
  | b :: c :: t, 0, _ => rfl
  | b :: c :: t, i + 1, h => by
    have := prs_get L (c :: t) i (by simpa using h)
    rw [prs, List.getD_cons_succ, this]
    rfl
theorem els_up (n : Nat) (p : Nat → Bool) : (els n p).Pairwise (· < ·) := List.Pairwise.filter _ List.pairwise_lt_range
theorem els_cut (n m : Nat) (p : Nat → Bool) (h : m ≤ n) : els n p = els m p ++ rng p m n := by
  rw [← rng_els, ← rng_els, rng_cut (Nat.zero_le m) h]
theorem getD_outP {l : List Nat} {i d : Nat} (h : l.length ≤ i) : l.getD i d = d := by
  rw [List.getD_eq_getElem?_getD, List.getElem?_eq_none h]
  rfl
theorem getD_memP {l : List Nat} {i d : Nat} (h : i < l.length) : l.getD i d ∈ l := by
  rw [List.getD_eq_getElem?_getD, List.getElem?_eq_getElem h]
  exact List.getElem_mem h
/-- the procedures' beginnings -/
abbrev bgs (L : List (Nat × Nat)) : List Nat := els L.length (isEn L)
theorem bgs_lt {L : List (Nat × Nat)} {i : Nat} (h : i < (bgs L).length) : (bgs L).getD i 0 < L.length := (mem_els.1 (getD_memP h)).1
theorem bgs_end {L : List (Nat × Nat)} (i : Nat) : (bgs L).getD i L.length ≤ L.length := by
  by_cases h : i < (bgs L).length
  · exact Nat.le_of_lt (mem_els.1 (getD_memP h)).1
  · rw [getD_outP (by omega)]
    exact Nat.le_refl _
theorem bgs_is {L : List (Nat × Nat)} {i : Nat} (h : i < (bgs L).length) : isEn L ((bgs L).getD i 0) = true := (mem_els.1 (getD_memP h)).2
theorem getD_anyP {l : List Nat} {i : Nat} (h : i < l.length) (d e : Nat) : l.getD i d = l.getD i e := by
  rw [List.getD_eq_getElem?_getD, List.getD_eq_getElem?_getD, List.getElem?_eq_getElem h]
  rfl
theorem bgs_up {L : List (Nat × Nat)} {i j d : Nat} (hij : i < j) (h : j < (bgs L).length) : (bgs L).getD i 0 < (bgs L).getD j d := by
  have := List.pairwise_iff_getElem.1 (els_up L.length (isEn L)) i j (Nat.lt_trans hij h) h hij
  rw [List.getD_eq_getElem?_getD, List.getD_eq_getElem?_getD, List.getElem?_eq_getElem h, List.getElem?_eq_getElem (Nat.lt_trans hij h)]
  exact this
theorem bgs_pos {L : List (Nat × Nat)} (hE : isEn L 0 = true) : 0 < (bgs L).length := by
  have h0 : 0 < L.length := by
    unfold isEn at hE
    simp at hE
    exact hE.1
  exact List.length_pos_of_mem (mem_els.2 ⟨h0, hE⟩)
theorem bgs_first {L : List (Nat × Nat)} (hE : isEn L 0 = true) : (bgs L).getD 0 0 = 0 := by
  have hp := bgs_pos hE
  have h0 : 0 < L.length := by
    unfold isEn at hE
    simp at hE
    exact hE.1
  have hm : 0 ∈ bgs L := mem_els.2 ⟨h0, hE⟩
  obtain ⟨j, hj, he⟩ := List.getElem_of_mem hm
  by_cases hz : j = 0
  · subst hz
    rw [List.getD_eq_getElem?_getD, List.getElem?_eq_getElem hj]
    exact he
  · have := bgs_up (L := L) (i := 0) (j := j) (d := 0) (by omega) hj
    rw [List.getD_eq_getElem?_getD (i := j), List.getElem?_eq_getElem hj] at this
    simp only [Option.getD_some] at this
    rw [he] at this
    omega
/-- how many begin up to a place -/
theorem cnt_eq {L : List (Nat × Nat)} {i x : Nat} (hi : i < (bgs L).length) (h1 : (bgs L).getD i 0 ≤ x) (h2 : x < (bgs L).getD (i + 1) L.length) : (els (x + 1) (isEn L)).length = i + 1 := by
  have hx : x < L.length := Nat.lt_of_lt_of_le h2 (bgs_end _)
  have hc := els_cut L.length (x + 1) (isEn L) (by omega)
  have hl : (bgs L).length = (els (x + 1) (isEn L)).length + (rng (isEn L) (x + 1) L.length).length := by rw [bgs, hc, List.length_append]
  have a1 : i < (els (x + 1) (isEn L)).length := by
    refine Nat.lt_of_not_le fun hk => ?_
    have : (bgs L).getD i 0 ∈ rng (isEn L) (x + 1) L.length := by
      rw [bgs, hc, List.getD_eq_getElem?_getD, List.getElem?_append_right hk, ← List.getD_eq_getElem?_getD]
      exact getD_memP (by omega)
    have := (mem_rng.1 this).1.1
    omega
  have a2 : ¬ i + 1 < (els (x + 1) (isEn L)).length := fun hk => by
    have : (bgs L).getD (i + 1) L.length ∈ els (x + 1) (isEn L) := by
      rw [bgs, hc, List.getD_eq_getElem?_getD, List.getElem?_append_left hk, ← List.getD_eq_getElem?_getD]
      exact getD_memP hk
    have := (mem_els.1 this).1
    omega
  omega
/-- in which procedure an instruction lies; -1: in none -/
def ofL (L : List (Nat × Nat)) (x : Nat) : Int := if x < L.length then ((els (x + 1) (isEn L)).length : Int) - 1 else -1
theorem ofL_in {L : List (Nat × Nat)} {i x : Nat} (hi : i < (bgs L).length) (h1 : (bgs L).getD i 0 ≤ x) (h2 : x < (bgs L).getD (i + 1) L.length) : ofL L x = (i : Int) := by
  have hx : x < L.length := Nat.lt_of_lt_of_le h2 (bgs_end _)
  rw [ofL, if_pos hx, cnt_eq hi h1 h2]
  omega
/-- what the search gives -/
theorem of_eq {L : List (Nat × Nat)} (hE : isEn L 0 = true) {x i : Nat} (hi : i ≤ (bgs L).length) (h1 : i = (bgs L).length ∨ x < (bgs L).getD (i + 1) L.length) (h2 : i = 0 ∨ (bgs L).getD (i - 1 + 1) L.length ≤ x) : (if i = (bgs L).length then (-1 : Int) else (i : Int)) = ofL L x := by
  have hp := bgs_pos hE
  by_cases he : i = (bgs L).length
  · rw [if_pos he]
    rcases h2 with h2 | h2
    · omega
    · rw [show i - 1 + 1 = i by omega, getD_outP (by omega)] at h2
      rw [ofL, if_neg (by omega)]
  · rw [if_neg he]
    rcases h1 with h1 | h1
    · exact absurd h1 he
    · refine (ofL_in (by omega) ?_ h1).symm
      rcases h2 with h2 | h2
      · subst h2
        rw [bgs_first hE]
        omega
      · by_cases hz : i = 0
        · subst hz
          rw [bgs_first hE]
          omega
        · rw [show i - 1 + 1 = i by omega] at h2
          rw [getD_anyP (by omega) 0 L.length]
          exact h2
theorem is_in {L : List (Nat × Nat)} {i x : Nat} (hi : i < (bgs L).length) (h1 : (bgs L).getD i 0 ≤ x) (h2 : x < (bgs L).getD (i + 1) L.length) : isEn L x = decide (x = (bgs L).getD i 0) := by
  have hx : x < L.length := Nat.lt_of_lt_of_le h2 (bgs_end _)
  by_cases he : x = (bgs L).getD i 0
  · rw [decide_eq_true he, he]
    exact bgs_is hi
  · rw [decide_eq_false he]
    cases hq : isEn L x with
    | false => rfl
    | true =>
      exfalso
      obtain ⟨j, hj, hv⟩ := List.getElem_of_mem (mem_els.2 ⟨hx, hq⟩ : x ∈ bgs L)
      have hg : ∀ d, (bgs L).getD j d = x := fun d => by
        rw [List.getD_eq_getElem?_getD, List.getElem?_eq_getElem hj]
        exact hv
      rcases Nat.lt_trichotomy j i with h | h | h
      · have := bgs_up (L := L) (d := 0) h hi
        rw [hg 0] at this
        omega
      · subst h
        exact he (hg 0).symm
      · by_cases hs : j = i + 1
        · subst hs
          rw [hg L.length] at h2
          omega
        · have := bgs_up (L := L) (i := i + 1) (j := j) (d := 0) (by omega) hj
          have hj' : i + 1 < (bgs L).length := Nat.lt_of_le_of_lt (by omega) hj
          have h4 := getD_anyP hj' 0 L.length
          have h5 := hg 0
          omega
/-- each instruction lies in one -/
theorem lies_in {L : List (Nat × Nat)} (hE : isEn L 0 = true) {x : Nat} (hx : x < L.length) : ∃ i, i < (bgs L).length ∧ (bgs L).getD i 0 ≤ x ∧ x < (bgs L).getD (i + 1) L.length := by
  have hc := els_cut L.length (x + 1) (isEn L) (by omega)
  have hl : (bgs L).length = (els (x + 1) (isEn L)).length + (rng (isEn L) (x + 1) L.length).length := by rw [bgs, hc, List.length_append]
  have hp : 0 < (els (x + 1) (isEn L)).length := List.length_pos_of_mem (mem_els.2 ⟨by omega, hE⟩)
  refine ⟨(els (x + 1) (isEn L)).length - 1, by omega, ?_, ?_⟩
  · have : (bgs L).getD ((els (x + 1) (isEn L)).length - 1) 0 ∈ els (x + 1) (isEn L) := by
      rw [bgs, hc, List.getD_eq_getElem?_getD, List.getElem?_append_left (by omega), ← List.getD_eq_getElem?_getD]
      exact getD_memP (by omega)
    have := (mem_els.1 this).1
    omega
  · rw [show (els (x + 1) (isEn L)).length - 1 + 1 = (els (x + 1) (isEn L)).length by omega]
    by_cases hr : (els (x + 1) (isEn L)).length < (bgs L).length
    · have : (bgs L).getD (els (x + 1) (isEn L)).length L.length ∈ rng (isEn L) (x + 1) L.length := by
        rw [bgs, hc, List.getD_eq_getElem?_getD, List.getElem?_append_right (Nat.le_refl _), ← List.getD_eq_getElem?_getD]
        exact getD_memP (by omega)
      have := (mem_rng.1 this).1.1
      omega
    · rw [getD_outP (by omega)]
      exact hx
theorem ofL_neg {L : List (Nat × Nat)} (hE : isEn L 0 = true) (x : Nat) : ofL L x < 0 ↔ ¬ x < L.length := by
  constructor
  · intro h hx
    obtain ⟨i, h1, h2, h3⟩ := lies_in hE hx
    rw [ofL_in h1 h2 h3] at h
    omega
  · intro h
    rw [ofL, if_neg h]
    omega
end Go.Proofs.YtgbpfejodpplbaaGreatDoor
namespace Go.Proofs.YtgbpfejodpplbaaGreatDoor
open Go.RowKit Go.WideShapes Go.Shelf
set_option maxRecDepth 100000

set_option maxHeartbeats 1000000 in
theorem search_any (n g : Nat) (lb : Array Value) (pr : Nat → Bool) (w : World) (hn : n ≤ 1048576) (eg : ∀ args w, (callFunc g args).run Tryz.prog w = .ok (.enter g args) w)
    (hf : ∀ h : Nat, h < n → ∀ W, Below w.heap.size w W → Calls Tryz.prog g (#[.int .i64 (h : Int)] ++ lb) W fun e w' => e = .returned (.bool (pr h)) ∧ Below W.heap.size W w') :
    Calls Tryz.prog 76 #[.int .i64 (n : Int), .func (.func g) #[] lb] w fun e w' => (∃ i : Nat, e = .returned (.int .i64 i) ∧ i ≤ n ∧ (i = n ∨ pr i = true) ∧ (i = 0 ∨ pr (i - 1) = false)) ∧ Below w.heap.size w w' := by
  have HF := hidS hf
  clear hf
  go_enter Tryz.func76, Tryz.ntmps76
  go_wp2_with fail
  go_loopw [5, 6] (fun u v wr => ∃ i j : Nat, u = .int .i64 i ∧ v = .int .i64 j ∧ i ≤ j ∧ j ≤ n ∧ (j = n ∨ pr j = true) ∧ (i = 0 ∨ pr (i - 1) = false) ∧ Below w.heap.size w wr)
    (fun u v _ => (intOf v).toNat - (intOf u).toNat)
  case atStart => exact ⟨0, n, rfl, rfl, Nat.zero_le _, Nat.le_refl _, .inl rfl, .inl rfl, Below.refl _ _⟩
  case round =>
    obtain ⟨i, j, rfl, rfl, hij, hj, h1, h2, hb⟩ := hrel
    have H1 := hidS h1
    have H2 := hidS h2
    clear h1 h2
    by_cases hlt : i < j
    · have hltI : (i : Int) < (j : Int) := by omega
      have hC := HF.out ((i + j) / 2) (by omega) _ hb
      have hcast : ((((i + j) / 2 : Nat)) : Int) = ((i : Int) + (j : Int)) / 2 := by omega
      rw [hcast] at hC
      obtain ⟨m, hm⟩ : ∃ m : Nat, (i + j) / 2 = m := ⟨_, rfl⟩
      rw [hm] at hC
      have HM := hidS hm
      have hmI : ((i : Int) + (j : Int)) / 2 = (m : Int) := by omega
      rw [hmI] at hC
      clear hcast hm
      cases hp : pr m
      · rw [hp] at hC
        go_wp2_with fail
        with_reducible refine hC.mono ?_
        rintro e wq ⟨rfl, hq⟩
        go_wp2_with fail
        go_roundw
        case rel =>
          have := HM.out
          refine ⟨m + 1, j, by go_num, rfl, by omega, hj, H1.out, .inr (by simpa using hp), btP hb hq⟩
        case measure =>
          have := HM.out
          simp [intOf]; omega
      · rw [hp] at hC
        go_wp2_with fail
        with_reducible refine hC.mono ?_
        rintro e wq ⟨rfl, hq⟩
        go_wp2_with fail
        go_roundw
        case rel =>
          have := HM.out
          exact ⟨i, m, rfl, by go_num, by omega, by omega, .inr hp, H2.out, btP hb hq⟩
        case measure =>
          have := HM.out
          simp [intOf]; omega
    · obtain rfl : i = j := by omega
      have hltI : ¬ (i : Int) < (i : Int) := by omega
      go_wp2_with fail
      go_ret
      exact ⟨⟨i, rfl, hj, H1.out, H2.out⟩, hb⟩
end Go.Proofs.YtgbpfejodpplbaaGreatDoor
