import Derived.Test.YtpndbbepfjocgaaBThing
import Derived.Test.YtpndbbepfjocgaaShelf
import Derived.Deep.AppendLies
namespace Go.Proofs.Ytpndbbepfjocgaa
open Go.RowKit Go.Shelf

theorem hid_of {p : Prop} (h : p) : Hid p := h
theorem numV_rng (t : ByteArray) (n : Nat) (hn : n ≤ 4) : 0 ≤ numV t n ∧ numV t n ≤ 65535 ∧ (n ≤ 2 → numV t n ≤ 255) := by
  have := hexes_range t 0 n hn
  unfold numV
  split
  · omega
  · omega
theorem esc_rng (t : ByteArray) : 0 ≤ (escV t).1 ∧ (escV t).1 ≤ 1114111 ∧ ((escV t).2.1 = true → (escV t).1 ≤ 255) := by
  have h2 := numV_rng (tl t) 2 (by omega)
  have h4 := numV_rng (tl t) 4 (by omega)
  unfold escV
  repeat' split
  all_goals (simp; try omega)
theorem read_rng (u : ByteArray) : 0 ≤ (readV u).1 ∧ (readV u).1 ≤ 1114111 ∧ ((readV u).2.1 = true → (readV u).1 ≤ 255) := by
  have h1 := esc_rng (tl u)
  have h2 : firstN u ≤ 1114111 := by unfold firstN; split <;> first | (have := numAt_range u 0; omega) | omega
  unfold readV
  repeat' split
  all_goals (simp; try omega)
theorem pb_len (x : Piece) : 1 ≤ (pb x).length ∧ (pb x).length ≤ 4 := by
  unfold pb
  split
  · simp
  · unfold Lib.encodeRuneZ
    repeat (first | (split) | (constructor <;> simp))
/-- what a literal in quotation marks stands for from a place on: bytes, place, error -/
def bgo (s : ByteArray) : Nat → Nat → List Int → List Int × Nat × Int
  | 0, i, _ => ([], i, 11)
  | f + 1, i, L => if i < s.size then (if bt s i = 34 then (if i + 1 < s.size then ([], i + 1, 10) else (L, 0, 0)) else if (readV (sub s i)).2.2.2 = 0 then bgo s f (i + (readV (sub s i)).2.2.1.toNat) (L ++ pb (readV (sub s i))) else ([], i, (readV (sub s i)).2.2.2)) else ([], i, 11)
def q34 (s : ByteArray) : Bool := decide (0 < s.size ∧ bt s 0 = 34)
def bV (s : ByteArray) : List Int × Nat × Int := if q34 s = true then bgo s s.size 1 [] else ([], 0, 11)
theorem bgo_end (s : ByteArray) (f i : Nat) (L : List Int) (h : ¬ i < s.size) : bgo s f i L = ([], i, 11) := by cases f <;> simp [bgo, h]
theorem bgo_34a (s : ByteArray) (f i : Nat) (L : List Int) (h : i + 1 < s.size) (h34 : bt s i = 34) : bgo s (f + 1) i L = ([], i + 1, 10) := by simp [bgo, h, h34, show i < s.size by omega]
theorem bgo_34b (s : ByteArray) (f i : Nat) (L : List Int) (h : i < s.size) (h1 : ¬ i + 1 < s.size) (h34 : bt s i = 34) : bgo s (f + 1) i L = (L, 0, 0) := by simp [bgo, h, h1, h34]
theorem bgo_bad (s : ByteArray) (f i : Nat) (L : List Int) (h : i < s.size) (h34 : bt s i ≠ 34) (h2 : (readV (sub s i)).2.2.2 ≠ 0) : bgo s (f + 1) i L = ([], i, (readV (sub s i)).2.2.2) := by simp [bgo, h, h34, h2]
theorem bgo_ok (s : ByteArray) (f i : Nat) (L : List Int) (h : i < s.size) (h34 : bt s i ≠ 34) (h2 : (readV (sub s i)).2.2.2 = 0) : bgo s (f + 1) i L = bgo s f (i + (readV (sub s i)).2.2.1.toNat) (L ++ pb (readV (sub s i))) := by
  rw [bgo, if_pos h, if_neg h34, if_pos h2]
theorem pre34 (s : ByteArray) : Lib.hasPrefix s.data.toList [34] = q34 s := by
  have hl : s.data.toList.length = s.size := by rw [Array.length_toList]; rfl
  unfold q34
  by_cases h : 0 < s.size
  · obtain ⟨b, e, hb⟩ := bt_list s 0 h
    rw [← hb]
    cases hs : s.data.toList with
    | nil => rw [hs] at hl; simp at hl; omega
    | cons a t =>
      rw [hs] at e
      simp at e
      subst e
      simp only [Lib.hasPrefix, List.isPrefixOf, Bool.and_true, h, true_and]
      by_cases c : a = 34
      · subst c; rfl
      · have c' : a.toNat ≠ 34 := fun k => c (by apply UInt8.toNat.inj; rw [k]; rfl)
        have : ((34 : UInt8) == a) = false := by rw [beq_eq_false_iff_ne]; exact fun h => c h.symm
        rw [this]; simp [c']
  · have : s.data.toList = [] := List.eq_nil_of_length_eq_zero (by omega)
    rw [this]
    simp [h, Lib.hasPrefix, List.isPrefixOf]
theorem own_ne {w : World} {B e k n : Nat} {v : Value} {xs : List Value} (h : w.ownsRow B e k v n xs) : some w.heap.size ≠ v.ownBlock := fun c => by
  have := (h.lt _ c.symm).2
  omega
theorem grown_below' {B e : Nat} {a w w' : World} {xs : List Value} {v : Value} {n : Nat} {o : Obj} (h : Below B a w) (hB : B ≤ w.heap.size) (hown : w.ownsRow B e 1 v n xs) (hg : (w.alloc o).grownBy w' v.ownBlock) : Below B a w' :=
  (h.alloc hB o).grown hg (by simp; omega) (fun k e => (hown.lt k e).1)
theorem one_news (c : Int) (W : World) (o : Obj) (ty : TypeId) : ∀ j u, ([.int .u8 c] : List Value)[j]? = some u → ((W.alloc o).alloc (.cells #[.int .u8 c] ty)).cell? ((⟨W.heap.size + 1, 0, none⟩ : Addr).add j) = some u := by
  intro j u hj
  have h := World.news_of_block (heap_alloc_new (W.alloc o) (.cells #[.int .u8 c] ty)) j u hj
  rw [World.size_alloc] at h
  exact h
theorem rc_bv (r : Int) : Lib.runeCells r = bv (Lib.encodeRuneZ r) := rfl
set_option maxRecDepth 100000 in
set_option maxHeartbeats 4000000 in
theorem bytes_any (s : ByteArray) (w : World) (hs : s.size ≤ 1048576) :
    Calls Try.prog 50 #[.string s] w fun e w' => ∃ v, e = .returned (.tuple #[v, .int .i64 ((bV s).2.1 : Nat), .int .i64 (bV s).2.2]) ∧ w'.ownsRow w.heap.size 5 1 v (bV s).1.length (bv (bV s).1) ∧ Below w.heap.size w w' := by
  obtain ⟨i0, hi, hz0, hz1, hz2⟩ := info_parts Try.info5
  have HP := hid_of (pre34 s)
  cases hq : q34 s
  · have HV : Hid (bV s = ([], 0, 11)) := by rw [Hid, bV, hq]; rfl
    rw [HV.out]
    rw [hq] at HP
    clear HV hq
    go_enter Try.func50, Try.ntmps50
    go_wp2_with (go_at_call 46; refine (Try.strings_HasPrefix _ _ _).mono ?_; rintro e wz ⟨rfl, hw'⟩; have hp := HP.out; rw [hp]; subst hw')
    refine bodyPost_ret (results_tmp3 rfl _ _ _) rfl ?_
    exact ⟨_, rfl, World.ownsRow_nil _ _ _ _, Below.refl _ _⟩
  · have HV : Hid (bV s = bgo s s.size 1 []) := by rw [Hid, bV, if_pos hq]
    have hz : 0 < s.size := by have : 0 < s.size ∧ bt s 0 = 34 := of_decide_eq_true hq
                               exact this.1
    rw [hq] at HP
    clear hq
    obtain ⟨R, hR⟩ : ∃ R, bV s = R := ⟨_, rfl⟩
    rw [hR]
    have HR : Hid (bgo s s.size 1 [] = R) := by rw [Hid, ← HV.out]; exact hR
    clear hR HV
    go_enter Try.func50, Try.ntmps50
    go_wp2_with (go_at_call 46; refine (Try.strings_HasPrefix _ _ _).mono ?_; rintro e wz ⟨rfl, hw'⟩; have hp := HP.out; rw [hp]; subst hw')
    go_loopw [5, 6] (fun v a wr => ∃ (i f : Nat) (L : List Int), a = .int .i64 (i : Int) ∧ i ≤ s.size ∧ 1 ≤ i ∧ s.size ≤ i + f ∧ Hid (bgo s f i L = R) ∧ Hid (L.length ≤ 4 * i) ∧ wr.ownsRow wz.heap.size 5 1 v L.length (bv L) ∧ Below wz.heap.size wz wr)
      (fun _ a _ => s.size - (intOf a).toNat)
    case atStart => exact ⟨1, s.size, [], rfl, hz, Nat.le_refl _, by omega, HR, by simp [Hid], World.ownsRow_nil _ _ _ _, Below.refl _ _⟩
    case round =>
      obtain ⟨i, f, L, rfl, hi1, hi0, hf, HG, HL, hown, hb⟩ := hrel
      have hB := hb.size
      have hLl := HL.out
      by_cases hlt : i < s.size
      · have hiI : (i : Int) < (s.size : Int) := by omega
        obtain ⟨f', rfl⟩ : ∃ f', f = f' + 1 := ⟨f - 1, by omega⟩
        obtain ⟨y, hy⟩ : ∃ y, y = bt s i := ⟨_, rfl⟩
        have hyl := bt_lt s i
        have hsy : (s[i]'hlt).toNat = y := by rw [hy, bt_eq s i hlt]
        by_cases h34 : bt s i = 34
        · have hy34 : y = 34 := by omega
          subst hy34
          clear hy
          by_cases h1 : i + 1 < s.size
          · have HE := hid_of (bgo_34a s f' i L h1 h34)
            have h1I : (i : Int) + 1 < (s.size : Int) := by omega
            clear h34
            go_wp2
            refine bodyPost_ret (results_tmp3 rfl _ _ _) rfl ?_
            rw [← HG.out, HE.out]
            exact ⟨_, rfl, World.ownsRow_nil _ _ _ _, hb⟩
          · have HE := hid_of (bgo_34b s f' i L hlt h1 h34)
            have h1I : (s.size : Int) ≤ (i : Int) + 1 := by omega
            clear h34
            go_wp2
            refine bodyPost_ret (results_tmp3 rfl _ _ _) rfl ?_
            rw [← HG.out, HE.out]
            exact ⟨_, rfl, hown, hb⟩
        · have hyb : ((y : Int) == 34) = false := by rw [beq_eq_false_iff_ne]; omega
          clear hy
          obtain ⟨u, hu⟩ : ∃ u, s.extract i s.size = u := ⟨_, rfl⟩
          have HU : Hid (sub s i = u) := by rw [Hid, sub, hu]
          have husz : u.size = s.size - i := by rw [← HU.out, sub_size]
          have hus : u.size ≤ 140737488355328 := by omega
          have hrr := read_rng u
          have hrs := fun h => read_size (u := u) (by omega) h
          by_cases he : (readV (sub s i)).2.2.2 = 0
          · have HE := hid_of (bgo_ok s f' i L hlt h34 he)
            have hpl := pb_len (readV (sub s i))
            rw [HU.out] at HE he hpl
            obtain ⟨hr1, hr2⟩ := hrs he
            obtain ⟨⟨c, one, m, er⟩, hx⟩ : ∃ x : Piece, readV u = x := ⟨_, rfl⟩
            rw [hx] at HE he hrr hpl hr1 hr2
            simp only at he hrr hr1 hr2
            subst he
            obtain ⟨hc0, hc1, hc2⟩ := hrr
            obtain ⟨m', rfl⟩ : ∃ m' : Nat, m = m' := ⟨m.toNat, by omega⟩
            have HX := hid_of hx
            clear hx h34
            have hm1 : i + m' ≤ s.size := by omega
            have hmI : ((i : Int) + m') ≤ (s.size : Int) := by omega
            cases one
            · have HPB : Hid (pb (c, false, (m' : Int), 0) = Lib.encodeRuneZ c) := rfl
              have HV : Hid (readR (c, false, (m' : Int), 0) = .returned (.tuple #[.agg #[.int .i32 c, .bool false, .int .i64 (m' : Int)], .int .i64 0])) := rfl
              rw [HPB.out] at HE hpl
              clear hc2 hrs
              go_wp2_with (first
                | (go_at_call 57; refine (read_any u _ hus).mono ?_; rintro e w1 ⟨rfl, hb1⟩; rw [HX.out, HV.out]; have hownW := (own_below hown hb1).alloc (.cells #[.int .i32 c, .bool false, .int .i64 (m' : Int)] 76); have hbW := (hb.trans (hb1.mono hB)).alloc (by have := hb1.size; omega) (.cells #[.int .i32 c, .bool false, .int .i64 (m' : Int)] 76); have hBW := hbW.size; have hneb := own_ne (own_below hown hb1))
                | (go_at_call 58; refine (Try.utf8_AppendRune_plain wz.heap.size _ _ _ c (by omega) (by omega) _ hownW (by omega) hBW).mono ?_; rintro e W1 ⟨v', rfl, own1, o1, hg1⟩; have hpc : W1.cell? ⟨w1.heap.size, 2, none⟩ = some (.int .i64 (m' : Int)) := hg1.cell (a := ⟨w1.heap.size, 2, none⟩) ((World.grownBy_alloc _ _ none).cell (a := ⟨w1.heap.size, 2, none⟩) (show (w1.alloc (.cells #[.int .i32 c, .bool false, .int .i64 (m' : Int)] 76)).cell? _ = _ from by simp) (by simp)) hneb; have hb2 := grown_below' hbW hBW hownW hg1))
              go_roundw
              case rel =>
                refine ⟨i + m', f', L ++ Lib.encodeRuneZ c, by go_num, hm1, by omega, by omega, ?_, ?_, ?_, hb2⟩
                · rw [Hid, ← HG.out, HE.out, Int.toNat_natCast]
                · rw [Hid, List.length_append]; omega
                · rw [List.length_append, bv_append, show (Lib.encodeRuneZ c).length = (Lib.runeCells c).length by rw [rc_bv, bv_len]]
                  exact own1
              case measure => simp [intOf]; omega
            · have HPB : Hid (pb (c, true, (m' : Int), 0) = [c]) := rfl
              have HV : Hid (readR (c, true, (m' : Int), 0) = .returned (.tuple #[.agg #[.int .i32 c, .bool true, .int .i64 (m' : Int)], .int .i64 0])) := rfl
              have hc3 := hc2 rfl
              rw [HPB.out] at HE hpl
              clear hc2 hrs
              go_wp2_with (first
                | (go_at_call 57; refine (read_any u _ hus).mono ?_; rintro e w1 ⟨rfl, hb1⟩; rw [HX.out, HV.out]; have hownW := (own_below hown hb1).alloc (.cells #[.int .i32 c, .bool true, .int .i64 (m' : Int)] 76); have hbW := (hb.trans (hb1.mono hB)).alloc (by have := hb1.size; omega) (.cells #[.int .i32 c, .bool true, .int .i64 (m' : Int)] 76); have hBW := hbW.size; have hneb := own_ne (own_below hown hb1))
                | (at_builtin; refine Classical.byContradiction fun hcontra => ?_))
              apply hcontra
              clear hcontra
              refine wpList_append_own _ rfl _ _ 35 rfl wz.heap.size 5 i0 (.int .u8 0) 1 1 Try.underlying35 hi hz0 hz1 hz2 rfl (by decide) _ _ _ rfl (hownW.alloc _) ⟨_, 0, none⟩ 1 1 [.int .u8 c] rfl rfl (one_news c w1 _ 5) (by intro a ha; rw [List.mem_singleton] at ha; rw [ha]; rfl) (by unfold maxLen; omega) (by omega) (by have := hBW; simp at this ⊢; omega) ?_
              intro v' W1 own1 hg1 _
              have hpc : W1.cell? ⟨w1.heap.size, 2, none⟩ = some (.int .i64 (m' : Int)) := hg1.cell (a := ⟨w1.heap.size, 2, none⟩) ((World.grownBy_alloc _ _ none).cell (a := ⟨w1.heap.size, 2, none⟩) (show (w1.alloc (.cells #[.int .i32 c, .bool true, .int .i64 (m' : Int)] 76)).cell? _ = _ from by simp) (by simp)) hneb
              have hb2 := grown_below' hbW hBW hownW hg1
              go_wp2
              go_roundw
              case rel =>
                refine ⟨i + m', f', L ++ [c], by go_num, hm1, by omega, by omega, ?_, ?_, ?_, hb2⟩
                · rw [Hid, ← HG.out, HE.out, Int.toNat_natCast]
                · rw [Hid, List.length_append]; simp; omega
                · rw [List.length_append, bv_append]
                  exact own1
              case measure => simp [intOf]; omega
          · have HE := hid_of (bgo_bad s f' i L hlt h34 he)
            rw [HU.out] at HE he
            obtain ⟨⟨c, one, m, er⟩, hx⟩ : ∃ x : Piece, readV u = x := ⟨_, rfl⟩
            rw [hx] at HE he
            simp only at he
            have HX := hid_of hx
            have heb : (er == 0) = false := by rw [beq_eq_false_iff_ne]; exact he
            have HV : Hid (readR (c, one, m, er) = .returned (.tuple #[.agg #[.int .i32 c, .bool one, .int .i64 m], .int .i64 er])) := rfl
            clear hx h34 hrr hrs he
            go_wp2_with (first | (go_at_call 57; refine (read_any u _ hus).mono ?_; rintro e w1 ⟨rfl, hb1⟩; rw [HX.out, HV.out]; have hbW := (hb.trans (hb1.mono hB)).alloc (by have := hb1.size; omega) (.cells #[.int .i32 c, .bool one, .int .i64 m] 76)))
            refine bodyPost_ret (results_tmp3 rfl _ _ _) rfl ?_
            rw [← HG.out, HE.out]
            exact ⟨_, rfl, World.ownsRow_nil _ _ _ _, hbW⟩
      · have HE := hid_of (bgo_end s f i L hlt)
        have hiI : (s.size : Int) ≤ (i : Int) := by omega
        go_wp2
        refine bodyPost_ret (results_tmp3 rfl _ _ _) rfl ?_
        rw [← HG.out, HE.out]
        exact ⟨_, rfl, World.ownsRow_nil _ _ _ _, hb⟩
end Go.Proofs.Ytpndbbepfjocgaa
