import Derived.Test.YtpndbbepfjocgaaCKLt
import Derived.Deep.LoopGhost
import Derived.WalkMore
import Derived.Deep.RegionHeld3
namespace Go.Proofs.Ytpndbbepfjocgaa
open Go.RowKit
set_option maxRecDepth 100000

theorem Try.infoTk : (Try.prog.info? 40).map (fun i => (i.zero, i.size, i.bytes)) = some (some (.agg #[.int .u8 0, .int .i64 0, .string ⟨#[]⟩]), 3, 32) := by kernel_rfl
/-- what the loop of cut keeps -/
def CutI (s : ByteArray) (G : List ByteArray) (w : World) (R : List Tk × Int × Int) (gh : Nat) (v i : Value) (wr : World) : Prop :=
  ∃ (k f : Nat) (L : List Tk), gh = s.size - k ∧ k ≤ s.size ∧ i = .int .i64 k ∧ s.size - k ≤ f ∧ Hid (cutF s G f k L = R) ∧ L.length ≤ k ∧ wr.ownsRow w.heap.size 40 3 v L.length (tv s L) ∧ Below w.heap.size w wr
theorem cutF_step (s : ByteArray) (G : List ByteArray) (f a : Nat) (L : List Tk) (h : a < s.size) (hf : s.size - a ≤ f) : ∃ g, s.size - (a + 1) ≤ g ∧ cutF s G f a L = if (stp s G a).what = 0 then cutF s G g (stp s G a).go L else if (stp s G a).what = 1 then cutF s G g (stp s G a).go (L ++ [((stp s G a).kind, a, (stp s G a).go)]) else ([], (stp s G a).place, (stp s G a).err) := by
  cases f with
  | zero => omega
  | succ f => exact ⟨f, by omega, by simp only [cutF]; rw [if_pos h]⟩
theorem cutF_end (s : ByteArray) (G : List ByteArray) (f a : Nat) (L : List Tk) (h : ¬ a < s.size) : cutF s G f a L = (L, 0, 0) := by
  cases f with
  | zero => rfl
  | succ f => simp only [cutF]; rw [if_neg h]
theorem app3 (W : World) (t : Nat) (x0 x1 x2 : Value) : ∀ j u, [x0, x1, x2][j]? = some u → (W.alloc (.cells #[x0, x1, x2] t)).cell? (Addr.add ⟨W.heap.size, 0, none⟩ j) = some u := by
  intro j u hj
  match j, hj with
  | 0, hj => simp at hj; subst hj; simp [Addr.add]
  | 1, hj => simp at hj; subst hj; simp [Addr.add]
  | 2, hj => simp at hj; subst hj; simp [Addr.add]
theorem one3 (k a : Int) (T : ByteArray) : ∀ u ∈ [Value.int .u8 k, Value.int .i64 a, Value.string T], u.oneCell' = true := by
  intro u hu
  simp at hu
  rcases hu with rfl | rfl | rfl <;> rfl
theorem tok_snoc {s : ByteArray} {w5 : World} {B : Nat} {v' : Value} {L : List Tk} {K k E : Nat} {T : ByteArray} (hT : s.extract k E = T) (h : w5.ownsRow B 40 3 v' (L.length + 1) (tv s L ++ [.int .u8 (K : Int), .int .i64 (k : Int), .string T])) :
    w5.ownsRow B 40 3 v' (L ++ [(K, k, E)]).length (tv s (L ++ [(K, k, E)])) := by
  rw [tv_append, List.length_append, show tv s [(K, k, E)] = [.int .u8 (K : Int), .int .i64 (k : Int), .string T] by rw [← hT]; rfl]
  exact h
theorem tok_below {w wr wt w5 : World} {o : Obj} {v : Value} {n : Nat} {xs : List Value} (hb : Below w.heap.size w wr) (HQ : Below wr.heap.size wr wt) (hown : wr.ownsRow w.heap.size 40 3 v n xs) (hg : (wt.alloc o).grownBy w5 v.ownBlock) : Below w.heap.size w w5 := by
  have h1 : Below w.heap.size w wt := hb.trans (HQ.mono hb.size)
  have h2 := own_below hown HQ
  exact (h1.alloc h1.size _).grown hg (by have := h1.size; simp; omega) (fun j e => (h2.lt j e).1)
set_option maxHeartbeats 16000000 in
theorem cut_any (s : ByteArray) (ao : Option Addr) (c : Nat) (G : List ByteArray) (w : World) (_ : G.length ≤ c) (hl : G.length ≤ 64) (hs : s.size ≤ 524288) (hr : GRd w ao G w.heap.size) :
    Calls Try.prog 22 #[.string s, .slice ao G.length c] w fun e w' => ∃ v, e = .returned (.tuple #[v, .int .i64 (cutV s G).2.1, .int .i64 (cutV s G).2.2]) ∧ w'.ownsRow w.heap.size 40 3 v (cutV s G).1.length (tv s (cutV s G).1) ∧ Below w.heap.size w w' := by
  obtain ⟨i0, hi, hz0, hz1, hz2⟩ := info_parts Try.infoTk
  have hsI : ¬ (524288 : Int) < (s.size : Int) := by omega
  obtain ⟨R, hR⟩ : ∃ R, cutV s G = R := ⟨_, rfl⟩
  rw [hR]
  have HR : Hid (cutF s G s.size 0 [] = R) := by rw [Hid, ← hR, cutV, if_neg (by omega)]
  have HG : Hid (GRd w ao G w.heap.size) := hr
  clear hR hr
  go_enter Try.func22, Try.ntmps22
  go_wp2_with fail
  go_step3
  go_wp2_with fail
  go_step3
  go_wp2_with fail
  go_loopg [7, 8] s.size (fun gh v i wr => CutI s G w R gh v i wr)
  case atStart => exact ⟨0, s.size, [], rfl, by omega, rfl, by omega, HR, by simp, World.ownsRow_nil _ _ _ _, Below.refl _ _⟩
  case round =>
    clear HR
    obtain ⟨k, f, L, hgk, hk, rfl, hf, HK, hLk, hown, hb⟩ := hrel
    have hB := hb.size
    by_cases hlt : k < s.size
    · have hltI : (k : Int) < (s.size : Int) := by omega
      have hkI : (k : Int) ≤ (s.size : Int) := by omega
      obtain ⟨t, ht⟩ : ∃ t, s.extract k s.size = t := ⟨_, rfl⟩
      have hF := fun w => first_any t w
      have HT : Hid (sub s k = t) := ht
      obtain ⟨n, hn⟩ : ∃ n, firstN t = n := ⟨_, rfl⟩
      rw [hn] at hF
      have HN : Hid (firstN t = n) := hn
      clear hn
      obtain ⟨g, hg, hst⟩ := cutF_step s G f k L hlt hf
      rw [Hid, hst] at HK
      clear hst
      by_cases h9 : n = 9
      · subst h9
        have HS : Hid (stp s G k = ⟨0, 0, k + 1, 0, 0⟩) := by rw [Hid, stp, HT.out, HN.out, if_pos (by simp)]
        rw [HS.out, if_pos rfl] at HK
        have HK2 := hidK HK
        clear HK HS
        have HQ : Below wr.heap.size wr wr := Below.refl _ _
        go_wp2_with (first
          | (go_at_call 32; with_reducible refine (hF _).mono ?_; rintro e wq ⟨rfl, hq⟩; replace HQ := HQ.trans (hq.mono HQ.size); clear hq)
          | fail)
        have R1 := own_below hown HQ
        have R2 : Below w.heap.size w _ := hb.trans (HQ.mono hB)
        go_roundg (s.size - (k + 1))
        case measure => omega
        case rel => exact ⟨k + 1, g, L, rfl, by omega, by go_num, by omega, HK2, by omega, R1, R2⟩
      by_cases h13 : n = 13
      · subst h13
        have HS : Hid (stp s G k = ⟨0, 0, k + 1, 0, 0⟩) := by rw [Hid, stp, HT.out, HN.out, if_pos (by simp)]
        rw [HS.out, if_pos rfl] at HK
        have HK2 := hidK HK
        clear HK HS
        have HQ : Below wr.heap.size wr wr := Below.refl _ _
        go_wp2_with (first
          | (go_at_call 32; with_reducible refine (hF _).mono ?_; rintro e wq ⟨rfl, hq⟩; replace HQ := HQ.trans (hq.mono HQ.size); clear hq)
          | fail)
        have R1 := own_below hown HQ
        have R2 : Below w.heap.size w _ := hb.trans (HQ.mono hB)
        go_roundg (s.size - (k + 1))
        case measure => omega
        case rel => exact ⟨k + 1, g, L, rfl, by omega, by go_num, by omega, HK2, by omega, R1, R2⟩
      by_cases h32 : n = 32
      · subst h32
        have HS : Hid (stp s G k = ⟨0, 0, k + 1, 0, 0⟩) := by rw [Hid, stp, HT.out, HN.out, if_pos (by simp)]
        rw [HS.out, if_pos rfl] at HK
        have HK2 := hidK HK
        clear HK HS
        have HQ : Below wr.heap.size wr wr := Below.refl _ _
        go_wp2_with (first
          | (go_at_call 32; with_reducible refine (hF _).mono ?_; rintro e wq ⟨rfl, hq⟩; replace HQ := HQ.trans (hq.mono HQ.size); clear hq)
          | fail)
        have R1 := own_below hown HQ
        have R2 : Below w.heap.size w _ := hb.trans (HQ.mono hB)
        go_roundg (s.size - (k + 1))
        case measure => omega
        case rel => exact ⟨k + 1, g, L, rfl, by omega, by go_num, by omega, HK2, by omega, R1, R2⟩
      by_cases h35 : n = 35
      · subst h35
        have HS : Hid (stp s G k = ⟨0, 0, lnEnd s k, 0, 0⟩) := by rw [Hid, stp, HT.out, HN.out, if_neg (by simp), if_pos rfl]
        rw [HS.out, if_pos rfl] at HK
        have HK2 := hidK HK
        clear HK HS
        have hLi := fun w => lineEnd_any s k w (by omega) (by omega)
        have hbd := lnEnd_bd s k hlt (by have := (first_low s k hlt 35 (by omega) (by omega) (by rw [HT.out, HN.out])).1; omega)
        obtain ⟨hE1, hE2⟩ := hbd
        generalize lnEnd s k = E at *
        have HQ : Below wr.heap.size wr wr := Below.refl _ _
        go_wp2_with (first
          | (go_at_call 32; with_reducible refine (hF _).mono ?_; rintro e wq ⟨rfl, hq⟩; replace HQ := HQ.trans (hq.mono HQ.size); clear hq)
          | (go_at_call 33; with_reducible refine (hLi _).mono ?_; rintro e wq ⟨rfl, hq⟩; subst wq)
          | fail)
        have R1 := own_below hown HQ
        have R2 : Below w.heap.size w _ := hb.trans (HQ.mono hB)
        go_roundg (s.size - (E))
        case measure => omega
        case rel => exact ⟨E, g, L, rfl, by omega, rfl, by omega, HK2, by omega, R1, R2⟩
      by_cases h10 : n = 10
      · subst h10
        have HS : Hid (stp s G k = ⟨1, 6, k + 1, 0, 0⟩) := by rw [Hid, stp, HT.out, HN.out, if_neg (by simp), if_neg (by simp), if_pos rfl]
        rw [HS.out, if_neg (by simp), if_pos rfl] at HK
        have HK2 := hidK HK
        clear HK HS
        obtain ⟨T, hT⟩ : ∃ T, s.extract k (k + 1) = T := ⟨_, rfl⟩
        have hTk : ∀ w, Calls Try.prog 39 #[.string s, .int .i64 (k : Int), .int .i64 ((k : Int) + 1), .int .u8 6] w fun e w' => e = .returned (.agg #[.int .u8 6, .int .i64 (k : Int), .string T]) ∧ Below w.heap.size w w' := fun w => by rw [← hT]; exact tokenOf_any s k (k + 1) 6 w (by omega) (by omega) hs
        have HT2 : Hid (s.extract k (k + 1) = T) := hT
        clear hT
        have HQ : Below wr.heap.size wr wr := Below.refl _ _
        go_wp2_with (first
          | (go_at_call 32; with_reducible refine (hF _).mono ?_; rintro e wq ⟨rfl, hq⟩; replace HQ := HQ.trans (hq.mono HQ.size); clear hq)
          | (go_at_call 39; with_reducible refine (hTk _).mono ?_; rintro e wq ⟨rfl, hq⟩; replace HQ := HQ.trans (hq.mono HQ.size); clear hq)
          | (at_builtin; refine wpList_append_own _ rfl _ _ 22 rfl w.heap.size 40 i0 (.agg #[.int .u8 0, .int .i64 0, .string ⟨#[]⟩]) 3 32 Try.underlying22 hi hz0 hz1 hz2 rfl (by decide) _ _ _ rfl ((own_below hown HQ).alloc _) ⟨_, 0, none⟩ 1 1 [.int .u8 6, .int .i64 (k : Int), .string T] rfl rfl (app3 _ _ _ _ _) (one3 _ _ _) (by unfold maxLen; omega) (by omega) (by have := HQ.size; simp; omega) ?_; intro v' w5 hown' hgrow hnil; clear hnil)
          | fail)
        have R1 := tok_snoc (K := 6) (E := k + 1) HT2.out hown'
        have R2 : Below w.heap.size w _ := tok_below hb HQ hown hgrow
        clear hown' hgrow
        go_roundg (s.size - (k + 1))
        case measure => omega
        case rel => exact ⟨k + 1, g, L ++ [(6, k, k + 1)], rfl, by omega, by go_num, by omega, HK2, by simp; omega, R1, R2⟩
      by_cases h95 : n = 95
      · subst h95
        have HS : Hid (stp s G k = ⟨1, 1, nmEnd s k, 0, 0⟩) := by rw [Hid, stp, HT.out, HN.out, if_neg (by simp), if_neg (by simp), if_neg (by simp), if_pos (by simp)]
        rw [HS.out, if_neg (by simp), if_pos rfl] at HK
        have HK2 := hidK HK
        clear HK HS
        have hNm := fun w => nameEnd_any s k w (by omega) (by omega)
        obtain ⟨hE1, hE2⟩ := nmEnd_bd s k hlt (by rw [HT.out, HN.out]; rfl)
        generalize nmEnd s k = E at *
        obtain ⟨T, hT⟩ : ∃ T, s.extract k (E) = T := ⟨_, rfl⟩
        have hTk : ∀ w, Calls Try.prog 39 #[.string s, .int .i64 (k : Int), .int .i64 ((E : Int)), .int .u8 1] w fun e w' => e = .returned (.agg #[.int .u8 1, .int .i64 (k : Int), .string T]) ∧ Below w.heap.size w w' := fun w => by rw [← hT]; exact tokenOf_any s k (E) 1 w (by omega) (by omega) hs
        have HT2 : Hid (s.extract k (E) = T) := hT
        clear hT
        have HQ : Below wr.heap.size wr wr := Below.refl _ _
        go_wp2_with (first
          | (go_at_call 32; with_reducible refine (hF _).mono ?_; rintro e wq ⟨rfl, hq⟩; replace HQ := HQ.trans (hq.mono HQ.size); clear hq)
          | (go_at_call 35; with_reducible refine (hNm _).mono ?_; rintro e wq ⟨rfl, hq⟩; replace HQ := HQ.trans (hq.mono HQ.size); clear hq)
          | (go_at_call 39; with_reducible refine (hTk _).mono ?_; rintro e wq ⟨rfl, hq⟩; replace HQ := HQ.trans (hq.mono HQ.size); clear hq)
          | (at_builtin; refine wpList_append_own _ rfl _ _ 22 rfl w.heap.size 40 i0 (.agg #[.int .u8 0, .int .i64 0, .string ⟨#[]⟩]) 3 32 Try.underlying22 hi hz0 hz1 hz2 rfl (by decide) _ _ _ rfl ((own_below hown HQ).alloc _) ⟨_, 0, none⟩ 1 1 [.int .u8 1, .int .i64 (k : Int), .string T] rfl rfl (app3 _ _ _ _ _) (one3 _ _ _) (by unfold maxLen; omega) (by omega) (by have := HQ.size; simp; omega) ?_; intro v' w5 hown' hgrow hnil; clear hnil)
          | fail)
        have R1 := tok_snoc (K := 1) (E := E) HT2.out hown'
        have R2 : Below w.heap.size w _ := tok_below hb HQ hown hgrow
        clear hown' hgrow
        go_roundg (s.size - (E))
        case measure => omega
        case rel => exact ⟨E, g, L ++ [(1, k, E)], rfl, by omega, rfl, by omega, HK2, by simp; omega, R1, R2⟩
      have hLe := fun w => letterL_any n w
      have b9 : (n == 9) = false := by simpa using h9
      have b13 : (n == 13) = false := by simpa using h13
      have b32 : (n == 32) = false := by simpa using h32
      by_cases hle : letterL n = true
      · have HS : Hid (stp s G k = ⟨1, 1, nmEnd s k, 0, 0⟩) := by rw [Hid, stp, HT.out, HN.out, if_neg (by simp [h9, h13, h32]), if_neg h35, if_neg h10, if_pos (.inr hle)]
        rw [HS.out, if_neg (by simp), if_pos rfl] at HK
        have HK2 := hidK HK
        clear HK HS
        rw [hle] at hLe
        have hNm := fun w => nameEnd_any s k w (by omega) (by omega)
        obtain ⟨hE1, hE2⟩ := nmEnd_bd s k hlt (by rw [HT.out, HN.out, nameL, hle]; simp)
        generalize nmEnd s k = E at *
        obtain ⟨T, hT⟩ : ∃ T, s.extract k (E) = T := ⟨_, rfl⟩
        have hTk : ∀ w, Calls Try.prog 39 #[.string s, .int .i64 (k : Int), .int .i64 ((E : Int)), .int .u8 1] w fun e w' => e = .returned (.agg #[.int .u8 1, .int .i64 (k : Int), .string T]) ∧ Below w.heap.size w w' := fun w => by rw [← hT]; exact tokenOf_any s k (E) 1 w (by omega) (by omega) hs
        have HT2 : Hid (s.extract k (E) = T) := hT
        clear hT
        have HQ : Below wr.heap.size wr wr := Below.refl _ _
        go_wp2_with (first
          | (go_at_call 32; with_reducible refine (hF _).mono ?_; rintro e wq ⟨rfl, hq⟩; replace HQ := HQ.trans (hq.mono HQ.size); clear hq)
          | (go_at_call 34; with_reducible refine (hLe _).mono ?_; rintro e wq ⟨rfl, hq⟩; subst wq)
          | (go_at_call 35; with_reducible refine (hNm _).mono ?_; rintro e wq ⟨rfl, hq⟩; replace HQ := HQ.trans (hq.mono HQ.size); clear hq)
          | (go_at_call 39; with_reducible refine (hTk _).mono ?_; rintro e wq ⟨rfl, hq⟩; replace HQ := HQ.trans (hq.mono HQ.size); clear hq)
          | (at_builtin; refine wpList_append_own _ rfl _ _ 22 rfl w.heap.size 40 i0 (.agg #[.int .u8 0, .int .i64 0, .string ⟨#[]⟩]) 3 32 Try.underlying22 hi hz0 hz1 hz2 rfl (by decide) _ _ _ rfl ((own_below hown HQ).alloc _) ⟨_, 0, none⟩ 1 1 [.int .u8 1, .int .i64 (k : Int), .string T] rfl rfl (app3 _ _ _ _ _) (one3 _ _ _) (by unfold maxLen; omega) (by omega) (by have := HQ.size; simp; omega) ?_; intro v' w5 hown' hgrow hnil; clear hnil)
          | fail)
        have R1 := tok_snoc (K := 1) (E := E) HT2.out hown'
        have R2 : Below w.heap.size w _ := tok_below hb HQ hown hgrow
        clear hown' hgrow
        go_roundg (s.size - (E))
        case measure => omega
        case rel => exact ⟨E, g, L ++ [(1, k, E)], rfl, by omega, rfl, by omega, HK2, by simp; omega, R1, R2⟩
      have hleF : letterL n = false := by simpa using hle
      rw [hleF] at hLe
      have hDi := fun w => digitL_any n w
      by_cases hdi : digitL n = true
      · have HS : Hid (stp s G k = ⟨1, 2, fgEnd s k, 0, 0⟩) := by rw [Hid, stp, HT.out, HN.out, if_neg (by simp [h9, h13, h32]), if_neg h35, if_neg h10, if_neg (by simp [h95, hleF]), if_pos hdi]
        rw [HS.out, if_neg (by simp), if_pos rfl] at HK
        have HK2 := hidK HK
        clear HK HS
        rw [hdi] at hDi
        have hFi := fun w => figureEnd_any s k w hlt (by omega)
        obtain ⟨hE1, hE2⟩ := fgEnd_bd s k hlt
        generalize fgEnd s k = E at *
        obtain ⟨T, hT⟩ : ∃ T, s.extract k (E) = T := ⟨_, rfl⟩
        have hTk : ∀ w, Calls Try.prog 39 #[.string s, .int .i64 (k : Int), .int .i64 ((E : Int)), .int .u8 2] w fun e w' => e = .returned (.agg #[.int .u8 2, .int .i64 (k : Int), .string T]) ∧ Below w.heap.size w w' := fun w => by rw [← hT]; exact tokenOf_any s k (E) 2 w (by omega) (by omega) hs
        have HT2 : Hid (s.extract k (E) = T) := hT
        clear hT
        have HQ : Below wr.heap.size wr wr := Below.refl _ _
        go_wp2_with (first
          | (go_at_call 32; with_reducible refine (hF _).mono ?_; rintro e wq ⟨rfl, hq⟩; replace HQ := HQ.trans (hq.mono HQ.size); clear hq)
          | (go_at_call 34; with_reducible refine (hLe _).mono ?_; rintro e wq ⟨rfl, hq⟩; subst wq)
          | (go_at_call 36; with_reducible refine (hDi _).mono ?_; rintro e wq ⟨rfl, hq⟩; subst wq)
          | (go_at_call 37; with_reducible refine (hFi _).mono ?_; rintro e wq ⟨rfl, hq⟩; subst wq)
          | (go_at_call 39; with_reducible refine (hTk _).mono ?_; rintro e wq ⟨rfl, hq⟩; replace HQ := HQ.trans (hq.mono HQ.size); clear hq)
          | (at_builtin; refine wpList_append_own _ rfl _ _ 22 rfl w.heap.size 40 i0 (.agg #[.int .u8 0, .int .i64 0, .string ⟨#[]⟩]) 3 32 Try.underlying22 hi hz0 hz1 hz2 rfl (by decide) _ _ _ rfl ((own_below hown HQ).alloc _) ⟨_, 0, none⟩ 1 1 [.int .u8 2, .int .i64 (k : Int), .string T] rfl rfl (app3 _ _ _ _ _) (one3 _ _ _) (by unfold maxLen; omega) (by omega) (by have := HQ.size; simp; omega) ?_; intro v' w5 hown' hgrow hnil; clear hnil)
          | fail)
        have R1 := tok_snoc (K := 2) (E := E) HT2.out hown'
        have R2 : Below w.heap.size w _ := tok_below hb HQ hown hgrow
        clear hown' hgrow
        go_roundg (s.size - (E))
        case measure => omega
        case rel => exact ⟨E, g, L ++ [(2, k, E)], rfl, by omega, rfl, by omega, HK2, by simp; omega, R1, R2⟩
      have hdiF : digitL n = false := by simpa using hdi
      rw [hdiF] at hDi
      by_cases h34 : n = 34
      · have HS : Hid (stp s G k = (if (litV s k).2.2.2 = 0 then ⟨1, (litV s k).1, (litV s k).2.1, 0, 0⟩ else ⟨2, 0, 0, (litV s k).2.2.1, (litV s k).2.2.2⟩)) := by rw [Hid, stp, HT.out, HN.out, if_neg (by simp [h9, h13, h32]), if_neg h35, if_neg h10, if_neg (by simp [h95, hleF]), if_neg (by simp [hdiF]), if_pos (by simp [h34])]
        subst h34
        have hLt := fun w => literalAt_any s k w hlt hs
        have hbd := litV_bd s k hlt
        obtain ⟨⟨K, E, pl, er⟩, hv⟩ : ∃ x, litV s k = x := ⟨_, rfl⟩
        rw [hv] at hLt hbd HS
        clear hv
        simp only at hbd HS
        by_cases her : er = 0
        · subst her
          rw [HS.out, if_pos rfl, if_neg (by simp), if_pos rfl] at HK
          have HK2 := hidK HK
          obtain ⟨hE1, hE2, hKK⟩ := hbd.1 rfl
          have hK3 : K ≤ 4 := by omega
          clear HK HS hbd hKK
          obtain ⟨T, hT⟩ : ∃ T, s.extract k (E) = T := ⟨_, rfl⟩
          have hTk : ∀ w, Calls Try.prog 39 #[.string s, .int .i64 (k : Int), .int .i64 ((E : Int)), .int .u8 K] w fun e w' => e = .returned (.agg #[.int .u8 K, .int .i64 (k : Int), .string T]) ∧ Below w.heap.size w w' := fun w => by rw [← hT]; exact tokenOf_any s k (E) K w (by omega) (by omega) hs
          have HT2 : Hid (s.extract k (E) = T) := hT
          clear hT
          have HQ : Below wr.heap.size wr wr := Below.refl _ _
          go_wp2_with (first
            | (go_at_call 32; with_reducible refine (hF _).mono ?_; rintro e wq ⟨rfl, hq⟩; replace HQ := HQ.trans (hq.mono HQ.size); clear hq)
            | (go_at_call 34; with_reducible refine (hLe _).mono ?_; rintro e wq ⟨rfl, hq⟩; subst wq)
            | (go_at_call 36; with_reducible refine (hDi _).mono ?_; rintro e wq ⟨rfl, hq⟩; subst wq)
            | (go_at_call 38; with_reducible refine (hLt _).mono ?_; rintro e wq ⟨rfl, hq⟩; replace HQ := HQ.trans (hq.mono HQ.size); clear hq)
            | (go_at_call 39; with_reducible refine (hTk _).mono ?_; rintro e wq ⟨rfl, hq⟩; replace HQ := HQ.trans (hq.mono HQ.size); clear hq)
            | (at_builtin; refine wpList_append_own _ rfl _ _ 22 rfl w.heap.size 40 i0 (.agg #[.int .u8 0, .int .i64 0, .string ⟨#[]⟩]) 3 32 Try.underlying22 hi hz0 hz1 hz2 rfl (by decide) _ _ _ rfl ((own_below hown HQ).alloc _) ⟨_, 0, none⟩ 1 1 [.int .u8 K, .int .i64 (k : Int), .string T] rfl rfl (app3 _ _ _ _ _) (one3 _ _ _) (by unfold maxLen; omega) (by omega) (by have := HQ.size; simp; omega) ?_; intro v' w5 hown' hgrow hnil; clear hnil)
            | fail)
          have R1 := tok_snoc (K := K) (E := E) HT2.out hown'
          have R2 : Below w.heap.size w _ := tok_below hb HQ hown hgrow
          clear hown' hgrow
          go_roundg (s.size - (E))
          case measure => omega
          case rel => exact ⟨E, g, L ++ [(K, k, E)], rfl, by omega, rfl, by omega, HK2, by simp; omega, R1, R2⟩
        · rw [HS.out, if_neg her, if_neg (by simp), if_neg (by simp)] at HK
          have HK2 := hidK HK
          clear HK HS hbd
          have HQ : Below wr.heap.size wr wr := Below.refl _ _
          go_wp2_with (first
            | (go_at_call 32; with_reducible refine (hF _).mono ?_; rintro e wq ⟨rfl, hq⟩; replace HQ := HQ.trans (hq.mono HQ.size); clear hq)
            | (go_at_call 34; with_reducible refine (hLe _).mono ?_; rintro e wq ⟨rfl, hq⟩; subst wq)
            | (go_at_call 36; with_reducible refine (hDi _).mono ?_; rintro e wq ⟨rfl, hq⟩; subst wq)
            | (go_at_call 38; with_reducible refine (hLt _).mono ?_; rintro e wq ⟨rfl, hq⟩; replace HQ := HQ.trans (hq.mono HQ.size); clear hq)
            | fail)
          change bodyPost Try.prog Try.f22 (fun e w' => ∃ v, e = .returned (.tuple #[v, .int .i64 R.2.1, .int .i64 R.2.2]) ∧ w'.ownsRow w.heap.size 40 3 v R.1.length (tv s R.1) ∧ Below w.heap.size w w') Exit.ret _ _
          refine bodyPost_ret (results_tmp3 rfl _ _ _) rfl ?_
          exact ⟨_, by rw [← HK2.out]; rfl, by rw [← HK2.out]; exact World.ownsRow_nil _ _ _ _, hb.trans (HQ.mono hB)⟩
      by_cases h39 : n = 39
      · have HS : Hid (stp s G k = (if (litV s k).2.2.2 = 0 then ⟨1, (litV s k).1, (litV s k).2.1, 0, 0⟩ else ⟨2, 0, 0, (litV s k).2.2.1, (litV s k).2.2.2⟩)) := by rw [Hid, stp, HT.out, HN.out, if_neg (by simp [h9, h13, h32]), if_neg h35, if_neg h10, if_neg (by simp [h95, hleF]), if_neg (by simp [hdiF]), if_pos (by simp [h39])]
        subst h39
        have hLt := fun w => literalAt_any s k w hlt hs
        have hbd := litV_bd s k hlt
        obtain ⟨⟨K, E, pl, er⟩, hv⟩ : ∃ x, litV s k = x := ⟨_, rfl⟩
        rw [hv] at hLt hbd HS
        clear hv
        simp only at hbd HS
        by_cases her : er = 0
        · subst her
          rw [HS.out, if_pos rfl, if_neg (by simp), if_pos rfl] at HK
          have HK2 := hidK HK
          obtain ⟨hE1, hE2, hKK⟩ := hbd.1 rfl
          have hK3 : K ≤ 4 := by omega
          clear HK HS hbd hKK
          obtain ⟨T, hT⟩ : ∃ T, s.extract k (E) = T := ⟨_, rfl⟩
          have hTk : ∀ w, Calls Try.prog 39 #[.string s, .int .i64 (k : Int), .int .i64 ((E : Int)), .int .u8 K] w fun e w' => e = .returned (.agg #[.int .u8 K, .int .i64 (k : Int), .string T]) ∧ Below w.heap.size w w' := fun w => by rw [← hT]; exact tokenOf_any s k (E) K w (by omega) (by omega) hs
          have HT2 : Hid (s.extract k (E) = T) := hT
          clear hT
          have HQ : Below wr.heap.size wr wr := Below.refl _ _
          go_wp2_with (first
            | (go_at_call 32; with_reducible refine (hF _).mono ?_; rintro e wq ⟨rfl, hq⟩; replace HQ := HQ.trans (hq.mono HQ.size); clear hq)
            | (go_at_call 34; with_reducible refine (hLe _).mono ?_; rintro e wq ⟨rfl, hq⟩; subst wq)
            | (go_at_call 36; with_reducible refine (hDi _).mono ?_; rintro e wq ⟨rfl, hq⟩; subst wq)
            | (go_at_call 38; with_reducible refine (hLt _).mono ?_; rintro e wq ⟨rfl, hq⟩; replace HQ := HQ.trans (hq.mono HQ.size); clear hq)
            | (go_at_call 39; with_reducible refine (hTk _).mono ?_; rintro e wq ⟨rfl, hq⟩; replace HQ := HQ.trans (hq.mono HQ.size); clear hq)
            | (at_builtin; refine wpList_append_own _ rfl _ _ 22 rfl w.heap.size 40 i0 (.agg #[.int .u8 0, .int .i64 0, .string ⟨#[]⟩]) 3 32 Try.underlying22 hi hz0 hz1 hz2 rfl (by decide) _ _ _ rfl ((own_below hown HQ).alloc _) ⟨_, 0, none⟩ 1 1 [.int .u8 K, .int .i64 (k : Int), .string T] rfl rfl (app3 _ _ _ _ _) (one3 _ _ _) (by unfold maxLen; omega) (by omega) (by have := HQ.size; simp; omega) ?_; intro v' w5 hown' hgrow hnil; clear hnil)
            | fail)
          have R1 := tok_snoc (K := K) (E := E) HT2.out hown'
          have R2 : Below w.heap.size w _ := tok_below hb HQ hown hgrow
          clear hown' hgrow
          go_roundg (s.size - (E))
          case measure => omega
          case rel => exact ⟨E, g, L ++ [(K, k, E)], rfl, by omega, rfl, by omega, HK2, by simp; omega, R1, R2⟩
        · rw [HS.out, if_neg her, if_neg (by simp), if_neg (by simp)] at HK
          have HK2 := hidK HK
          clear HK HS hbd
          have HQ : Below wr.heap.size wr wr := Below.refl _ _
          go_wp2_with (first
            | (go_at_call 32; with_reducible refine (hF _).mono ?_; rintro e wq ⟨rfl, hq⟩; replace HQ := HQ.trans (hq.mono HQ.size); clear hq)
            | (go_at_call 34; with_reducible refine (hLe _).mono ?_; rintro e wq ⟨rfl, hq⟩; subst wq)
            | (go_at_call 36; with_reducible refine (hDi _).mono ?_; rintro e wq ⟨rfl, hq⟩; subst wq)
            | (go_at_call 38; with_reducible refine (hLt _).mono ?_; rintro e wq ⟨rfl, hq⟩; replace HQ := HQ.trans (hq.mono HQ.size); clear hq)
            | fail)
          change bodyPost Try.prog Try.f22 (fun e w' => ∃ v, e = .returned (.tuple #[v, .int .i64 R.2.1, .int .i64 R.2.2]) ∧ w'.ownsRow w.heap.size 40 3 v R.1.length (tv s R.1) ∧ Below w.heap.size w w') Exit.ret _ _
          refine bodyPost_ret (results_tmp3 rfl _ _ _) rfl ?_
          exact ⟨_, by rw [← HK2.out]; rfl, by rw [← HK2.out]; exact World.ownsRow_nil _ _ _ _, hb.trans (HQ.mono hB)⟩
      have b34 : (n == 34) = false := by simpa using h34
      have b39 : (n == 39) = false := by simpa using h39
      have HS : Hid (stp s G k = (if sgL s G k = 0 then ⟨2, 0, 0, k, if n < 0 then 13 else 10⟩ else ⟨1, 5, k + sgL s G k, 0, 0⟩)) := by rw [Hid, stp, HT.out, HN.out, if_neg (by simp [h9, h13, h32]), if_neg h35, if_neg h10, if_neg (by simp [h95, hleF]), if_neg (by simp [hdiF]), if_neg (by simp [h34, h39])]
      have HQ : Below wr.heap.size wr wr := Below.refl _ _
      go_wp2_with (first
        | (go_at_call 32; with_reducible refine (hF _).mono ?_; rintro e wq ⟨rfl, hq⟩; replace HQ := HQ.trans (hq.mono HQ.size); clear hq)
        | (go_at_call 34; with_reducible refine (hLe _).mono ?_; rintro e wq ⟨rfl, hq⟩; subst wq)
        | (go_at_call 36; with_reducible refine (hDi _).mono ?_; rintro e wq ⟨rfl, hq⟩; subst wq)
        | fail)
      have hownq := own_below hown HQ
      have hbq : Below w.heap.size w wq := hb.trans (HQ.mono hB)
      have hBq := hbq.size
      have hGq : GRd wq ao G wq.heap.size := (HG.out.below hbq).mono hBq
      have hCn : ∀ x, Calls Try.prog 21 #[.slice ao G.length c, .string x] wq fun e w' => e = .returned (.bool (Lib.containsS G x)) ∧ w' = wq := fun x => by
        have h := contains_any ao G G.length c x wq _ (Nat.le_refl _) hl hGq
        rwa [List.take_length] at h
      have HK2 := hidK HK
      clear HK hownq hGq hLe hDi hF
      generalize u7 = v0 at *
      generalize gk = g0 at *
      obtain ⟨M, hM⟩ : ∃ M, min 3 (s.size - k) = M := ⟨_, rfl⟩
      have hMI : min 3 ((s.size : Int) - (k : Int)) = (M : Int) := by omega
      rw [hMI]
      have HM : Hid (sgF s G k M = sgL s G k) := by rw [Hid, ← hM]; rfl
      clear hMI
      go_loopg [7, 8, 14] M (fun gh v2 i z wi => ∃ m : Nat, gh = m ∧ v2 = v0 ∧ i = .int .i64 k ∧ z = .int .i64 m ∧ m ≤ M ∧ wi = wq ∧ Hid (sgF s G k m = sgL s G k))
      case atStart => exact ⟨M, rfl, rfl, rfl, rfl, Nat.le_refl _, rfl, HM⟩
      case round =>
        clear HM
        obtain ⟨m, hgm, rfl, rfl, rfl, hmM, rfl, HM⟩ := hrel
        by_cases hm0 : m = 0
        · subst hm0
          have HSg : Hid (sgL s G k = 0) := HM.out.symm
          have HR : Hid (([], (k : Int), if n < 0 then 13 else 10) = R) := by
            rw [Hid, ← HK2.out, HS.out, HSg.out]; rfl
          clear HM HS HK2 hCn
          by_cases hn0 : n < 0
          · rw [if_pos hn0] at HR
            go_wp2_with fail
            change bodyPost Try.prog Try.f22 (fun e w' => ∃ v, e = .returned (.tuple #[v, .int .i64 R.2.1, .int .i64 R.2.2]) ∧ w'.ownsRow w.heap.size 40 3 v R.1.length (tv s R.1) ∧ Below w.heap.size w w') Exit.ret _ _
            refine bodyPost_ret (results_tmp3 rfl _ _ _) rfl ?_
            exact ⟨_, by rw [← HR.out]; rfl, by rw [← HR.out]; exact World.ownsRow_nil _ _ _ _, hbq⟩
          · rw [if_neg hn0] at HR
            go_wp2_with fail
            change bodyPost Try.prog Try.f22 (fun e w' => ∃ v, e = .returned (.tuple #[v, .int .i64 R.2.1, .int .i64 R.2.2]) ∧ w'.ownsRow w.heap.size 40 3 v R.1.length (tv s R.1) ∧ Below w.heap.size w w') Exit.ret _ _
            refine bodyPost_ret (results_tmp3 rfl _ _ _) rfl ?_
            exact ⟨_, by rw [← HR.out]; rfl, by rw [← HR.out]; exact World.ownsRow_nil _ _ _ _, hbq⟩
        · have hm0I : (0 : Int) < (m : Int) := by omega
          obtain ⟨m', hm'⟩ : ∃ m', m = m' + 1 := ⟨m - 1, by omega⟩
          have hm1 : (m : Int) - 1 = (m' : Int) := by omega
          have hkm : k + m ≤ s.size := by omega
          have hkmI : (k : Int) + (m : Int) ≤ (s.size : Int) := by omega
          have hkmJ : (k : Int) ≤ (k : Int) + (m : Int) := by omega
          obtain ⟨T, hT⟩ : ∃ T, s.extract k (k + m) = T := ⟨_, rfl⟩
          have hTn : ((k : Int) + (m : Int)).toNat = k + m := by omega
          have hC := hCn T
          have HU : Hid (sgF s G k m = if Lib.containsS G T = true then m else sgF s G k m') := by rw [Hid, ← hT, hm']; rfl
          clear hCn
          cases hct : Lib.containsS G T with
          | false =>
            rw [hct] at hC
            have HM2 : Hid (sgF s G k m' = sgL s G k) := by rw [Hid, ← HM.out, HU.out, hct, if_neg (by simp)]
            clear HM HU HK2 HS hm'
            go_wp2_with (first
              | (go_at_call 21; with_reducible refine hC.mono ?_; rintro e wz ⟨rfl, hz⟩; subst wz)
              | fail)
            go_roundg m'
            case measure => omega
            case rel => exact ⟨m', rfl, rfl, rfl, rfl, by omega, rfl, HM2⟩
          | true =>
            rw [hct] at hC
            have HSg : Hid (sgL s G k = m) := by rw [Hid, ← HM.out, HU.out, hct, if_pos rfl]
            have HK3 : Hid (cutF s G g (k + m) (L ++ [(5, k, k + m)]) = R) := by
              rw [Hid, ← HK2.out, HS.out, HSg.out, if_neg hm0, if_neg (by simp), if_pos rfl]
            clear HM HU HK2 HS hm' HSg
            have hTk : ∀ w, Calls Try.prog 39 #[.string s, .int .i64 (k : Int), .int .i64 ((k : Int) + (m : Int)), .int .u8 5] w fun e w' => e = .returned (.agg #[.int .u8 5, .int .i64 (k : Int), .string T]) ∧ Below w.heap.size w w' := fun w => by
              rw [← hT]; exact tokenOf_any s k (k + m) 5 w (by omega) (by omega) hs
            have HT2 : Hid (s.extract k (k + m) = T) := hT
            go_wp2_with (first
              | (go_at_call 21; with_reducible refine hC.mono ?_; rintro e wz ⟨rfl, hz⟩; subst wz)
              | (go_at_call 39; with_reducible refine (hTk _).mono ?_; rintro e wq ⟨rfl, hq⟩; replace HQ := HQ.trans (hq.mono HQ.size); clear hq)
              | (at_builtin; refine wpList_append_own _ rfl _ _ 22 rfl w.heap.size 40 i0 (.agg #[.int .u8 0, .int .i64 0, .string ⟨#[]⟩]) 3 32 Try.underlying22 hi hz0 hz1 hz2 rfl (by decide) _ _ _ rfl ((own_below hown HQ).alloc _) ⟨_, 0, none⟩ 1 1 [.int .u8 5, .int .i64 (k : Int), .string T] rfl rfl (app3 _ _ _ _ _) (one3 _ _ _) (by unfold maxLen; omega) (by omega) (by have := HQ.size; simp; omega) ?_; intro v' w5 hown' hgrow hnil; clear hnil)
              | fail)
            have R1 := tok_snoc (K := 5) (E := k + m) HT2.out hown'
            have R2 : Below w.heap.size w _ := tok_below hb HQ hown hgrow
            clear hown' hgrow
            go_roundg (s.size - (k + m))
            case measure => omega
            case rel => exact ⟨k + m, g, L ++ [(5, k, k + m)], rfl, by omega, by go_num, by omega, HK3, by simp; omega, R1, R2⟩
    · rw [Hid, cutF_end s G f k L hlt] at HK
      have hltI : ¬ (k : Int) < (s.size : Int) := by omega
      have HK2 := hidK HK
      clear HK
      go_wp2_with fail
      refine bodyPost_ret (results_tmp3 rfl _ _ _) rfl ?_
      exact ⟨_, by rw [← HK2.out]; rfl, by rw [← HK2.out]; exact hown, hb⟩
end Go.Proofs.Ytpndbbepfjocgaa
