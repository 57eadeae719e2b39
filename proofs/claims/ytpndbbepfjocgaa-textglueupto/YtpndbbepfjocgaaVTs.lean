import Derived.Test.YtpndbbepfjocgaaUTk
import Derived.Test.YtpndbbepfjocgaaVBs
namespace Go.Proofs.Ytpndbbepfjocgaa
open Go.RowKit
set_option maxRecDepth 100000

theorem tkp_out {s : ByteArray} {G : List ByteArray} {a : Nat} {e : Ending} (h : TkP s G a e) : ∃ (k x : Nat) (T : ByteArray) (p er : Int), e = .returned (.tuple #[.agg #[.int .u8 k, .int .i64 x, .string T], .int .i64 p, .int .i64 er]) ∧
  ((er = 0 ∧ (stp s G a).what = 1 ∧ k = (stp s G a).kind ∧ x = a ∧ T = s.extract a (stp s G a).go) ∨ (er ≠ 0 ∧ (stp s G a).what = 2 ∧ er = (stp s G a).err ∧ p = (stp s G a).place)) := h
theorem utok_one (s : ByteArray) (a : Nat) (ao : Option Addr) (c : Nat) (G : List ByteArray) (w : World) (hm : mayB G = true) (hTb : Tb s a) (hr : GRd w ao G w.heap.size) (ha : a < s.size) (hs : s.size ≤ 524288) (h1 : (stp s G a).what = 1) :
    Calls Try.prog 19 #[.string s, .int .i64 a, .slice ao G.length c] w fun e w' => ∃ p : Int, e = .returned (.tuple #[.agg #[.int .u8 (stp s G a).kind, .int .i64 a, .string (s.extract a (stp s G a).go)], .int .i64 p, .int .i64 0]) ∧ Below w.heap.size w w' := by
  refine (utoken_any s a ao c G w hm hTb hr ha hs).mono fun e w' ⟨h, hb⟩ => ?_
  obtain ⟨k, x, T, p, er, rfl, ⟨rfl, _, rfl, rfl, rfl⟩ | ⟨_, h2, _⟩⟩ := tkp_out h
  · exact ⟨p, rfl, hb⟩
  · omega
theorem utok_two (s : ByteArray) (a : Nat) (ao : Option Addr) (c : Nat) (G : List ByteArray) (w : World) (hm : mayB G = true) (hTb : Tb s a) (hr : GRd w ao G w.heap.size) (ha : a < s.size) (hs : s.size ≤ 524288) (h1 : (stp s G a).what = 2) :
    Calls Try.prog 19 #[.string s, .int .i64 a, .slice ao G.length c] w fun e w' => (∃ (k x : Nat) (T : ByteArray), e = .returned (.tuple #[.agg #[.int .u8 k, .int .i64 x, .string T], .int .i64 (stp s G a).place, .int .i64 (stp s G a).err])) ∧ (stp s G a).err ≠ 0 ∧ Below w.heap.size w w' := by
  refine (utoken_any s a ao c G w hm hTb hr ha hs).mono fun e w' ⟨h, hb⟩ => ?_
  obtain ⟨k, x, T, p, er, rfl, ⟨_, h2, _⟩ | ⟨h3, _, rfl, rfl⟩⟩ := tkp_out h
  · omega
  · exact ⟨⟨k, x, T, rfl⟩, h3, hb⟩
theorem psp_out {s : ByteArray} {i : Nat} {w w' : World} {e : Ending} (h : PsP s i w w' e) : ∃ k : Nat, e = .returned (.int .i64 k) ∧ Pz s i k ∧ Tb s k ∧ w' = w := h
theorem tb_what {s : ByteArray} {G : List ByteArray} {a : Nat} (ha : a < s.size) (h : Tb s a) : (stp s G a).what = 1 ∨ (stp s G a).what = 2 := by
  obtain ⟨t1, t2, t3, t4⟩ := h ha
  have f := first_sub s a ha
  have n9 := num_byte ha (n := 9) (by omega)
  have n13 := num_byte ha (n := 13) (by omega)
  have n32 := num_byte ha (n := 32) (by omega)
  have n35 := num_byte ha (n := 35) (by omega)
  unfold stp
  rw [f, if_neg (by omega), if_neg (by omega)]
  split
  · exact .inl rfl
  · split
    · exact .inl rfl
    · split
      · exact .inl rfl
      · split
        · split
          · exact .inl rfl
          · exact .inr rfl
        · split
          · exact .inr rfl
          · exact .inl rfl
theorem app3n (W : World) (n t : Nat) (hn : W.heap.size = n) (x0 x1 x2 : Value) : ∀ j u, [x0, x1, x2][j]? = some u → (W.alloc (.cells #[x0, x1, x2] t)).cell? (Addr.add ⟨n, 0, none⟩ j) = some u := by
  subst hn
  exact app3 W t x0 x1 x2
theorem uts_kept {wr w5 : World} {o o2 : Obj} {B n : Nat} {v : Value} {xs : List Value} (hown : wr.ownsRow B 40 3 v n xs) (hg : ((wr.alloc o).alloc o2).grownBy w5 v.ownBlock) : w5.heap[wr.heap.size]? = some o := by
  rw [hg.block wr.heap.size (by simp; omega) (fun e => by have := (hown.lt _ e.symm).2; omega), Below.heap_alloc _ _ _ (by simp)]
  exact heap_alloc_last wr o
theorem uts_cell {w5 : World} {b : Nat} {K a : Int} {T : ByteArray} (h : w5.heap[b]? = some (.cells #[.int .u8 K, .int .i64 a, .string T] 40)) : w5.cell? ⟨b, 2, none⟩ = some (.string T) := by
  simp [World.cell?, h]
theorem uts_below {w wr w5 : World} {o o2 : Obj} {n : Nat} {v : Value} {xs : List Value} (hb : Below w.heap.size w wr) (hown : wr.ownsRow w.heap.size 40 3 v n xs) (hg : ((wr.alloc o).alloc o2).grownBy w5 v.ownBlock) : Below w.heap.size w w5 := by
  have h1 : Below w.heap.size w (wr.alloc o) := hb.alloc hb.size _
  have h2 : Below w.heap.size w ((wr.alloc o).alloc o2) := h1.alloc h1.size _
  exact h2.grown hg h2.size (fun j e => (hown.lt j e).1)
def TsI (s : ByteArray) (G : List ByteArray) (w : World) (R : List Tk × Int × Int) (v i : Value) (wr : World) : Prop :=
  ∃ (k f : Nat) (L : List Tk), k ≤ s.size ∧ i = .int .i64 k ∧ s.size - k ≤ f ∧ Hid (cutF s G f k L = R) ∧ Hid (Tb s k) ∧ L.length ≤ k ∧ wr.ownsRow w.heap.size 40 3 v L.length (tv s L) ∧ Below w.heap.size w wr
set_option maxHeartbeats 8000000 in
theorem rtok_mid (s : ByteArray) (ao : Option Addr) (c : Nat) (G : List ByteArray) (w : World) (hc : G.length ≤ c) (hg : ∀ x ∈ G, x.size ≤ 9223372036854775807) (hm : mayB G = true) (hs : s.size ≤ 524288) (hr : GRd w ao G w.heap.size) :
    Calls Try.prog 12 #[.string s, .slice ao G.length c] w fun e w' => ∃ v, e = .returned (.tuple #[v, .int .i64 (cutV s G).2.1, .int .i64 (cutV s G).2.2]) ∧ w'.ownsRow w.heap.size 40 3 v (cutV s G).1.length (tv s (cutV s G).1) ∧ Below w.heap.size w w' := by
  have h64 : G.length ≤ 64 := by
    unfold mayB at hm
    simp only [Bool.and_eq_true, decide_eq_true_eq] at hm
    exact hm.1
  have hM := usigns_any ao c G w hc (by omega) hg hr
  rw [hm] at hM
  obtain ⟨R, hR⟩ : ∃ R, cutV s G = R := ⟨_, rfl⟩
  have HR : Hid (cutF s G s.size 0 [] = R) := by rw [Hid, ← hR, cutV, if_neg (by omega)]
  rw [hR]
  have hsI : ¬ (524288 : Int) < (s.size : Int) := by omega
  have hP := fun a w1 (h : a ≤ s.size) => passed_any s a w1 h (by omega)
  have hP0 : ∀ w1, Calls Try.prog 18 #[.string s, .int .i64 0] w1 fun e w' => PsP s 0 w1 w' e := fun w1 => hP 0 w1 (Nat.zero_le _)
  obtain ⟨i0, hi, hz0, hz1, hz2⟩ := info_parts Try.infoTk
  have HG : Hid (GRd w ao G w.heap.size) := hr
  have HP := hidK hP
  clear hR hr hg hP
  go_enter Try.func12, Try.ntmps12
  go_wp2_with (first
    | (go_at_call 11; with_reducible refine hM.mono ?_; rintro e wq ⟨rfl, m, hq⟩; subst wq)
    | (go_at_call 18; with_reducible refine (hP0 _).mono ?_; rintro e wq hps; obtain ⟨k0, rfl, hpz, htb, hq⟩ := psp_out hps; subst wq)
    | fail)
  clear hM hP0 hps
  go_loopw [7, 8] (fun v i wr => TsI s G w R v i wr) (fun _ i _ => s.size - (intOf i).toNat)
  case atStart =>
    obtain ⟨q1, q2, q3⟩ := hpz
    obtain ⟨g, hg, e⟩ := q3 G s.size [] (by omega)
    exact ⟨k0, g, [], q2, rfl, hg, by rw [Hid, ← e]; exact HR.out, htb, by simp, World.ownsRow_nil _ _ _ _, below_drewN (Below.refl _ _) m⟩
  case round =>
    clear HR
    obtain ⟨k, f, L, hk, rfl, hf, HK, HTb, hLk, hown, hb⟩ := hrel
    have hbs := hb.size
    by_cases hlt : k < s.size
    · have hltI : (k : Int) < (s.size : Int) := by omega
      have HGr : Hid (∀ w1, Below w.heap.size w w1 → GRd w1 ao G w1.heap.size) := fun w1 h1 => (HG.out.below h1).mono h1.size
      rcases tb_what (G := G) hlt HTb.out with hw | hw
      · have hT1 := fun w1 (h1 : Below w.heap.size w w1) => utok_one s k ao c G w1 hm HTb.out (HGr.out w1 h1) hlt hs hw
        obtain ⟨b1, b2⟩ : k < (stp s G k).go ∧ (stp s G k).go ≤ s.size := by
          rcases stp_cases s G k hlt with ⟨h1, _⟩ | ⟨_, h2, h3, _⟩ | ⟨h1, _⟩
          · omega
          · exact ⟨h2, h3⟩
          · omega
        obtain ⟨g, hg, hst⟩ : ∃ g, s.size - (stp s G k).go ≤ g ∧ cutF s G g (stp s G k).go (L ++ [((stp s G k).kind, k, (stp s G k).go)]) = R := by
          have := HK.out
          cases f with
          | zero => omega
          | succ f => rw [cutF, if_pos hlt, if_neg (by omega), if_pos hw] at this; exact ⟨f, by omega, this⟩
        have HSt := hidK hst
        clear HK hst hw
        generalize (stp s G k).go = E at *
        generalize (stp s G k).kind = K at *
        obtain ⟨T, hT⟩ : ∃ T, s.extract k E = T := ⟨_, rfl⟩
        have hTz : T.size = E - k := by rw [← hT, ByteArray.size_extract]; omega
        have HTx := hidK hT
        rw [hT] at hT1
        have hPE := HP.out E
        have hkT : (k : Int) + (T.size : Int) = (E : Int) := by omega
        clear hT hTz hpz htb
        go_wp2_with (first
          | (go_at_call 19; with_reducible refine (hT1 _ hb).mono ?_; rintro e wq ⟨p, rfl, hq⟩; have hownq := own_below hown hq; have hbq := hb.trans (hq.mono hb.size); have hbqs := hbq.size)
          | (at_builtin; refine wpList_append_own _ rfl _ _ 22 rfl w.heap.size 40 i0 (.agg #[.int .u8 0, .int .i64 0, .string ⟨#[]⟩]) 3 32 Try.underlying22 hi hz0 hz1 hz2 rfl (by decide) _ _ _ rfl ((hownq.alloc _).alloc _) ⟨_, 0, none⟩ 1 1 [.int .u8 (K : Int), .int .i64 (k : Int), .string T] rfl rfl (app3n _ _ _ (World.size_alloc _ _) _ _ _) (one3 _ _ _) (by unfold maxLen; omega) (by omega) (gl_base hbqs) ?_; intro v' w5 hown' hgrow hnil; clear hnil; have d2 := uts_cell (uts_kept hownq hgrow); have hb5 := uts_below hbq hownq hgrow; have hown6 := tok_snoc HTx.out hown'; clear hown' hgrow)
          | (go_at_call 18; with_reducible refine (hPE _ b2).mono ?_; rintro e wz hps; obtain ⟨k2, rfl, hpz, htb, hz⟩ := psp_out hps; subst wz)
          | fail)
        obtain ⟨q1, q2, q3⟩ := hpz
        obtain ⟨g2, hg2, e2⟩ := q3 G g _ hg
        have HK3 : Hid (cutF s G g2 k2 (L ++ [(K, k, E)]) = R) := by rw [Hid, ← e2]; exact HSt.out
        go_roundw
        case rel => exact ⟨k2, g2, _, q2, rfl, hg2, HK3, htb, by rw [List.length_append]; simp; omega, hown6, hb5⟩
        case measure => simp [intOf]; omega
      · have hT2 := fun w1 (h1 : Below w.heap.size w w1) => utok_two s k ao c G w1 hm HTb.out (HGr.out w1 h1) hlt hs hw
        have HE : Hid (R = ([], (stp s G k).place, (stp s G k).err)) := by
          rw [Hid]
          have := HK.out
          cases f with
          | zero => omega
          | succ f => rw [cutF, if_pos hlt, if_neg (by omega), if_neg (by omega)] at this; exact this.symm
        clear HK hw hown
        generalize (stp s G k).place = P at *
        generalize (stp s G k).err = er at *
        go_wp2_with (first
          | (go_at_call 19; with_reducible refine (hT2 _ hb).mono ?_; rintro e wq ⟨⟨kk, x, T, rfl⟩, hne, hq⟩; have hneb : (er != 0) = true := by simpa using hne)
          | fail)
        refine bodyPost_ret (results_tmp3 rfl _ _ _) rfl ?_
        rw [HE.out]
        exact ⟨_, rfl, World.ownsRow_nil _ _ _ _, (hb.trans (hq.mono hb.size)).alloc (by have := hb.size; have := hq.size; omega) _⟩
    · have HE : Hid (R = (L, 0, 0)) := by rw [Hid, ← HK.out, cutF_end s G f k L hlt]
      have hltI : ¬ (k : Int) < (s.size : Int) := by omega
      clear HK
      go_wp2_with fail
      refine bodyPost_ret (results_tmp3 rfl _ _ _) rfl ?_
      rw [HE.out]
      exact ⟨_, rfl, hown, hb⟩
set_option maxHeartbeats 2000000 in
/-- the document's Tokens -/
theorem rtokens_any (s : ByteArray) (ao : Option Addr) (c : Nat) (G : List ByteArray) (w : World) (hc : G.length ≤ c) (hl : G.length ≤ 9223372036854775807) (hg : ∀ x ∈ G, x.size ≤ 9223372036854775807) (hz : s.size ≤ 9223372036854775807) (hr : GRd w ao G w.heap.size) :
    Calls Try.prog 12 #[.string s, .slice ao G.length c] w fun e w' => ∃ v, e = .returned (.tuple #[v, .int .i64 (toV s G).2.1, .int .i64 (toV s G).2.2]) ∧ w'.ownsRow w.heap.size 40 3 v (toV s G).1.length (tv s (toV s G).1) ∧ Below w.heap.size w w' := by
  cases hm : mayB G with
  | false =>
    have hM := usigns_any ao c G w hc hl hg hr
    have e : toV s G = ([], 0, 14) := by rw [toV, hm, if_neg (by simp)]
    rw [e]
    rw [hm] at hM
    clear hr hg
    go_enter Try.func12, Try.ntmps12
    go_wp2_with (first
      | (go_at_call 11; with_reducible refine hM.mono ?_; rintro e wq ⟨rfl, m, hq⟩; subst wq)
      | fail)
    refine bodyPost_ret (results_tmp3 rfl _ _ _) rfl ?_
    exact ⟨_, rfl, World.ownsRow_nil _ _ _ _, below_drewN (Below.refl _ _) m⟩
  | true =>
    rw [show toV s G = cutV s G by rw [toV, hm, if_pos rfl]]
    by_cases hs : s.size ≤ 524288
    · exact rtok_mid s ao c G w hc hg hm hs hr
    · have hM := usigns_any ao c G w hc hl hg hr
      rw [hm] at hM
      have e : cutV s G = ([], 524288, 15) := by rw [cutV, if_pos (by omega)]
      rw [e]
      have hsI : (524288 : Int) < (s.size : Int) := by omega
      clear hr hg
      go_enter Try.func12, Try.ntmps12
      go_wp2_with (first
        | (go_at_call 11; with_reducible refine hM.mono ?_; rintro e wq ⟨rfl, m, hq⟩; subst wq)
        | fail)
      refine bodyPost_ret (results_tmp3 rfl _ _ _) rfl ?_
      exact ⟨_, rfl, World.ownsRow_nil _ _ _ _, below_drewN (Below.refl _ _) m⟩
end Go.Proofs.Ytpndbbepfjocgaa
