import Derived.Test.YtldeodnlppjbcaaKFe
import Derived.Test.YtldeodnlppjbcaaKNm
namespace Go.Proofs.Ytldeodnlppjbcaa
open Go.RowKit
set_option maxRecDepth 100000

theorem litF_le (s : ByteArray) (m a : Nat) (ha : a ≤ s.size) : ∀ f i, a < i → litF s m a f i = a ∨ (i < litF s m a f i ∧ litF s m a f i ≤ s.size)
  | 0, i, _ => .inl rfl
  | f + 1, i, hi => by
    unfold litF
    split
    · split
      · right; omega
      · split
        · left; rfl
        · split
          · rcases litF_le s m a ha f (i + 2) (by omega) with h | h
            · left; exact h
            · right; omega
          · rcases litF_le s m a ha f (i + 1) (by omega) with h | h
            · left; exact h
            · right; omega
    · left; rfl
theorem litEnd_le (s : ByteArray) (a : Nat) (ha : a < s.size) : litEnd s a = a ∨ (a < litEnd s a ∧ litEnd s a ≤ s.size) := by
  rcases litF_le s (bt s a) a (by omega) s.size (a + 1) (by omega) with h | h
  · left; exact h
  · right; unfold litEnd; omega
theorem bgo_place (s : ByteArray) : ∀ f i L, i ≤ s.size → (bgo s f i L).2.1 ≤ s.size
  | 0, i, L, h => h
  | f + 1, i, L, h => by
    by_cases hlt : i < s.size
    · by_cases h34 : bt s i = 34
      · by_cases h1 : i + 1 < s.size
        · rw [bgo_34a s f i L h1 h34]; exact Nat.le_of_lt h1
        · rw [bgo_34b s f i L hlt h1 h34]; exact Nat.zero_le _
      · by_cases he : (readV (sub s i)).2.2.2 = 0
        · rw [bgo_ok s f i L hlt h34 he]
          have := read_size (u := sub s i) (by rw [sub_size]; omega) he
          rw [sub_size] at this
          exact bgo_place s f _ _ (by omega)
        · rw [bgo_bad s f i L hlt h34 he]; exact h
    · rw [bgo_end s _ i L hlt]; exact h
theorem bV_place (s : ByteArray) : (bV s).2.1 ≤ s.size := by
  unfold bV
  split
  · rename_i hq
    have : 0 < s.size ∧ bt s 0 = 34 := of_decide_eq_true hq
    exact bgo_place s _ 1 _ this.1
  · exact Nat.zero_le _
theorem runeV_place (s : ByteArray) : 0 ≤ (runeV s).2.1 ∧ (runeV s).2.1 ≤ s.size := by
  unfold runeV
  split
  · exact ⟨Int.le_refl _, by simp⟩
  · rename_i h0
    have hz : 0 < s.size := by
      have : qAt s 0 = true := by simpa using h0
      exact (of_decide_eq_true this).1
    split
    · simp only; omega
    · split
      · simp only; omega
      · split
        · simp only; omega
        · rename_i h1 h2 h3
          have hr := read_size (u := sub s 1) (by rw [sub_size]; omega) (by simpa using h3)
          rw [sub_size] at hr
          split
          · simp only; omega
          · split
            · simp only; omega
            · simp only; omega
theorem results_four {fn : Func} {t u v x : Tmp} (h : fn.results = #[.tmp t, .tmp u, .tmp v, .tmp x]) (tmps : Array Value) (P : Program) (w : World) :
    (results fn tmps).run P w = .ok (.tuple #[tmps.getD t undef, tmps.getD u undef, tmps.getD v undef, tmps.getD x undef]) w := by
  simp [results, h]
set_option maxHeartbeats 4000000 in
theorem literalAt_any (s : ByteArray) (a : Nat) (w : World) (ha : a < s.size) (hs : s.size ≤ 524288) :
    Calls Try.prog 30 #[.string s, .int .i64 a] w fun e w' => e = .returned (.tuple #[.int .u8 (litV s a).1, .int .i64 (litV s a).2.1, .int .i64 (litV s a).2.2.1, .int .i64 (litV s a).2.2.2]) ∧ Below w.heap.size w w' := by
  have hE := fun w => litEnd_any s a w ha (by omega)
  have hle := litEnd_le s a ha
  obtain ⟨V, hV⟩ : ∃ V, V = litV s a := ⟨_, rfl⟩
  rw [← hV]
  unfold litV at hV
  obtain ⟨E, hEE⟩ : ∃ E, litEnd s a = E := ⟨_, rfl⟩
  rw [hEE] at hE hle hV
  clear hEE
  have haI : (a : Int) < (s.size : Int) := by omega
  by_cases h0 : E = a
  · subst h0
    rw [if_pos rfl] at hV
    rw [hV]
    clear hV hle
    go_enter Try.func30, Try.ntmps30
    go_wp2_with (first
      | (go_at_call 42; with_reducible refine (hE _).mono ?_; rintro e wq ⟨rfl, hq⟩; subst wq)
      | fail)
    refine bodyPost_ret (results_four rfl _ _ _) rfl ?_
    exact ⟨rfl, Below.refl _ _⟩
  · rw [if_neg h0] at hV
    obtain ⟨hle1, hle2⟩ : a < E ∧ E ≤ s.size := by omega
    have h0I : ¬ (E : Int) = (a : Int) := by omega
    have h1I : (a : Int) ≤ (E : Int) := by omega
    have h2I : (E : Int) ≤ (s.size : Int) := by omega
    have hy := bt_get s a ha
    obtain ⟨T, hT⟩ : ∃ T, s.extract a E = T := ⟨_, rfl⟩
    have hTz : T.size ≤ 1048576 := by rw [← hT]; simp; omega
    have hBy := fun w => bytes_any T w hTz
    have hRu := fun w => rune_any T w (by omega)
    rw [hT] at hV
    clear hle h0
    by_cases h34 : bt s a = 34
    · rw [if_pos h34] at hV
      rw [h34] at hy
      clear hRu h34
      have hpl := bV_place T
      have hTs : T.size ≤ s.size - a := by rw [← hT]; simp; omega
      generalize bV T = b at *
      obtain ⟨b1, b2, b3⟩ := b
      have hpl2 : b2 ≤ s.size := by simp only at hpl; omega
      clear hpl
      by_cases hb : b3 = 0
      · subst hb
        rw [if_pos rfl] at hV
        rw [hV]
        clear hV
        go_enter Try.func30, Try.ntmps30
        go_wp2_with (first
          | (go_at_call 42; with_reducible refine (hE _).mono ?_; rintro e wq ⟨rfl, hq⟩; subst wq)
          | (go_at_call 43; with_reducible refine (hBy _).mono ?_; rintro e wq ⟨v, rfl, hown, hq⟩; clear hown)
          | fail)
        refine bodyPost_ret (results_four rfl _ _ _) rfl ?_
        exact ⟨rfl, hq⟩
      · rw [if_neg hb] at hV
        rw [hV]
        clear hV
        go_enter Try.func30, Try.ntmps30
        go_wp2_with (first
          | (go_at_call 42; with_reducible refine (hE _).mono ?_; rintro e wq ⟨rfl, hq⟩; subst wq)
          | (go_at_call 43; with_reducible refine (hBy _).mono ?_; rintro e wq ⟨v, rfl, hown, hq⟩; clear hown)
          | fail)
        refine bodyPost_ret (results_four rfl _ _ _) rfl ?_
        exact ⟨rfl, hq⟩
    · rw [if_neg h34] at hV
      have h34I : ¬ ((bt s a : Nat) : Int) = 34 := by omega
      generalize bt s a = y at *
      clear hBy
      have hpl := runeV_place T
      have hTs : T.size ≤ s.size - a := by rw [← hT]; simp; omega
      generalize runeV T = b at *
      obtain ⟨b1, b2, b3⟩ := b
      obtain ⟨hp1, hp2⟩ := hpl
      have hp3 : b2 ≤ (s.size : Int) := by simp only at hp2; omega
      simp only at hp1
      clear hp2 hTs
      by_cases hb : b3 = 0
      · subst hb
        rw [if_pos rfl] at hV
        rw [hV]
        clear hV
        go_enter Try.func30, Try.ntmps30
        go_wp2_with (first
          | (go_at_call 42; with_reducible refine (hE _).mono ?_; rintro e wq ⟨rfl, hq⟩; subst wq)
          | (go_at_call 44; with_reducible refine (hRu _).mono ?_; rintro e wq ⟨rfl, hq⟩; unfold runeR; dsimp only)
          | fail)
        refine bodyPost_ret (results_four rfl _ _ _) rfl ?_
        exact ⟨rfl, hq⟩
      · rw [if_neg hb] at hV
        rw [hV]
        clear hV
        go_enter Try.func30, Try.ntmps30
        go_wp2_with (first
          | (go_at_call 42; with_reducible refine (hE _).mono ?_; rintro e wq ⟨rfl, hq⟩; subst wq)
          | (go_at_call 44; with_reducible refine (hRu _).mono ?_; rintro e wq ⟨rfl, hq⟩; unfold runeR; dsimp only)
          | fail)
        refine bodyPost_ret (results_four rfl _ _ _) rfl ?_
        exact ⟨rfl, hq⟩
end Go.Proofs.Ytldeodnlppjbcaa
