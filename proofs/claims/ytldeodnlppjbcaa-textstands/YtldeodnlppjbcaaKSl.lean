import Derived.Test.YtldeodnlppjbcaaKBt
import Derived.Test.YtldeodnlppjbcaaKAw
namespace Go.Proofs.Ytldeodnlppjbcaa
open Go.RowKit
set_option maxRecDepth 100000

theorem toV_std (s : ByteArray) (G : List ByteArray) (he : (toV s G).2.2 = 0) : std s 0 (toV s G).1 := by
  unfold toV at he ⊢
  split at he
  · rename_i hm
    rw [if_pos hm]
    unfold cutV at he ⊢
    split at he
    · exact absurd he (by decide)
    · rename_i hz
      rw [if_neg hz]
      obtain ⟨M, h1, h2⟩ := cutF_std s G s.size 0 [] 0 (Nat.zero_le _) (by omega) (Nat.le_refl _) (.inl fun j h1 h2 => by omega) he
      rw [h1]; exact h2
  · exact absurd he (by decide)
theorem toV_err (s : ByteArray) (G : List ByteArray) (he : (toV s G).2.2 ≠ 0) : (toV s G).1 = [] ∧ 0 ≤ (toV s G).2.1 ∧ (toV s G).2.1 ≤ s.size := by
  unfold toV at he ⊢
  split
  · rename_i hm
    rw [if_pos hm] at he
    unfold cutV at he ⊢
    split
    · rename_i hz
      exact ⟨rfl, by simp only; omega, by simp only; omega⟩
    · rename_i hz
      rw [if_neg hz] at he
      exact cutF_err s G s.size 0 [] (Nat.zero_le _) he
  · exact ⟨rfl, by simp only; omega, by simp only; omega⟩
theorem tk_form {W : World} {B : Nat} {v : Value} {n : Nat} {xs : List Value} (h : W.ownsRow B 36 3 v n xs) : ∃ ao cap, v = .slice ao n cap := by
  rcases h.2 with ⟨rfl, rfl⟩ | ⟨g, cap, cur, rfl, _⟩
  · exact ⟨_, _, rfl⟩
  · exact ⟨_, _, rfl⟩
theorem tk_len {W : World} {B : Nat} {v : Value} {n : Nat} {xs : List Value} (h : W.ownsRow B 36 3 v n xs) : n ≤ 9223372036854775807 := by
  rcases h.2 with ⟨_, rfl⟩ | ⟨g, cap, cur, _, _, _, h1, h2, _⟩
  · omega
  · unfold maxLen at h2; omega
theorem std_at (s : ByteArray) : ∀ (L : List Tk) (k i : Nat), k < L.length → std s i (L.drop k) → ∃ x, L[k]? = some x ∧ i ≤ x.2.1 ∧ x.2.1 < x.2.2 ∧ x.2.2 ≤ s.size ∧ BC s i x.2.1 ∧ std s x.2.2 (L.drop (k + 1)) := by
  intro L k i hk hs
  rw [List.drop_eq_getElem_cons hk] at hs
  exact ⟨L[k], List.getElem?_eq_getElem hk, hs⟩
set_option maxHeartbeats 4000000 in
theorem stands_any (s : ByteArray) (ao : Option Addr) (c : Nat) (G : List ByteArray) (w : World) (hc : G.length ≤ c) (hl : G.length ≤ 9223372036854775807) (hg : ∀ x ∈ G, x.size ≤ 9223372036854775807) (hz : s.size ≤ 9223372036854775807) (hr : GRd w ao G w.heap.size) :
    Calls Try.prog 4 #[.string s, .slice ao G.length c] w fun e w' => e = .returned (.bool true) ∧ Below w.heap.size w w' := by
  have hA := awake_any w
  have HT : Hid (∀ w1, Below w.heap.size w w1 → Calls Try.prog 7 #[.string s, .slice ao G.length c] w1 fun e w' => ∃ v, e = .returned (.tuple #[v, .int .i64 (toV s G).2.1, .int .i64 (toV s G).2.2]) ∧ w'.ownsRow w1.heap.size 36 3 v (toV s G).1.length (tv s (toV s G).1) ∧ Below w1.heap.size w1 w') := fun w1 h1 => tokens_any s ao c G w1 hc hl hg hz ((hr.below h1).mono h1.size)
  have hE := toV_err s G
  have hS := toV_std s G
  generalize toV s G = R at *
  obtain ⟨L, p, er⟩ := R
  simp only at hE hS HT
  clear hr hg
  by_cases her : er = 0
  · subst her
    have HS := hidK (hS rfl)
    clear hE hS
    go_enter Try.func4, Try.ntmps4
    go_wp2_with (first
      | (go_at_call 11; with_reducible refine hA.mono ?_; rintro e w1 ⟨rfl, h1⟩)
      | (go_at_call 7; with_reducible refine (HT.out _ h1).mono ?_; rintro e w2 ⟨v, rfl, hown, h2⟩; obtain ⟨ao2, cap2, rfl⟩ := tk_form hown)
      | fail)
    have hB1 := h1.size
    have hB2 := h2.size
    have h12 : Below w.heap.size w w2 := h1.trans (h2.mono h1.size)
    have HO := hidK hown
    have hLm := tk_len hown
    clear hown HT hA
    go_loopg [8, 9] L.length (fun gh iv kv wr => ∃ (k i : Nat), gh = L.length - k ∧ k ≤ L.length ∧ iv = .int .i64 i ∧ kv = .int .i64 k ∧ i ≤ s.size ∧ Hid (std s i (L.drop k)) ∧ Below w2.heap.size w2 wr)
    case atStart => exact ⟨0, 0, rfl, Nat.zero_le _, rfl, rfl, Nat.zero_le _, HS, Below.refl _ _⟩
    case round =>
      clear HS
      obtain ⟨k, i, hgk, hk, rfl, rfl, hi, HK, hb⟩ := hrel
      have hbs := hb.size
      by_cases hlt : k < L.length
      · have hltI : (k : Int) < (L.length : Int) := by omega
        obtain ⟨⟨K, a, e⟩, hx, hia, hae, hes, hBC, hst⟩ := std_at s L k i hlt HK.out
        simp only at hia hae hes hBC hst
        have hbw := fun w => between_any s i a w hia (by omega) hz hBC
        have HK2 := hidK hst
        clear hst hBC HK
        obtain ⟨g, cap, hv, hgl, hcap, hcl⟩ := tok_cells HO.out (by omega)
        simp only [Value.slice.injEq] at hv
        obtain ⟨rfl, _, rfl⟩ := hv
        obtain ⟨c0, c1, c2⟩ := hcl k _ hx
        simp only at c0 c1 c2
        have c0' : wr.cell? ⟨g, k * 3, none⟩ = some (.int .u8 K) := by rw [Nat.mul_comm]; exact (hb.cell (p := ⟨g, 3 * k, none⟩) hgl).trans c0
        have c1' : wr.cell? ⟨g, k * 3 + 1, none⟩ = some (.int .i64 a) := by rw [Nat.mul_comm]; exact (hb.cell (p := ⟨g, 3 * k + 1, none⟩) hgl).trans c1
        have hT0 : (s.extract a e).size = e - a := by simp; omega
        obtain ⟨T, hT⟩ : ∃ T, s.extract a e = T := ⟨_, rfl⟩
        have c2' : wr.cell? ⟨g, k * 3 + 2, none⟩ = some (.string T) := by rw [Nat.mul_comm, ← hT]; exact (hb.cell (p := ⟨g, 3 * k + 2, none⟩) hgl).trans c2
        rw [hT] at hT0
        have HTT : Hid (s.extract a e = T) := hT
        clear hcl c0 c1 c2 hx HO hT
        go_wp2_with fail
        clear c0' c1' c2'
        obtain ⟨W1, hW1⟩ : ∃ W1, wr.alloc (Obj.cells #[Value.int IntKind.u8 (K : Int), Value.int IntKind.i64 (a : Int), Value.string T] 36) = W1 := ⟨_, rfl⟩
        have t1 : W1.cell? ⟨wr.heap.size, 1, none⟩ = some (.int .i64 a) := by rw [← hW1]; simp
        have t2 : W1.cell? ⟨wr.heap.size, 2, none⟩ = some (.string T) := by rw [← hW1]; simp
        have hbW : Below w2.heap.size w2 W1 := by rw [← hW1]; exact hb.alloc hbs _
        rw [hW1]
        clear hW1
        obtain ⟨m, hm⟩ : ∃ m, T.size = m := ⟨_, rfl⟩
        rw [hm] at hT0
        have f1 : ¬ (a : Int) < (i : Int) := by omega
        have f2 : ¬ (s.size : Int) < (a : Int) := by omega
        have f3 : ¬ m = 0 := by omega
        have f3b : ((m : Int) == 0) = false := by rw [beq_eq_false_iff_ne]; omega
        have f4 : ¬ (s.size : Int) - (a : Int) < (m : Int) := by omega
        have f5 : IntKind.i64.wrap ((s.size : Int) - (a : Int)) = (s.size : Int) - (a : Int) := by rw [IntKind.wrap_i64]; omega
        have f6 : IntKind.i64.wrap ((a : Int) + (m : Int)) = (a : Int) + (m : Int) := by rw [IntKind.wrap_i64]; omega
        have f7 : (a : Int) ≤ (a : Int) + (m : Int) := by omega
        have f8 : (a : Int) + (m : Int) ≤ (s.size : Int) := by omega
        have f9 : ((a : Int) + (m : Int)).toNat = a + m := by omega
        have f10 : s.extract a (a + m) = T := by rw [hT0, show a + (e - a) = e by omega]; exact HTT.out
        have f11 : a + m = e := by omega
        have HE := hidK f11
        clear f11 hT0 HTT
        go_quiet (fail)
        go_wp2_with (first
          | (go_at_call 12; with_reducible refine (hbw _).mono ?_; rintro e wq ⟨rfl, hq⟩; subst wq)
          | fail)
        go_roundg (L.length - (k + 1))
        case measure => omega
        case rel => exact ⟨k + 1, e, rfl, by omega, by rw [← HE.out]; go_num, by go_num, hes, HK2, below_drewN hbW nq⟩
      · obtain rfl : k = L.length := by omega
        have hst : std s i [] := by have := HK.out; rwa [List.drop_length] at this
        obtain ⟨hi2, hBC⟩ := hst
        have hbw := fun w => between_any s i s.size w hi2 (Nat.le_refl _) hz hBC
        clear HK hBC
        go_wp2_with (first
          | (go_at_call 12; with_reducible refine (hbw _).mono ?_; rintro e wq ⟨rfl, hq⟩; subst wq)
          | fail)
        go_ret
        exact ⟨rfl, h12.trans (hb.mono h12.size)⟩
  · obtain ⟨hE1, hE2, hE3⟩ := hE her
    subst hE1
    clear hS
    go_enter Try.func4, Try.ntmps4
    go_wp2_with (first
      | (go_at_call 11; with_reducible refine hA.mono ?_; rintro e w1 ⟨rfl, h1⟩)
      | (go_at_call 7; with_reducible refine (HT.out _ h1).mono ?_; rintro e w2 ⟨v, rfl, hown, h2⟩; obtain ⟨ao2, cap2, rfl⟩ := tk_form hown)
      | fail)
    go_ret
    exact ⟨rfl, h1.trans (h2.mono h1.size)⟩
end Go.Proofs.Ytldeodnlppjbcaa
