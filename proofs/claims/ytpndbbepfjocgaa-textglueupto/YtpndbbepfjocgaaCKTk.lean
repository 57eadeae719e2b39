import Derived.Test.YtpndbbepfjocgaaKCt
namespace Go.Proofs.Ytpndbbepfjocgaa
open Go.RowKit
set_option maxRecDepth 100000

set_option maxHeartbeats 2000000 in
theorem cut_all (s : ByteArray) (ao : Option Addr) (c : Nat) (G : List ByteArray) (w : World) (hc : G.length ≤ c) (hl : G.length ≤ 64) (hz : s.size ≤ 9223372036854775807) (hr : GRd w ao G w.heap.size) :
    Calls Try.prog 22 #[.string s, .slice ao G.length c] w fun e w' => ∃ v, e = .returned (.tuple #[v, .int .i64 (cutV s G).2.1, .int .i64 (cutV s G).2.2]) ∧ w'.ownsRow w.heap.size 40 3 v (cutV s G).1.length (tv s (cutV s G).1) ∧ Below w.heap.size w w' := by
  by_cases hs : s.size ≤ 524288
  · exact cut_any s ao c G w hc hl hs hr
  · have e : cutV s G = ([], 524288, 15) := by rw [cutV, if_pos (by omega)]
    rw [e]
    have hsI : (524288 : Int) < (s.size : Int) := by omega
    go_enter Try.func22, Try.ntmps22
    go_wp2_with fail
    go_step3
    go_wp2_with fail
    change bodyPost Try.prog Try.f22 (fun e w' => ∃ v, e = .returned (.tuple #[v, .int .i64 524288, .int .i64 15]) ∧ w'.ownsRow w.heap.size 40 3 v 0 [] ∧ Below w.heap.size w w') Exit.ret _ _
    refine bodyPost_ret (results_tmp3 rfl _ _ _) rfl ?_
    exact ⟨_, rfl, World.ownsRow_nil _ _ _ _, Below.refl _ _⟩
/-- what Tokens gives -/
def toV (s : ByteArray) (G : List ByteArray) : List Tk × Int × Int := if mayB G = true then cutV s G else ([], 0, 14)
end Go.Proofs.Ytpndbbepfjocgaa
namespace Go.Proofs.Ytpndbbepfjocgaa
open Go.RowKit

def blk (s : ByteArray) (j : Nat) : Prop := bt s j = 9 ∨ bt s j = 13 ∨ bt s j = 32
/-- blanks, and behind them a comment perhaps -/
def BC (s : ByteArray) (i k : Nat) : Prop := ∃ p, i ≤ p ∧ p ≤ k ∧ (∀ j, i ≤ j → j < p → blk s j) ∧ (p = k ∨ (bt s p = 35 ∧ ∀ j, p ≤ j → j < k → bt s j ≠ 10))
def St (s : ByteArray) (i a : Nat) : Prop := (∀ j, i ≤ j → j < a → blk s j) ∨ (BC s i a ∧ (a = s.size ∨ bt s a = 10))
theorem St.bc {s : ByteArray} {i a : Nat} (hi : i ≤ a) (h : St s i a) : BC s i a := by
  rcases h with h | h
  · exact ⟨a, hi, Nat.le_refl _, h, .inl rfl⟩
  · exact h.1
/-- tokens that stand in their text, from a place on -/
def std (s : ByteArray) : Nat → List Tk → Prop
  | i, [] => i ≤ s.size ∧ BC s i s.size
  | i, x :: r => i ≤ x.2.1 ∧ x.2.1 < x.2.2 ∧ x.2.2 ≤ s.size ∧ BC s i x.2.1 ∧ std s x.2.2 r
theorem idxB (l : List UInt8) (c : UInt8) : (Lib.indexByte l c = -1 ∧ ∀ j (h : j < l.length), l[j] ≠ c) ∨ (∃ r : Nat, Lib.indexByte l c = r ∧ ∃ h : r < l.length, l[r] = c ∧ ∀ j (h : j < r), l[j]'(by omega) ≠ c) := by
  induction l with
  | nil => exact .inl ⟨rfl, fun j h => by simp at h⟩
  | cons b l ih =>
    unfold Lib.indexByte
    by_cases hb : b = c
    · subst hb
      right
      exact ⟨0, by simp, by simp, by simp, fun j h => by omega⟩
    · have hbb : (b == c) = false := by simpa using hb
      rw [hbb]
      rcases ih with ⟨h1, h2⟩ | ⟨r, h1, h2, h3, h4⟩
      · left
        rw [h1]
        refine ⟨by simp, fun j h => ?_⟩
        cases j with
        | zero => exact hb
        | succ j => exact h2 j (by simpa using h)
      · right
        rw [h1]
        refine ⟨r + 1, ?_, by simp; omega, by simpa using h3, fun j h => ?_⟩
        · have : ¬ ((r : Int) == -1) = true := by simp
          simp [this]
        · cases j with
          | zero => exact hb
          | succ j => exact h4 j (by omega)
theorem bt_at (s : ByteArray) (a j : Nat) (h : j < ((sub s a).data.toList).length) : bt s (a + j) = (((sub s a).data.toList)[j]).toNat := by
  have hl : ((sub s a).data.toList).length = s.size - a := by rw [Array.length_toList]; exact sub_size s a
  have hz : j < (sub s a).size := by rw [sub_size]; omega
  rw [← bt_sub, bt_eq (sub s a) j hz]
  simp [ByteArray.getElem_eq_getElem_data]
theorem lnEnd_spec (s : ByteArray) (a : Nat) (h : a < s.size) : (∀ j, a ≤ j → j < lnEnd s a → bt s j ≠ 10) ∧ (lnEnd s a = s.size ∨ bt s (lnEnd s a) = 10) := by
  have hl : ((sub s a).data.toList).length = s.size - a := by rw [Array.length_toList]; exact sub_size s a
  unfold lnEnd lnI
  rcases idxB (sub s a).data.toList 10 with ⟨h1, h2⟩ | ⟨r, h1, h2, h3, h4⟩
  · rw [h1, if_neg (by omega)]
    refine ⟨fun j hj1 hj2 he => ?_, .inl rfl⟩
    have hlt : j - a < ((sub s a).data.toList).length := by omega
    have e := bt_at s a (j - a) hlt
    rw [show a + (j - a) = j by omega, he] at e
    refine h2 (j - a) hlt ?_
    apply UInt8.toNat.inj
    rw [← e]; rfl
  · rw [h1, if_pos (by omega), Int.toNat_natCast]
    refine ⟨fun j hj1 hj2 he => ?_, .inr ?_⟩
    · have hlt : j - a < ((sub s a).data.toList).length := by omega
      have e := bt_at s a (j - a) hlt
      rw [show a + (j - a) = j by omega, he] at e
      refine h4 (j - a) (by omega) ?_
      apply UInt8.toNat.inj
      rw [← e]; rfl
    · rw [bt_at s a r h2, h3]; rfl
/-- the steps of cut -/
theorem stp_cases (s : ByteArray) (G : List ByteArray) (a : Nat) (h : a < s.size) :
    ((stp s G a).what = 0 ∧ ((blk s a ∧ (stp s G a).go = a + 1) ∨ (bt s a = 35 ∧ (stp s G a).go = lnEnd s a))) ∨
    ((stp s G a).what = 1 ∧ a < (stp s G a).go ∧ (stp s G a).go ≤ s.size ∧ (stp s G a).kind ≤ 6) ∨
    ((stp s G a).what = 2 ∧ (stp s G a).err ≠ 0 ∧ 0 ≤ (stp s G a).place ∧ (stp s G a).place ≤ s.size) := by
  have HL := fun n h0 h1 => first_low s a h n h0 h1
  unfold stp
  split
  · rename_i h1
    left
    refine ⟨rfl, .inl ⟨?_, rfl⟩⟩
    unfold blk
    rcases h1 with h1 | h1 | h1
    · have := (HL 9 (by omega) (by omega) h1).1; omega
    · have := (HL 13 (by omega) (by omega) h1).1; omega
    · have := (HL 32 (by omega) (by omega) h1).1; omega
  · split
    · rename_i h1
      left
      refine ⟨rfl, .inr ⟨?_, rfl⟩⟩
      have := (HL 35 (by omega) (by omega) h1).1; omega
    · split
      · right; left; exact ⟨rfl, by simp only; omega, by simp only; omega, by simp only; omega⟩
      · split
        · rename_i h1
          right; left
          have := nmEnd_bd s a h (by unfold nameL; rcases h1 with h1 | h1 <;> simp [h1])
          exact ⟨rfl, this.1, this.2, by simp only; omega⟩
        · split
          · have := fgEnd_bd s a h
            right; left; exact ⟨rfl, this.1, this.2, by simp only; omega⟩
          · split
            · have hb := litV_bd s a h
              split
              · rename_i he
                obtain ⟨e1, e2, e3⟩ := hb.1 he
                right; left; exact ⟨rfl, e1, e2, by simp only; omega⟩
              · rename_i he
                right; right; exact ⟨rfl, he, hb.2.1, hb.2.2⟩
            · split
              · right; right
                refine ⟨rfl, ?_, by simp only; omega, by simp only; omega⟩
                simp only
                split <;> omega
              · rename_i h0
                have := sgL_bd s G a h
                right; left; exact ⟨rfl, by simp only; omega, this.1, by simp only; omega⟩
theorem bt10_first (s : ByteArray) (G : List ByteArray) (a : Nat) (h : a < s.size) (hb : bt s a = 10) : (stp s G a).what ≠ 0 := by
  rcases stp_cases s G a h with ⟨_, h2⟩ | ⟨h1, _⟩ | ⟨h1, _⟩
  · rcases h2 with ⟨h3, _⟩ | ⟨h3, _⟩
    · unfold blk at h3; omega
    · omega
  · rw [h1]; decide
  · rw [h1]; decide
theorem cutF_std (s : ByteArray) (G : List ByteArray) : ∀ f a L i, a ≤ s.size → s.size - a ≤ f → i ≤ a → St s i a → (cutF s G f a L).2.2 = 0 → ∃ M, (cutF s G f a L).1 = L ++ M ∧ std s i M
  | 0, a, L, i, ha, hf, hi, hS, _ => by
    obtain rfl : a = s.size := by omega
    exact ⟨[], by simp [cutF], hi, hS.bc hi⟩
  | f + 1, a, L, i, ha, hf, hi, hS, he => by
    by_cases hlt : a < s.size
    · simp only [cutF, if_pos hlt] at he ⊢
      rcases stp_cases s G a hlt with ⟨h1, h2⟩ | ⟨h1, h2, h3, h4⟩ | ⟨h1, h2, h3⟩
      · have hS1 : ∀ j, i ≤ j → j < a → blk s j := by
          rcases hS with hS | ⟨_, hS | hS⟩
          · exact hS
          · omega
          · exact absurd h1 (bt10_first s G a hlt hS)
        rw [if_pos h1] at he ⊢
        rcases h2 with ⟨h2, h3⟩ | ⟨h2, h3⟩
        · rw [h3] at he ⊢
          refine cutF_std s G f (a + 1) L i hlt (by omega) (by omega) (.inl fun j hj1 hj2 => ?_) he
          rcases Nat.lt_or_ge j a with h | h
          · exact hS1 j hj1 h
          · obtain rfl : j = a := by omega
            exact h2
        · have hb := lnEnd_bd s a hlt (by omega)
          have hsp := lnEnd_spec s a hlt
          rw [h3] at he ⊢
          exact cutF_std s G f _ L i hb.2 (by omega) (by omega) (.inr ⟨⟨a, hi, by omega, hS1, .inr ⟨h2, hsp.1⟩⟩, hsp.2⟩) he
      · rw [if_neg (by rw [h1]; decide), if_pos h1] at he ⊢
        obtain ⟨M, hM1, hM2⟩ := cutF_std s G f _ (L ++ [((stp s G a).kind, a, (stp s G a).go)]) (stp s G a).go h3 (by omega) (Nat.le_refl _) (.inl fun j hj1 hj2 => by omega) he
        refine ⟨((stp s G a).kind, a, (stp s G a).go) :: M, by rw [hM1]; simp, hi, h2, h3, hS.bc hi, hM2⟩
      · rw [if_neg (by rw [h1]; decide), if_neg (by rw [h1]; decide)] at he
        exact absurd he h2
    · obtain rfl : a = s.size := by omega
      rw [cutF_end s G _ _ L hlt]
      exact ⟨[], by simp, hi, hS.bc hi⟩
theorem cutF_err (s : ByteArray) (G : List ByteArray) : ∀ f a L, a ≤ s.size → (cutF s G f a L).2.2 ≠ 0 → (cutF s G f a L).1 = [] ∧ 0 ≤ (cutF s G f a L).2.1 ∧ (cutF s G f a L).2.1 ≤ s.size
  | 0, a, L, ha, he => absurd rfl he
  | f + 1, a, L, ha, he => by
    by_cases hlt : a < s.size
    · simp only [cutF, if_pos hlt] at he ⊢
      rcases stp_cases s G a hlt with ⟨h1, h2⟩ | ⟨h1, h2, h3, h4⟩ | ⟨h1, h2, h3⟩
      · rw [if_pos h1] at he ⊢
        refine cutF_err s G f _ L ?_ he
        rcases h2 with ⟨_, h2⟩ | ⟨h5, h2⟩
        · omega
        · have := (lnEnd_bd s a hlt (by omega)).2; omega
      · rw [if_neg (by rw [h1]; decide), if_pos h1] at he ⊢
        exact cutF_err s G f _ _ h3 he
      · rw [if_neg (by rw [h1]; decide), if_neg (by rw [h1]; decide)]
        exact ⟨rfl, h3⟩
    · rw [cutF_end s G _ _ L hlt] at he
      exact absurd rfl he
end Go.Proofs.Ytpndbbepfjocgaa
namespace Go.Proofs.Ytpndbbepfjocgaa
open Go.RowKit
set_option maxRecDepth 100000

/-- the cells of tokens -/
theorem tv_at (s : ByteArray) : ∀ (L : List Tk) (i : Nat) (x : Tk), L[i]? = some x → (tv s L)[3 * i]? = some (.int .u8 x.1) ∧ (tv s L)[3 * i + 1]? = some (.int .i64 x.2.1) ∧ (tv s L)[3 * i + 2]? = some (.string (s.extract x.2.1 x.2.2))
  | [], i, x, h => by simp at h
  | y :: L, 0, x, h => by simp at h; subst h; exact ⟨rfl, rfl, rfl⟩
  | y :: L, i + 1, x, h => by
    have h' : L[i]? = some x := by simpa using h
    have := tv_at s L i x h'
    rw [show tv s (y :: L) = .int .u8 y.1 :: .int .i64 y.2.1 :: .string (s.extract y.2.1 y.2.2) :: tv s L from rfl]
    rw [show 3 * (i + 1) = 3 * i + 1 + 1 + 1 by omega]
    simpa using this
theorem tok_cells {W : World} {B : Nat} {v : Value} {s : ByteArray} {L : List Tk} (h : W.ownsRow B 40 3 v L.length (tv s L)) (hp : 0 < L.length) :
    ∃ g cap, v = .slice (some ⟨g, 0, none⟩) L.length cap ∧ g < W.heap.size ∧ L.length ≤ cap ∧ ∀ i x, L[i]? = some x → W.cell? ⟨g, 3 * i, none⟩ = some (.int .u8 x.1) ∧ W.cell? ⟨g, 3 * i + 1, none⟩ = some (.int .i64 x.2.1) ∧ W.cell? ⟨g, 3 * i + 2, none⟩ = some (.string (s.extract x.2.1 x.2.2)) := by
  have h' := h
  have hlt := h.lt
  rcases h.2 with ⟨rfl, hz⟩ | ⟨g, cap, cur, rfl, hrest⟩
  · omega
  · have hadd : ∀ i, (⟨g, 0, none⟩ : Addr).add i = ⟨g, i, none⟩ := fun i => by unfold Addr.add; split <;> simp_all
    refine ⟨g, cap, rfl, (hlt g rfl).2, ?_, fun i x hx => ?_⟩
    · exact hrest.2.2.1
    · obtain ⟨e1, e2, e3⟩ := tv_at s L i x hx
      have c1 := h'.cells (g := g) rfl (3 * i) _ e1
      have c2 := h'.cells (g := g) rfl (3 * i + 1) _ e2
      have c3 := h'.cells (g := g) rfl (3 * i + 2) _ e3
      rw [hadd] at c1 c2 c3
      exact ⟨c1, c2, c3⟩
theorem ex0 : (⟨#[97, 98, 32, 60, 61, 32, 55]⟩ : ByteArray).extract 0 2 = ⟨#[97, 98]⟩ := by kernel_rfl
theorem ex1 : (⟨#[97, 98, 32, 60, 61, 32, 55]⟩ : ByteArray).extract 3 5 = ⟨#[60, 61]⟩ := by kernel_rfl
theorem ex2 : (⟨#[97, 98, 32, 60, 61, 32, 55]⟩ : ByteArray).extract 6 7 = ⟨#[55]⟩ := by kernel_rfl
def aS : ByteArray := ⟨#[97, 98, 32, 60, 61, 32, 55]⟩
def aG : List ByteArray := [⟨#[60]⟩, ⟨#[60, 61]⟩]
theorem aV : toV aS aG = ([(1, 0, 2), (5, 3, 5), (2, 6, 7)], 0, 0) := by kernel_rfl
end Go.Proofs.Ytpndbbepfjocgaa
