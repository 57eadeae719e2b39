import Derived.Test.YtpndbbepfjocgaaVBs
import Derived.Test.YtpndbbepfjocgaaCUBy
namespace Go.Proofs.Ytpndbbepfjocgaa
open Go.RowKit
set_option maxRecDepth 100000

theorem cutV_err {T : ByteArray} {G : List ByteArray} (he : (cutV T G).2.2 ≠ 0) : (cutV T G).1 = [] := by
  unfold cutV at he ⊢
  split
  · rfl
  · rename_i hz
    rw [if_neg hz] at he
    exact (cutF_err T G T.size 0 [] (Nat.zero_le _) he).1
theorem cutF_len2 (s : ByteArray) (G : List ByteArray) : ∀ f a L, (cutF s G f a L).1.length ≤ L.length + f
  | 0, a, L => by simp [cutF]
  | f + 1, a, L => by
    simp only [cutF]
    split
    · split
      · have := cutF_len2 s G f (stp s G a).go L; omega
      · split
        · have := cutF_len2 s G f (stp s G a).go (L ++ [((stp s G a).kind, a, (stp s G a).go)]); simp at this; omega
        · simp
    · simp only; omega
theorem cutV_len (T : ByteArray) (G : List ByteArray) : (cutV T G).1.length ≤ 524288 := by
  unfold cutV
  split
  · simp
  · have := cutF_len2 T G T.size 0 []
    simp at this
    omega
theorem tkv_form {W : World} {B : Nat} {v : Value} {n : Nat} {xs : List Value} (h : W.ownsRow B 40 3 v n xs) : ∃ ao cap, v = .slice ao n cap := by
  rcases h.2 with ⟨rfl, rfl⟩ | ⟨g, cap, cur, rfl, _⟩
  · exact ⟨_, _, rfl⟩
  · exact ⟨_, _, rfl⟩
set_option maxHeartbeats 4000000 in
theorem alone_all (K : Nat) (at_ : Int) (T : ByteArray) (ao : Option Addr) (c : Nat) (G : List ByteArray) (w : World) (hz : T.size ≤ 9223372036854775807) (hc : G.length ≤ c) (hl : G.length ≤ 64) (hr : GRd w ao G w.heap.size) :
    Calls Try.prog 16 #[.agg #[.int .u8 K, .int .i64 at_, .string T], .slice ao G.length c] w fun e w' => e = .returned (.bool (alB G K T)) ∧ Below w.heap.size w w' := by
  have HC : Hid (∀ w1, Below w.heap.size w w1 → Calls Try.prog 22 #[.string T, .slice ao G.length c] w1 fun e w' => ∃ v, e = .returned (.tuple #[v, .int .i64 (cutV T G).2.1, .int .i64 (cutV T G).2.2]) ∧ w'.ownsRow w1.heap.size 40 3 v (cutV T G).1.length (tv T (cutV T G).1) ∧ Below w1.heap.size w1 w') := fun w1 h1 => cut_all T ao c G w1 hc hl (by omega) ((hr.below h1).mono h1.size)
  have hE := @cutV_err T G
  have hLn := cutV_len T G
  have HAl : Hid (alB G K T = (match cutV T G with | ([(k, a, e)], _, er) => decide (er = 0) && decide (k = K) && decide (T.extract a e = T) | _ => false)) := rfl
  obtain ⟨B, hB⟩ : ∃ B, alB G K T = B := ⟨_, rfl⟩
  rw [hB] at HAl ⊢
  clear hB hr
  generalize cutV T G = R at *
  obtain ⟨L, p, er⟩ := R
  simp only at hE hLn HC HAl
  have HB : Below w.heap.size w (w.alloc (.cells #[.int .u8 (K : Int), .int .i64 at_, .string T] 40)) := (Below.refl _ _).alloc (Nat.le_refl _) _
  by_cases her : er = 0
  · subst her
    rcases L with _ | ⟨⟨k, a, e0⟩, _ | ⟨x2, L2⟩⟩
    · have HF : Hid (B = false) := HAl.out
      clear HAl
      simp only [List.length_nil] at HC
      go_enter Try.func16, Try.ntmps16
      go_wp2_with (first
        | (go_at_call 22; with_reducible refine (HC.out _ HB).mono ?_; rintro e wq ⟨v, rfl, hown, hq⟩; obtain ⟨ao2, cap2, rfl⟩ := tkv_form hown; clear hown)
        | fail)
      go_quiet (fail)
      go_wp2_with fail
      go_ret
      exact ⟨by rw [HF.out]; rfl, below_drewN (HB.trans (hq.mono (by simp))) nq⟩
    · obtain ⟨X, hX⟩ : ∃ X, T.extract a e0 = X := ⟨_, rfl⟩
      have HX := hidK hX
      simp only [hX] at HAl
      simp only [List.length_cons, List.length_nil] at HC
      clear hX
      by_cases hk : k = K
      · subst hk
        by_cases hx : X = T
        · have HF : Hid (B = true) := by rw [Hid, HAl.out]; simp [hx]
          subst hx
          clear HAl
          go_enter Try.func16, Try.ntmps16
          go_wp2_with (first
            | (go_at_call 22; with_reducible refine (HC.out _ HB).mono ?_; rintro e wq ⟨v, rfl, hown, hq⟩; obtain ⟨g, cap, rfl, hg, hcap, hcl⟩ := tok_cells (L := [(k, a, e0)]) hown (by simp); have d0 : wq.cell? ⟨g, 0, none⟩ = some (.int .u8 k) := (hcl 0 _ rfl).1; have d2 : wq.cell? ⟨g, 2, none⟩ = some (.string X) := HX.out ▸ (hcl 0 _ rfl).2.2; have t0 : wq.cell? ⟨w.heap.size, 0, none⟩ = some (.int .u8 k) := (hq.cell (by simp)).trans (by simp); have t2 : wq.cell? ⟨w.heap.size, 2, none⟩ = some (.string X) := (hq.cell (by simp)).trans (by simp); clear hcl hown)
            | fail)
          go_quiet (fail)
          go_wp2_with fail
          go_ret
          exact ⟨by rw [HF.out]; rfl, below_drewN (HB.trans (hq.mono (by simp))) nq⟩
        · have HF : Hid (B = false) := by rw [Hid, HAl.out]; simp [hx]
          have hxb := ba_ne hx
          clear HAl
          go_enter Try.func16, Try.ntmps16
          go_wp2_with (first
            | (go_at_call 22; with_reducible refine (HC.out _ HB).mono ?_; rintro e wq ⟨v, rfl, hown, hq⟩; obtain ⟨g, cap, rfl, hg, hcap, hcl⟩ := tok_cells (L := [(k, a, e0)]) hown (by simp); have d0 : wq.cell? ⟨g, 0, none⟩ = some (.int .u8 k) := (hcl 0 _ rfl).1; have d2 : wq.cell? ⟨g, 2, none⟩ = some (.string X) := HX.out ▸ (hcl 0 _ rfl).2.2; have t0 : wq.cell? ⟨w.heap.size, 0, none⟩ = some (.int .u8 k) := (hq.cell (by simp)).trans (by simp); have t2 : wq.cell? ⟨w.heap.size, 2, none⟩ = some (.string T) := (hq.cell (by simp)).trans (by simp); clear hcl hown)
            | fail)
          go_quiet (fail)
          go_wp2_with fail
          go_ret
          exact ⟨by rw [HF.out]; rfl, below_drewN (HB.trans (hq.mono (by simp))) nq⟩
      · have HF : Hid (B = false) := by rw [Hid, HAl.out]; simp [hk]
        have hkb : ((k : Int) == (K : Int)) = false := by simp; omega
        have hkc : ¬ (k : Int) = (K : Int) := by omega
        clear HAl
        go_enter Try.func16, Try.ntmps16
        go_wp2_with (first
          | (go_at_call 22; with_reducible refine (HC.out _ HB).mono ?_; rintro e wq ⟨v, rfl, hown, hq⟩; obtain ⟨g, cap, rfl, hg, hcap, hcl⟩ := tok_cells (L := [(k, a, e0)]) hown (by simp); have d0 : wq.cell? ⟨g, 0, none⟩ = some (.int .u8 k) := (hcl 0 _ rfl).1; have d2 : wq.cell? ⟨g, 2, none⟩ = some (.string X) := HX.out ▸ (hcl 0 _ rfl).2.2; have t0 : wq.cell? ⟨w.heap.size, 0, none⟩ = some (.int .u8 K) := (hq.cell (by simp)).trans (by simp); have t2 : wq.cell? ⟨w.heap.size, 2, none⟩ = some (.string T) := (hq.cell (by simp)).trans (by simp); clear hcl hown)
          | fail)
        go_quiet (fail)
        go_wp2_with fail
        go_ret
        exact ⟨by rw [HF.out]; rfl, below_drewN (HB.trans (hq.mono (by simp))) nq⟩
    · have HF : Hid (B = false) := HAl.out
      clear HAl
      obtain ⟨n, hn⟩ : ∃ n, ((k, a, e0) :: x2 :: L2).length = n := ⟨_, rfl⟩
      have hn2 : 2 ≤ n := by rw [← hn]; simp
      rw [hn] at HC hLn
      have hnb : ((n : Int) == 1) = false := by simp; omega
      have hnc : ¬ (n : Int) = 1 := by omega
      clear hn
      go_enter Try.func16, Try.ntmps16
      go_wp2_with (first
        | (go_at_call 22; with_reducible refine (HC.out _ HB).mono ?_; rintro e wq ⟨v, rfl, hown, hq⟩; obtain ⟨ao2, cap2, rfl⟩ := tkv_form hown; clear hown)
        | fail)
      go_quiet (fail)
      go_wp2_with fail
      go_ret
      exact ⟨by rw [HF.out]; rfl, below_drewN (HB.trans (hq.mono (by simp))) nq⟩
  · have hL0 := hE her
    subst hL0
    have HF : Hid (B = false) := HAl.out
    have herb : (er == 0) = false := by simpa using her
    clear HAl
    simp only [List.length_nil] at HC
    go_enter Try.func16, Try.ntmps16
    go_wp2_with (first
      | (go_at_call 22; with_reducible refine (HC.out _ HB).mono ?_; rintro e wq ⟨v, rfl, hown, hq⟩; obtain ⟨ao2, cap2, rfl⟩ := tkv_form hown; clear hown)
      | fail)
    go_quiet (fail)
    go_wp2_with fail
    go_ret
    exact ⟨by rw [HF.out]; rfl, below_drewN (HB.trans (hq.mono (by simp))) nq⟩
end Go.Proofs.Ytpndbbepfjocgaa
