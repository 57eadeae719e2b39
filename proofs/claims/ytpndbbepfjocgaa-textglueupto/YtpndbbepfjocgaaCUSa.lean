import Derived.Test.YtpndbbepfjocgaaCUBy
import Derived.Test.YtpndbbepfjocgaaCKGa
namespace Go.Proofs.Ytpndbbepfjocgaa
open Go.RowKit
set_option maxRecDepth 100000

theorem sgF_is {s : ByteArray} {G : List ByteArray} {a m : Nat} (h1 : m = 0 ∨ Lib.containsS G (s.extract a (a + m)) = true) : ∀ K, m ≤ K → (∀ j, m < j → j ≤ K → Lib.containsS G (s.extract a (a + j)) = false) → sgF s G a K = m
  | 0, h, _ => by simp only [sgF]; omega
  | K + 1, h, h2 => by
    by_cases hm : m = K + 1
    · subst hm
      rcases h1 with h1 | h1
      · omega
      · rw [sgF, if_pos h1]
    · rw [sgF, if_neg (by rw [h2 (K + 1) (by omega) (Nat.le_refl _)]; simp)]
      exact sgF_is h1 K (by omega) (fun j hj1 hj2 => h2 j hj1 (by omega))
theorem ext_size {s : ByteArray} {a m : Nat} (h : a + m ≤ s.size) : (s.extract a (a + m)).size = m := by
  rw [ByteArray.size_extract]; omega
/-- what signAt has found among the first signs -/
def SaI (s : ByteArray) (G : List ByteArray) (a k m : Nat) (B : ByteArray) : Prop :=
  B = s.extract a (a + m) ∧ a + m ≤ s.size ∧ (m = 0 ∨ Lib.containsS G (s.extract a (a + m)) = true) ∧ ∀ j, j < k → ∀ x, G[j]? = some x → a + x.size ≤ s.size → s.extract a (a + x.size) = x → x.size ≤ m
theorem sa_zero (s : ByteArray) (G : List ByteArray) (a : Nat) (ha : a ≤ s.size) : SaI s G a 0 0 ⟨#[]⟩ := by
  refine ⟨?_, by omega, .inl rfl, fun j hj => by omega⟩
  apply ByteArray.ext
  have : (s.extract a (a + 0)).data.size = 0 := by
    have := ext_size (s := s) (a := a) (m := 0) (by omega)
    exact this
  exact (Array.eq_empty_of_size_eq_zero this).symm
theorem sa_end {s : ByteArray} {G : List ByteArray} {a m : Nat} {B : ByteArray} (h : SaI s G a G.length m B) (hG : ∀ x ∈ G, x.size ≤ 3) : m = sgL s G a ∧ B = s.extract a (a + sgL s G a) := by
  obtain ⟨h1, h2, h3, h4⟩ := h
  have hm3 : m ≤ 3 := by
    rcases h3 with h3 | h3
    · omega
    · have := hG _ ((Lib.containsS_iff _ _).1 h3)
      rw [ext_size h2] at this
      exact this
  have e : sgL s G a = m := by
    unfold sgL
    refine sgF_is h3 _ (by omega) (fun j hj1 hj2 => ?_)
    cases hc : Lib.containsS G (s.extract a (a + j)) with
    | false => rfl
    | true =>
      exfalso
      obtain ⟨i, hi, he⟩ := List.getElem_of_mem ((Lib.containsS_iff _ _).1 hc)
      have hz : (s.extract a (a + j)).size = j := ext_size (by omega)
      have := h4 i hi _ (by rw [List.getElem?_eq_getElem hi, he]) (by rw [hz]; omega) (by rw [hz])
      rw [hz] at this
      omega
  exact ⟨e.symm, by rw [e]; exact h1⟩
set_option maxHeartbeats 4000000 in
theorem signAt_any (s : ByteArray) (a : Nat) (ao : Option Addr) (c : Nat) (G : List ByteArray) (w : World) (hl : G.length ≤ 64) (hG : ∀ x ∈ G, x.size ≤ 3) (ha : a ≤ s.size) (hs : s.size ≤ 140737488355328) (hr : GRd w ao G w.heap.size) :
    Calls Try.prog 28 #[.string s, .int .i64 a, .slice ao G.length c] w fun e w' => e = .returned (.string (s.extract a (a + sgL s G a))) ∧ ∃ m, w' = w.drewN m := by
  have HG : Hid (GRd w ao G w.heap.size) := hr
  have HZ : Hid (∀ x ∈ G, x.size ≤ 3) := hG
  clear hr hG
  go_enter Try.func28, Try.ntmps28
  go_wp2_with fail
  go_loopw [7, 8] (fun b i wr => ∃ (k m d : Nat) (B : ByteArray), k ≤ G.length ∧ i = .int .i64 k ∧ b = .string B ∧ B.size = m ∧ Hid (wr = w.drewN d) ∧ Hid (SaI s G a k m B)) (fun _ i _ => G.length - (intOf i).toNat)
  case atStart => exact ⟨0, 0, 0, ⟨#[]⟩, by omega, rfl, rfl, rfl, rfl, sa_zero s G a ha⟩
  case round =>
    obtain ⟨k, m, d, B, hk, rfl, rfl, hBm, HW, HI⟩ := hrel
    by_cases hlt : k < G.length
    · have hltI : (k : Int) < (G.length : Int) := by omega
      obtain ⟨b, off, e, hb, hcell⟩ := HG.out (by omega)
      subst e
      have hck : wr.cell? ⟨b, off + k, none⟩ = some (.string (G.getD k ByteArray.empty)) := by rw [HW.out, World.cell?_drewN]; exact hcell k hlt
      have hgk : G[k]? = some (G.getD k ByteArray.empty) := by rw [List.getD_eq_getElem?_getD, List.getElem?_eq_getElem hlt, Option.getD_some]
      have hx3 := HZ.out _ (gmem hlt)
      have hxm := gmem hlt
      generalize G.getD k ByteArray.empty = x at *
      obtain ⟨h1, h2, h3, h4⟩ := HI.out
      have HN : Hid (∀ m' B', B' = s.extract a (a + m') → a + m' ≤ s.size → (m' = 0 ∨ Lib.containsS G (s.extract a (a + m')) = true) → m ≤ m' → (a + x.size ≤ s.size → s.extract a (a + x.size) = x → x.size ≤ m') → SaI s G a (k + 1) m' B') := fun m' B' q1 q2 q3 q4 q5 => ⟨q1, q2, q3, fun j hj y hy r1 r2 => by
        by_cases hjk : j = k
        · subst hjk
          rw [hgk] at hy
          obtain rfl : x = y := by simpa using hy
          exact q5 r1 r2
        · exact Nat.le_trans (h4 j (by omega) y hy r1 r2) q4⟩
      have HQ1 := hidK h1
      have HQ2 := hidK h2
      have HQ3 := hidK h3
      have HXm := hidK hxm
      clear h1 h2 h3 h4 HI hcell hgk hxm
      obtain ⟨n, hn⟩ : ∃ n, x.size = n := ⟨_, rfl⟩
      rw [hn] at hx3
      have hwr : IntKind.i64.wrap ((a : Int) + (n : Int)) = (a : Int) + (n : Int) := by rw [IntKind.wrap_i64]; omega
      by_cases hnm : m < n
      · have hnmI : (m : Int) < (n : Int) := by omega
        by_cases han : a + n ≤ s.size
        · have hanI : (a : Int) + (n : Int) ≤ (s.size : Int) := by omega
          have hT : ((a : Int) + (n : Int)).toNat = a + n := by omega
          have hle : (a : Int) ≤ (a : Int) + (n : Int) := by omega
          by_cases hex : s.extract a (a + n) = x
          · have HN2 : Hid (SaI s G a (k + 1) n x) := HN.out n x hex.symm han (.inr (by rw [hex, Lib.containsS_iff]; exact HXm.out)) (by omega) (fun _ _ => by omega)
            clear HN
            go_wp2_with fail
            go_quiet (fail)
            go_wp2_with fail
            go_roundw
            case rel => exact ⟨k + 1, n, _, x, by omega, by go_num, rfl, hn, by rw [Hid, HW.out, World.drewN_drewN], HN2⟩
            case measure => simp [intOf]; omega
          · have hexb := ba_ne hex
            have HN2 : Hid (SaI s G a (k + 1) m B) := HN.out m B HQ1.out HQ2.out HQ3.out (Nat.le_refl _) (fun _ h => by rw [hn] at h; exact absurd h hex)
            clear HN
            go_wp2_with fail
            go_quiet (fail)
            go_wp2_with fail
            go_roundw
            case rel => exact ⟨k + 1, m, _, B, by omega, by go_num, rfl, hBm, by rw [Hid, HW.out, World.drewN_drewN], HN2⟩
            case measure => simp [intOf]; omega
        · have hanI : (s.size : Int) < (a : Int) + (n : Int) := by omega
          have hanb : decide ((a : Int) + (n : Int) ≤ (s.size : Int)) = false := by simp; omega
          have HN2 : Hid (SaI s G a (k + 1) m B) := HN.out m B HQ1.out HQ2.out HQ3.out (Nat.le_refl _) (fun h _ => by rw [hn] at h; omega)
          clear HN
          go_wp2_with fail
          go_quiet (fail)
          go_wp2_with fail
          go_roundw
          case rel => exact ⟨k + 1, m, _, B, by omega, by go_num, rfl, hBm, by rw [Hid, HW.out, World.drewN_drewN], HN2⟩
          case measure => simp [intOf]; omega
      · have hnmI : ¬ (m : Int) < (n : Int) := by omega
        have HN2 : Hid (SaI s G a (k + 1) m B) := HN.out m B HQ1.out HQ2.out HQ3.out (Nat.le_refl _) (fun _ _ => by omega)
        clear HN
        go_wp2_with fail
        go_quiet (fail)
        go_wp2_with fail
        go_roundw
        case rel => exact ⟨k + 1, m, _, B, by omega, by go_num, rfl, hBm, by rw [Hid, HW.out, World.drewN_drewN], HN2⟩
        case measure => simp [intOf]; omega
    · obtain rfl : k = G.length := by omega
      have HE := hidK (sa_end HI.out HZ.out).2
      clear HI
      go_wp2_with fail
      go_ret
      exact ⟨by rw [HE.out]; rfl, _, HW.out⟩
end Go.Proofs.Ytpndbbepfjocgaa
namespace Go.Proofs.Ytpndbbepfjocgaa
open Go.RowKit
set_option maxRecDepth 100000

/-- from one place to another there are blanks and comments alone -/
def Pz (s : ByteArray) (i k : Nat) : Prop := i ≤ k ∧ k ≤ s.size ∧ ∀ G f L, s.size - i ≤ f → ∃ g, s.size - k ≤ g ∧ cutF s G f i L = cutF s G g k L
theorem Pz.refl (s : ByteArray) (i : Nat) (h : i ≤ s.size) : Pz s i i := ⟨Nat.le_refl _, h, fun _ f _ hf => ⟨f, hf, rfl⟩⟩
theorem Pz.trans {s : ByteArray} {i j k : Nat} (h1 : Pz s i j) (h2 : Pz s j k) : Pz s i k := by
  refine ⟨Nat.le_trans h1.1 h2.1, h2.2.1, fun G f L hf => ?_⟩
  obtain ⟨g, hg, e⟩ := h1.2.2 G f L hf
  obtain ⟨g2, hg2, e2⟩ := h2.2.2 G g L hg
  exact ⟨g2, hg2, e.trans e2⟩
theorem Pz.of {s : ByteArray} {i k : Nat} (hi : i < s.size) (hik : i < k) (hk : k ≤ s.size) (h : ∀ G, stp s G i = ⟨0, 0, k, 0, 0⟩) : Pz s i k := by
  refine ⟨by omega, hk, fun G f L hf => ?_⟩
  cases f with
  | zero => omega
  | succ f => exact ⟨f, by omega, by simp only [cutF, if_pos hi, h G]; rw [if_pos trivial]⟩
theorem Pz.blank {s : ByteArray} {i : Nat} (hi : i < s.size) (h : bt s i = 9 ∨ bt s i = 13 ∨ bt s i = 32) : Pz s i (i + 1) := by
  refine Pz.of hi (by omega) (by omega) (fun G => ?_)
  have f := first_of s i hi (by omega)
  unfold stp
  rw [f, if_pos (by omega)]
theorem Pz.com {s : ByteArray} {i : Nat} (hi : i < s.size) (h : bt s i = 35) : Pz s i (lnEnd s i) := by
  have hb := lnEnd_bd s i hi (by omega)
  refine Pz.of hi hb.1 hb.2 (fun G => ?_)
  have f := first_of s i hi (by omega)
  unfold stp
  rw [f, if_neg (by omega), if_pos (by omega)]
def Tb (s : ByteArray) (k : Nat) : Prop := k < s.size → bt s k ≠ 9 ∧ bt s k ≠ 13 ∧ bt s k ≠ 32 ∧ bt s k ≠ 35
def PsP (s : ByteArray) (i : Nat) (w w' : World) (e : Ending) : Prop := ∃ k : Nat, e = .returned (.int .i64 k) ∧ Pz s i k ∧ Tb s k ∧ w' = w
set_option maxHeartbeats 4000000 in
theorem passed_any (s : ByteArray) (a : Nat) (w : World) (ha : a ≤ s.size) (hs : s.size ≤ 140737488355328) :
    Calls Try.prog 18 #[.string s, .int .i64 a] w fun e w' => PsP s a w w' e := by
  go_enter Try.func18, Try.ntmps18
  go_wp2_with fail
  go_loopg [1] (s.size - a) (fun gh i wr => ∃ k : Nat, gh = s.size - k ∧ k ≤ s.size ∧ i = .int .i64 k ∧ wr = w ∧ Hid (Pz s a k))
  case atStart => exact ⟨a, rfl, ha, rfl, rfl, Pz.refl s a ha⟩
  case round =>
    obtain ⟨k, hgk, hk, rfl, rfl, HK⟩ := hrel
    by_cases hlt : k < s.size
    · have hltI : (k : Int) < (s.size : Int) := by omega
      have hy := bt_get s k hlt
      by_cases h35 : bt s k = 35
      · obtain ⟨hb1, hb2⟩ := lnEnd_bd s k hlt (by omega)
        have HZ : Hid (Pz s a (lnEnd s k)) := HK.out.trans (Pz.com hlt h35)
        have HS := hidK (lnEnd_spec s k hlt)
        rw [h35] at hy
        clear HK h35
        generalize lnEnd s k = E at *
        generalize gk = g0 at *
        go_wp2_with fail
        go_loopg [1] (E - k) (fun gh i wi => ∃ m : Nat, gh = E - m ∧ k ≤ m ∧ m ≤ E ∧ i = .int .i64 m ∧ wi = wr)
        case atStart => exact ⟨k, rfl, Nat.le_refl _, by omega, rfl, rfl⟩
        case round =>
          obtain ⟨m, hgm, hkm, hmE, rfl, rfl⟩ := hrel
          by_cases hm : m < E
          · have hmI : (m : Int) < (s.size : Int) := by omega
            have hne := HS.out.1 m hkm hm
            have hym := bt_get s m (by omega)
            have hneI : ¬ ((bt s m : Nat) : Int) = 10 := by omega
            have hneb : (((bt s m : Nat) : Int) != 10) = true := by simp; omega
            generalize bt s m = y at *
            go_wp2_with fail
            go_roundg (E - (m + 1))
            case measure => omega
            case rel => exact ⟨m + 1, rfl, by omega, by omega, by go_num, rfl⟩
          · obtain rfl : m = E := by omega
            by_cases hms : m < s.size
            · have hmI : (m : Int) < (s.size : Int) := by omega
              have hym := bt_get s m hms
              rw [(HS.out.2).resolve_left (by omega)] at hym
              go_wp2_with fail
              go_roundg (s.size - m)
              case measure => omega
              case rel => exact ⟨m, rfl, by omega, rfl, rfl, HZ⟩
            · have hmI : ¬ (m : Int) < (s.size : Int) := by omega
              go_wp2_with fail
              go_roundg (s.size - m)
              case measure => omega
              case rel => exact ⟨m, rfl, by omega, rfl, rfl, HZ⟩
      · by_cases hbl : bt s k = 9 ∨ bt s k = 13 ∨ bt s k = 32
        · have HZ : Hid (Pz s a (k + 1)) := HK.out.trans (Pz.blank hlt hbl)
          generalize bt s k = y at *
          clear HK h35
          rcases hbl with rfl | rfl | rfl
          · go_wp2_with fail
            go_roundg (s.size - (k + 1))
            case measure => omega
            case rel => exact ⟨k + 1, rfl, by omega, by go_num, rfl, HZ⟩
          · go_wp2_with fail
            go_roundg (s.size - (k + 1))
            case measure => omega
            case rel => exact ⟨k + 1, rfl, by omega, by go_num, rfl, HZ⟩
          · go_wp2_with fail
            go_roundg (s.size - (k + 1))
            case measure => omega
            case rel => exact ⟨k + 1, rfl, by omega, by go_num, rfl, HZ⟩
        · have HT : Hid (Tb s k) := fun _ => by omega
          generalize bt s k = y at *
          have n1 : ((y : Int) == 9) = false := by simp; omega
          have n2 : ((y : Int) == 13) = false := by simp; omega
          have n3 : ((y : Int) == 32) = false := by simp; omega
          have n4 : ((y : Int) != 35) = true := by simp; omega
          have n5 : ¬ (y : Int) = 35 := by omega
          clear hbl h35
          go_wp2_with fail
          go_ret
          exact ⟨k, rfl, HK.out, HT.out, rfl⟩
    · have hltI : ¬ (k : Int) < (s.size : Int) := by omega
      go_wp2_with fail
      go_ret
      exact ⟨k, rfl, HK.out, fun h => absurd h hlt, rfl⟩
end Go.Proofs.Ytpndbbepfjocgaa
