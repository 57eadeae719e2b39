import Derived.Test.YtpndbbepfjocgaaCUBy
import Derived.Test.YtpndbbepfjocgaaCKGa
import Derived.Test.YtpndbbepfjocgaaRBytes
import Derived.Test.YtpndbbepfjocgaaCQRune
import Derived.Test.YtpndbbepfjocgaaCKTk
import Derived.Laws.ResultCell
namespace Go.Proofs.Ytpndbbepfjocgaa
open Go.RowKit
set_option maxRecDepth 100000

/-- the document's end of a literal -/
def ulV (s : ByteArray) (a : Nat) : Int := if litEnd s a = a then -1 else (litEnd s a : Int)
def ulG (a R : Nat) : Int := if R = a then -1 else (R : Int)
set_option maxHeartbeats 4000000 in
theorem ulitEnd_any (s : ByteArray) (a m : Nat) (w : World) (ha : a < s.size) (hs : s.size ≤ 140737488355328) (hm : m = bt s a) (hm2 : m = 34 ∨ m = 39) :
    Calls Try.prog 40 #[.string s, .int .i64 a, .int .u8 m] w fun e w' => e = .returned (.int .i64 (ulV s a)) ∧ w' = w := by
  obtain ⟨R, hR⟩ : ∃ R, litEnd s a = R := ⟨_, rfl⟩
  have hV : ulV s a = ulG a R := by rw [ulV, hR, ulG]
  rw [hV]
  have HR : Hid (litF s m a s.size (a + 1) = R) := by rw [Hid, hm]; exact hR
  have haI : (a : Int) < (s.size : Int) := by omega
  clear hR hm hV
  go_enter Try.func40, Try.ntmps40
  go_wp2_with fail
  go_loopw [7] (fun i wr => ∃ k f : Nat, a < k ∧ k ≤ s.size + 1 ∧ i = .int .i64 k ∧ wr = w ∧ s.size - k ≤ f ∧ Hid (litF s m a f k = R)) (fun i _ => s.size + 1 - (intOf i).toNat)
  case atStart => exact ⟨a + 1, s.size, by omega, by omega, by simp, rfl, by omega, HR⟩
  case round =>
    clear HR
    obtain ⟨k, f, hak, hk, rfl, rfl, hf, HK⟩ := hrel
    by_cases hlt : k < s.size
    · have hltI : (k : Int) < (s.size : Int) := by omega
      obtain ⟨g, hg, hst⟩ := litF_step s m a f k hlt hf
      rw [Hid, hst] at HK
      have hy := bt_get s k hlt
      generalize bt s k = y at *
      clear hst
      by_cases c3 : y = 92
      · rw [if_neg (by omega), if_neg (by omega), if_pos c3] at HK
        have HK2 := hidK HK
        rw [c3] at hy
        clear HK c3
        go_wp2_with fail
        go_roundw
        case rel => exact ⟨k + 2, g, by omega, by omega, by go_num, trivial, by omega, HK2⟩
        case measure => simp [intOf]; omega
      · have c3I : ¬ (y : Int) = 92 := by omega
        have c3b : ((y : Int) == 92) = false := by simp; omega
        by_cases c2 : y = 10
        · rw [if_neg (by omega), if_pos c2] at HK
          have HK2 : Hid (R = a) := HK.symm
          rw [c2] at hy
          clear HK c2 c3 c3I c3b
          go_wp2_with fail
          go_ret
          exact ⟨by rw [HK2.out, ulG, if_pos rfl]; rfl, rfl⟩
        · have c2I : ¬ (y : Int) = 10 := by omega
          have c2b : ((y : Int) == 10) = false := by simp; omega
          by_cases c1 : y = m
          · subst c1
            rw [if_pos rfl] at HK
            have HK2 : Hid (k + 1 = R) := HK
            clear HK
            go_wp2_with fail
            go_ret
            exact ⟨by rw [ulG, if_neg (by have := HK2.out; omega), ← HK2.out]; rfl, rfl⟩
          · have c1I : ¬ (y : Int) = (m : Int) := by omega
            have c1b : ((y : Int) == (m : Int)) = false := by simp; omega
            rw [if_neg c1, if_neg c2, if_neg c3] at HK
            have HK2 := hidK HK
            clear HK
            go_wp2_with fail
            go_roundw
            case rel => exact ⟨k + 1, g, by omega, by omega, by go_num, trivial, by omega, HK2⟩
            case measure => simp [intOf]; omega
    · have hltI : ¬ (k : Int) < (s.size : Int) := by omega
      have HK2 : Hid (R = a) := by
        rw [Hid]
        have := HK.out
        cases f with
        | zero => exact this.symm
        | succ f => rw [litF, if_neg hlt] at this; exact this.symm
      clear HK
      go_wp2_with fail
      go_ret
      exact ⟨by rw [HK2.out, ulG, if_pos rfl]; rfl, rfl⟩
end Go.Proofs.Ytpndbbepfjocgaa
namespace Go.Proofs.Ytpndbbepfjocgaa
open Go.RowKit
set_option maxRecDepth 100000

theorem results_cell_tmp3 {fn : Func} {p u v : Tmp} {ty : TypeId} (h : fn.results = #[.cell p ty, .tmp u, .tmp v]) (tmps : Array Value) (P : Program) (w : World) :
    (results fn tmps).run P w =
      ((asAddr (tmps.getD p undef)).run P w).andThen fun a w₁ => ((loadVar ty a).run P w₁).andThen fun x w₂ => .ok (.tuple #[x, tmps.getD u undef, tmps.getD v undef]) w₂ := by
  simp only [results, h]
  simp [Sem.run_bind, Result.andThen]
/-- a token, a place and an error that a function gives -/
theorem tk3Res {fn : Func} {p u v : Tmp} (h : fn.results = #[.cell p 40, .tmp u, .tmp v]) (t2 t3 : Value) (W : World) (b : Nat) (cs : Array Value) (h6 : cs.size = 3) (hb : W.heap[b]? = some (.cells cs 40)) (tmps : Array Value) (h2 : tmps.getD p undef = .pointer (some ⟨b, 0, none⟩)) (h3 : tmps.getD u undef = t2) (h4 : tmps.getD v undef = t3) :
    (results fn tmps).run Try.prog W = .ok (.tuple #[.agg cs, t2, t3]) W := by
  obtain ⟨fs, hu⟩ := undTk
  rw [results_cell_tmp3 h, h2, h3, h4]
  have := run_loadVar_row (P := Try.prog) W b 40 40 cs (0, 0) _ hb hu rfl (by rw [infoTk, h6])
  simp only [asAddr, Sem.run_pure, Result.andThen, this]
def LtP (s : ByteArray) (a : Nat) (e : Ending) : Prop := ∃ (k x : Nat) (T : ByteArray) (p er : Int), e = .returned (.tuple #[.agg #[.int .u8 k, .int .i64 x, .string T], .int .i64 p, .int .i64 er]) ∧ er = (litV s a).2.2.2 ∧ (er = 0 → k = (litV s a).1 ∧ x = a ∧ T = s.extract a (litV s a).2.1) ∧ (er ≠ 0 → p = (litV s a).2.2.1)
set_option maxHeartbeats 4000000 in
theorem uliteral_any (s : ByteArray) (a : Nat) (w : World) (ha : a < s.size) (hs : s.size ≤ 524288) (hm2 : bt s a = 34 ∨ bt s a = 39) :
    Calls Try.prog 27 #[.string s, .int .i64 a] w fun e w' => LtP s a e ∧ Below w.heap.size w w' := by
  have hle := litEnd_le s a ha
  have haI : (a : Int) < (s.size : Int) := by omega
  have hE := fun w1 => ulitEnd_any s a (bt s a) w1 ha (by omega) rfl hm2
  have hgx := bt_get s a ha
  by_cases h0 : litEnd s a = a
  · have hP : Hid (LtP s a (.returned (.tuple #[.agg #[.int .u8 0, .int .i64 0, .string ⟨#[]⟩], .int .i64 a, .int .i64 11]))) := ⟨0, 0, ⟨#[]⟩, a, 11, rfl, by rw [litV, if_pos h0], fun h => absurd h (by decide), fun _ => by rw [litV, if_pos h0]⟩
    have hU : ulV s a = -1 := by rw [ulV, if_pos h0]
    rw [hU] at hE
    generalize bt s a = y at *
    clear h0 hU hle
    go_enter Try.func27, Try.ntmps27
    go_wp2_with (first
      | (go_at_call 40; with_reducible refine (hE _).mono ?_; rintro e wq ⟨rfl, hq⟩; subst wq)
      | fail)
    exact bodyPost_ret (tk3Res (p := 4) (u := 5) (v := 6) (by kernel_rfl) _ _ _ w.heap.size #[.int .u8 0, .int .i64 0, .string ⟨#[]⟩] rfl (heap_alloc_last w _) _ rfl rfl rfl) rfl ⟨hP.out, (Below.refl _ _).alloc (Nat.le_refl _) _⟩
  · have hle2 := hle.resolve_left h0
    have hU : ulV s a = (litEnd s a : Int) := by rw [ulV, if_neg h0]
    rw [hU] at hE
    have hLV : litV s a = (if bt s a = 34 then (if (bV (s.extract a (litEnd s a))).2.2 = 0 then (3, litEnd s a, 0, 0) else (0, 0, a + (bV (s.extract a (litEnd s a))).2.1, (bV (s.extract a (litEnd s a))).2.2))
      else (if (runeV (s.extract a (litEnd s a))).2.2 = 0 then (4, litEnd s a, 0, 0) else (0, 0, a + (runeV (s.extract a (litEnd s a))).2.1, (runeV (s.extract a (litEnd s a))).2.2)) : Nat × Nat × Int × Int) := by rw [litV, if_neg h0]
    have HLV := hidK hLV
    clear hLV hle hU h0
    generalize litEnd s a = E at *
    obtain ⟨he1, he2⟩ := hle2
    have h1 : (a : Int) ≤ (E : Int) := by omega
    have h2 : (E : Int) ≤ (s.size : Int) := by omega
    have h3 : ¬ (E : Int) < 0 := by omega
    have hT : (s.extract a E).size ≤ 1048576 := by rw [ByteArray.size_extract]; omega
    have hBy := fun w1 => rbytes_any (s.extract a E) w1 hT
    have hRu := fun w1 => rrune_any (s.extract a E) w1 (by omega)
    obtain ⟨T, hTT⟩ : ∃ T, s.extract a E = T := ⟨_, rfl⟩
    have HTT := hidK hTT
    rw [hTT] at hT hBy hRu
    rw [Hid, hTT] at HLV
    have HLV2 := hidK HLV
    clear HLV
    rcases hm2 with hy | hy
    · rw [hy] at hgx hE HLV2
      have hE2 : ∀ w1, Calls Try.prog 40 #[.string s, .int .i64 a, .int .u8 34] w1 fun e w' => e = .returned (.int .i64 (E : Int)) ∧ w' = w1 := hE
      have hPl := bV_place T
      have HP : Hid (LtP s a (.returned (.tuple #[.agg #[.int .u8 3, .int .i64 a, .string T], .int .i64 ((a : Int) + ((bV T).2.1 : Nat)), .int .i64 (bV T).2.2]))) := by
        refine ⟨3, a, T, _, _, rfl, ?_, fun h => ?_, fun h => ?_⟩
        · rw [HLV2.out, if_pos rfl]; split <;> simp_all
        · rw [HLV2.out, if_pos rfl, if_pos h]; exact ⟨rfl, rfl, HTT.out.symm⟩
        · rw [HLV2.out, if_pos rfl, if_neg h]
      generalize (bV T).2.2 = er at *
      generalize (bV T).2.1 = pl at *
      clear HLV2 hRu hy hE
      go_enter Try.func27, Try.ntmps27
      go_wp2_with (first
        | (go_at_call 40; with_reducible refine (hE2 _).mono ?_; rintro e wq ⟨rfl, hq⟩; subst wq)
        | (go_at_call 41; with_reducible refine (hBy _).mono ?_; rintro e wq ⟨v, rfl, hown, hq⟩)
        | (refine wpList_store_row rfl _ _ _ rfl w.heap.size _ (tkA 3 a T) rfl rfl (hpT hq) (by rw [infoTk]; rfl) rfl (tk_all _ _ _) ?_))
      exact bodyPost_ret (tk3Res (p := 4) (u := 5) (v := 6) (by kernel_rfl) _ _ _ w.heap.size (tkA 3 a T) rfl (setRow_heap _ _ _ _ _ _ (hpT hq)) _ rfl rfl rfl) rfl ⟨HP.out, below_setRow (((Below.refl _ _).alloc (Nat.le_refl _) _).trans (hq.mono (by simp))) (Nat.le_refl _) _⟩
    · rw [hy] at hgx hE HLV2
      have hE2 : ∀ w1, Calls Try.prog 40 #[.string s, .int .i64 a, .int .u8 39] w1 fun e w' => e = .returned (.int .i64 (E : Int)) ∧ w' = w1 := hE
      have hPl := runeV_place T
      have HP : Hid (LtP s a (.returned (.tuple #[.agg #[.int .u8 4, .int .i64 a, .string T], .int .i64 ((a : Int) + (runeV T).2.1), .int .i64 (runeV T).2.2]))) := by
        refine ⟨4, a, T, _, _, rfl, ?_, fun h => ?_, fun h => ?_⟩
        · rw [HLV2.out, if_neg (by decide)]; split <;> simp_all
        · rw [HLV2.out, if_neg (by decide), if_pos h]; exact ⟨rfl, rfl, HTT.out.symm⟩
        · rw [HLV2.out, if_neg (by decide), if_neg h]
      unfold runeR at hRu
      generalize (runeV T).2.2 = er at *
      generalize (runeV T).2.1 = pl at *
      generalize (runeV T).1 = rr at *
      obtain ⟨hp0, hp1⟩ := hPl
      clear HLV2 hBy hy hE
      go_enter Try.func27, Try.ntmps27
      go_wp2_with (first
        | (go_at_call 40; with_reducible refine (hE2 _).mono ?_; rintro e wq ⟨rfl, hq⟩; subst wq)
        | (go_at_call 42; with_reducible refine (hRu _).mono ?_; rintro e wq ⟨rfl, hq⟩)
        | (refine wpList_store_row rfl _ _ _ rfl w.heap.size _ (tkA 4 a T) rfl rfl (hpT hq) (by rw [infoTk]; rfl) rfl (tk_all _ _ _) ?_))
      exact bodyPost_ret (tk3Res (p := 4) (u := 5) (v := 6) (by kernel_rfl) _ _ _ w.heap.size (tkA 4 a T) rfl (setRow_heap _ _ _ _ _ _ (hpT hq)) _ rfl rfl rfl) rfl ⟨HP.out, below_setRow (((Below.refl _ _).alloc (Nat.le_refl _) _).trans (hq.mono (by simp))) (Nat.le_refl _) _⟩
end Go.Proofs.Ytpndbbepfjocgaa
