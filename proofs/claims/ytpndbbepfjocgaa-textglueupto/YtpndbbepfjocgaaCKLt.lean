import Derived.Test.YtpndbbepfjocgaaKFe
import Derived.Test.YtpndbbepfjocgaaCKSp
import Derived.Laws.CopyOwn
import Derived.Deep.WholeRow
namespace Go.Proofs.Ytpndbbepfjocgaa
open Go.RowKit
set_option maxRecDepth 100000

theorem litF_le (s : ByteArray) (m a : Nat) (ha : a ≤ s.size) : ∀ f i, a < i → litF s m a f i = a ∨ (i < litF s m a f i ∧ litF s m a f i ≤ s.size)
  | 0, i, _ => .inl rfl
  | f + 1, i, hi => by
    unfold litF
    split
    · split
      · right; omega
      · split
        · left; rfl
        · split
          · rcases litF_le s m a ha f (i + 2) (by omega) with h | h
            · left; exact h
            · right; omega
          · rcases litF_le s m a ha f (i + 1) (by omega) with h | h
            · left; exact h
            · right; omega
    · left; rfl
theorem litEnd_le (s : ByteArray) (a : Nat) (ha : a < s.size) : litEnd s a = a ∨ (a < litEnd s a ∧ litEnd s a ≤ s.size) := by
  rcases litF_le s (bt s a) a (by omega) s.size (a + 1) (by omega) with h | h
  · left; exact h
  · right; unfold litEnd; omega
theorem bgo_place (s : ByteArray) : ∀ f i L, i ≤ s.size → (bgo s f i L).2.1 ≤ s.size
  | 0, i, L, h => h
  | f + 1, i, L, h => by
    by_cases hlt : i < s.size
    · by_cases h34 : bt s i = 34
      · by_cases h1 : i + 1 < s.size
        · rw [bgo_34a s f i L h1 h34]; exact Nat.le_of_lt h1
        · rw [bgo_34b s f i L hlt h1 h34]; exact Nat.zero_le _
      · by_cases he : (readV (sub s i)).2.2.2 = 0
        · rw [bgo_ok s f i L hlt h34 he]
          have := read_size (u := sub s i) (by rw [sub_size]; omega) he
          rw [sub_size] at this
          exact bgo_place s f _ _ (by omega)
        · rw [bgo_bad s f i L hlt h34 he]; exact h
    · rw [bgo_end s _ i L hlt]; exact h
theorem bV_place (s : ByteArray) : (bV s).2.1 ≤ s.size := by
  unfold bV
  split
  · rename_i hq
    have : 0 < s.size ∧ bt s 0 = 34 := of_decide_eq_true hq
    exact bgo_place s _ 1 _ this.1
  · exact Nat.zero_le _
theorem runeV_place (s : ByteArray) : 0 ≤ (runeV s).2.1 ∧ (runeV s).2.1 ≤ s.size := by
  unfold runeV
  split
  · exact ⟨Int.le_refl _, by simp⟩
  · rename_i h0
    have hz : 0 < s.size := by
      have : qAt s 0 = true := by simpa using h0
      exact (of_decide_eq_true this).1
    split
    · simp only; omega
    · split
      · simp only; omega
      · split
        · simp only; omega
        · rename_i h1 h2 h3
          have hr := read_size (u := sub s 1) (by rw [sub_size]; omega) (by simpa using h3)
          rw [sub_size] at hr
          split
          · simp only; omega
          · split
            · simp only; omega
            · simp only; omega
theorem results_four {fn : Func} {t u v x : Tmp} (h : fn.results = #[.tmp t, .tmp u, .tmp v, .tmp x]) (tmps : Array Value) (P : Program) (w : World) :
    (results fn tmps).run P w = .ok (.tuple #[tmps.getD t undef, tmps.getD u undef, tmps.getD v undef, tmps.getD x undef]) w := by
  simp [results, h]
set_option maxHeartbeats 4000000 in
theorem literalAt_any (s : ByteArray) (a : Nat) (w : World) (ha : a < s.size) (hs : s.size ≤ 524288) :
    Calls Try.prog 38 #[.string s, .int .i64 a] w fun e w' => e = .returned (.tuple #[.int .u8 (litV s a).1, .int .i64 (litV s a).2.1, .int .i64 (litV s a).2.2.1, .int .i64 (litV s a).2.2.2]) ∧ Below w.heap.size w w' := by
  have hE := fun w => litEnd_any s a w ha (by omega)
  have hle := litEnd_le s a ha
  obtain ⟨V, hV⟩ : ∃ V, V = litV s a := ⟨_, rfl⟩
  rw [← hV]
  unfold litV at hV
  obtain ⟨E, hEE⟩ : ∃ E, litEnd s a = E := ⟨_, rfl⟩
  rw [hEE] at hE hle hV
  clear hEE
  have haI : (a : Int) < (s.size : Int) := by omega
  by_cases h0 : E = a
  · subst h0
    rw [if_pos rfl] at hV
    rw [hV]
    clear hV hle
    go_enter Try.func38, Try.ntmps38
    go_wp2_with (first
      | (go_at_call 49; with_reducible refine (hE _).mono ?_; rintro e wq ⟨rfl, hq⟩; subst wq)
      | fail)
    refine bodyPost_ret (results_four rfl _ _ _) rfl ?_
    exact ⟨rfl, Below.refl _ _⟩
  · rw [if_neg h0] at hV
    obtain ⟨hle1, hle2⟩ : a < E ∧ E ≤ s.size := by omega
    have h0I : ¬ (E : Int) = (a : Int) := by omega
    have h1I : (a : Int) ≤ (E : Int) := by omega
    have h2I : (E : Int) ≤ (s.size : Int) := by omega
    have hy := bt_get s a ha
    obtain ⟨T, hT⟩ : ∃ T, s.extract a E = T := ⟨_, rfl⟩
    have hTz : T.size ≤ 1048576 := by rw [← hT]; simp; omega
    have hBy := fun w => bytes_any T w hTz
    have hRu := fun w => rune_any T w (by omega)
    rw [hT] at hV
    clear hle h0
    by_cases h34 : bt s a = 34
    · rw [if_pos h34] at hV
      rw [h34] at hy
      clear hRu h34
      have hpl := bV_place T
      have hTs : T.size ≤ s.size - a := by rw [← hT]; simp; omega
      generalize bV T = b at *
      obtain ⟨b1, b2, b3⟩ := b
      have hpl2 : b2 ≤ s.size := by simp only at hpl; omega
      clear hpl
      by_cases hb : b3 = 0
      · subst hb
        rw [if_pos rfl] at hV
        rw [hV]
        clear hV
        go_enter Try.func38, Try.ntmps38
        go_wp2_with (first
          | (go_at_call 49; with_reducible refine (hE _).mono ?_; rintro e wq ⟨rfl, hq⟩; subst wq)
          | (go_at_call 50; with_reducible refine (hBy _).mono ?_; rintro e wq ⟨v, rfl, hown, hq⟩; clear hown)
          | fail)
        refine bodyPost_ret (results_four rfl _ _ _) rfl ?_
        exact ⟨rfl, hq⟩
      · rw [if_neg hb] at hV
        rw [hV]
        clear hV
        go_enter Try.func38, Try.ntmps38
        go_wp2_with (first
          | (go_at_call 49; with_reducible refine (hE _).mono ?_; rintro e wq ⟨rfl, hq⟩; subst wq)
          | (go_at_call 50; with_reducible refine (hBy _).mono ?_; rintro e wq ⟨v, rfl, hown, hq⟩; clear hown)
          | fail)
        refine bodyPost_ret (results_four rfl _ _ _) rfl ?_
        exact ⟨rfl, hq⟩
    · rw [if_neg h34] at hV
      have h34I : ¬ ((bt s a : Nat) : Int) = 34 := by omega
      generalize bt s a = y at *
      clear hBy
      have hpl := runeV_place T
      have hTs : T.size ≤ s.size - a := by rw [← hT]; simp; omega
      generalize runeV T = b at *
      obtain ⟨b1, b2, b3⟩ := b
      obtain ⟨hp1, hp2⟩ := hpl
      have hp3 : b2 ≤ (s.size : Int) := by simp only at hp2; omega
      simp only at hp1
      clear hp2 hTs
      by_cases hb : b3 = 0
      · subst hb
        rw [if_pos rfl] at hV
        rw [hV]
        clear hV
        go_enter Try.func38, Try.ntmps38
        go_wp2_with (first
          | (go_at_call 49; with_reducible refine (hE _).mono ?_; rintro e wq ⟨rfl, hq⟩; subst wq)
          | (go_at_call 51; with_reducible refine (hRu _).mono ?_; rintro e wq ⟨rfl, hq⟩; unfold runeR; dsimp only)
          | fail)
        refine bodyPost_ret (results_four rfl _ _ _) rfl ?_
        exact ⟨rfl, hq⟩
      · rw [if_neg hb] at hV
        rw [hV]
        clear hV
        go_enter Try.func38, Try.ntmps38
        go_wp2_with (first
          | (go_at_call 49; with_reducible refine (hE _).mono ?_; rintro e wq ⟨rfl, hq⟩; subst wq)
          | (go_at_call 51; with_reducible refine (hRu _).mono ?_; rintro e wq ⟨rfl, hq⟩; unfold runeR; dsimp only)
          | fail)
        refine bodyPost_ret (results_four rfl _ _ _) rfl ?_
        exact ⟨rfl, hq⟩
end Go.Proofs.Ytpndbbepfjocgaa
namespace Go.Proofs.Ytpndbbepfjocgaa
open Go.RowKit
set_option maxRecDepth 100000

theorem clone_any (t : ByteArray) (w : World) (ht : t.size ≤ 524288) :
    Calls Try.prog 52 #[.string t] w fun e w' => e = .returned (.string t) ∧ Below w.heap.size w w' := by
  have h := fun w => Try.stringslite_Clone t w (by omega)
  go_enter Try.func52, Try.ntmps52
  go_wp2_with (go_at_call 59; refine (h _).mono ?_; rintro e wq ⟨rfl, hq⟩)
  go_ret
  exact ⟨rfl, hq⟩
theorem wpList_store_row {P : Program} {ops : Array Oper} {Q : Exit → Act → World → Prop} {rest : List Oper} {o : Oper} {a : Act} {w : World} (hg : o.guard = none) (t : TypeId) (p q : Operand) (ho : o.op = .store t p q)
    (b : Nat) (cs cs' : Array Value) (h0 : a.eval p = .pointer (some ⟨b, 0, none⟩)) (h1 : a.eval q = .agg cs') (hb : w.heap[b]? = some (.cells cs t)) (hi : (P.info? t).map (·.size) = some cs'.size) (hs : cs.size = cs'.size) (h2 : cs'.all (·.oneCell') = true)
    (h : wpList P ops Q rest (a.put o.dst undef) (w.setRow b cs')) : wpList P ops Q (o :: rest) a w := by
  refine wpList_plain hg fun _ hK => ?_
  have := run_storeVar_row (P := P) w b t t cs cs' hb hi hs h2
  unfold Oper.wp
  have hr : (execOp a.eval o).run P w = .ok .skip (w.setRow b cs') := by
    simp only [execOp, ho, h0, h1, Instr.storeAt, Instr.sureAddr, Sem.run_bind, Sem.run_pure, Result.andThen, this]
  rw [hr]
  exact hK _ _ h
theorem infoTk : (Try.prog.info? 40).map (·.size) = some 3 := by kernel_rfl
theorem undTk : ∃ fs, Try.prog.underlying 40 = some (.struct fs) := by
  have h : (match Try.prog.underlying 40 with | some (.struct _) => true | _ => false) = true := by kernel_rfl
  split at h
  · exact ⟨_, by assumption⟩
  · cases h
abbrev tkA (k a : Nat) (T : ByteArray) : Array Value := #[.int .u8 k, .int .i64 a, .string T]
theorem tk_all (k a : Nat) (T : ByteArray) : (tkA k a T).all (·.oneCell') = true := by kernel_rfl
theorem tkRes (W : World) (b : Nat) (cs : Array Value) (h3 : cs.size = 3) (hb : W.heap[b]? = some (.cells cs 40)) (tmps : Array Value) (h2 : tmps.getD 8 undef = .pointer (some ⟨b, 0, none⟩)) :
    (results Try.f39 tmps).run Try.prog W = .ok (.agg cs) W := by
  obtain ⟨fs, hu⟩ := undTk
  exact results_cell_row (p := 8) (ty := 40) (by kernel_rfl) tmps W b 40 cs (0, 0) _ h2 hb hu rfl (by rw [infoTk, h3])
theorem hpT {w W : World} {o : Obj} (h : Below (w.alloc o).heap.size (w.alloc o) W) : W.heap[w.heap.size]? = some o := by
  rw [h.block w.heap.size (by simp)]
  exact heap_alloc_last w o
set_option maxHeartbeats 1000000 in
theorem tokenOf_any (s : ByteArray) (a b k : Nat) (w : World) (hab : a ≤ b) (hb : b ≤ s.size) (hs : s.size ≤ 524288) :
    Calls Try.prog 39 #[.string s, .int .i64 a, .int .i64 b, .int .u8 k] w fun e w' => e = .returned (.agg #[.int .u8 k, .int .i64 a, .string (s.extract a b)]) ∧ Below w.heap.size w w' := by
  have h1 : (a : Int) ≤ (b : Int) := by omega
  have h2 : (b : Int) ≤ (s.size : Int) := by omega
  have hC := fun w => clone_any (s.extract a b) w (by simp; omega)
  obtain ⟨T, hT⟩ : ∃ T, s.extract a b = T := ⟨_, rfl⟩
  rw [hT] at hC ⊢
  go_enter Try.func39, Try.ntmps39
  go_wp2_with (first
    | (go_at_call 52; with_reducible refine (hC _).mono ?_; rintro e wq ⟨rfl, hq⟩)
    | (refine wpList_store_row rfl _ _ _ rfl w.heap.size _ (tkA k a T) rfl rfl (hpT hq) (by rw [infoTk]; rfl) rfl (tk_all _ _ _) ?_))
  exact bodyPost_ret (tkRes _ w.heap.size (tkA k a T) rfl (setRow_heap _ _ _ _ _ _ (hpT hq)) _ rfl) rfl ⟨rfl, below_setRow (((Below.refl _ _).alloc (Nat.le_refl _) _).trans (hq.mono (by simp))) (Nat.le_refl _) _⟩
end Go.Proofs.Ytpndbbepfjocgaa
namespace Go.Proofs.Ytpndbbepfjocgaa
open Go.RowKit
set_option maxRecDepth 100000

/-- the bytes of which signs are made -/
def sgB : ByteArray := ⟨#[33, 36, 37, 38, 40, 41, 42, 43, 44, 45, 46, 47, 58, 59, 60, 61, 62, 63, 64, 91, 93, 94, 123, 124, 125, 126]⟩
def sgI (c : Nat) : Int := Lib.indexByte sgB.data.toList (c : Int).toNat.toUInt8
def sgA (s : ByteArray) : Nat → Bool
  | 0 => true
  | k + 1 => sgA s k && decide (0 ≤ sgI (bt s k))
def isSg (s : ByteArray) : Bool := decide (0 < s.size) && decide (s.size ≤ 3) && sgA s s.size
def mayF (G : List ByteArray) : Nat → Bool
  | 0 => true
  | k + 1 => mayF G k && (isSg (G.getD k ByteArray.empty) && !Lib.containsS (G.take k) (G.getD k ByteArray.empty))
def mayB (G : List ByteArray) : Bool := decide (G.length ≤ 64) && mayF G G.length
theorem sgA_mono (s : ByteArray) : ∀ k n, k ≤ n → sgA s n = true → sgA s k = true
  | k, 0, h, hn => by obtain rfl : k = 0 := by omega
                      rfl
  | k, n + 1, h, hn => by
    simp only [sgA, Bool.and_eq_true] at hn
    rcases Nat.lt_or_ge k (n + 1) with h1 | h1
    · exact sgA_mono s k n (by omega) hn.1
    · obtain rfl : k = n + 1 := by omega
      simp only [sgA, Bool.and_eq_true]; exact hn
theorem sgA_false (s : ByteArray) (k n : Nat) (h : k < n) (h2 : decide (0 ≤ sgI (bt s k)) = false) : sgA s n = false := by
  cases hn : sgA s n with
  | false => rfl
  | true =>
    have := sgA_mono s (k + 1) n h hn
    simp only [sgA, Bool.and_eq_true, h2] at this
    exact absurd this.2 (by simp)
theorem mayF_mono (G : List ByteArray) : ∀ k n, k ≤ n → mayF G n = true → mayF G k = true
  | k, 0, h, hn => by obtain rfl : k = 0 := by omega
                      rfl
  | k, n + 1, h, hn => by
    simp only [mayF, Bool.and_eq_true] at hn
    rcases Nat.lt_or_ge k (n + 1) with h1 | h1
    · exact mayF_mono G k n (by omega) hn.1
    · obtain rfl : k = n + 1 := by omega
      simp only [mayF, Bool.and_eq_true]; exact hn
theorem mayF_false (G : List ByteArray) (k n : Nat) (h : k < n) (h2 : (isSg (G.getD k ByteArray.empty) && !Lib.containsS (G.take k) (G.getD k ByteArray.empty)) = false) : mayF G n = false := by
  cases hn : mayF G n with
  | false => rfl
  | true =>
    have := mayF_mono G (k + 1) n h hn
    rw [mayF, h2] at this
    simp at this
set_option maxHeartbeats 2000000 in
theorem isSign_any (s : ByteArray) (w : World) (hs : s.size ≤ 9223372036854775807) :
    Calls Try.prog 20 #[.string s] w fun e w' => e = .returned (.bool (isSg s)) ∧ w' = w := by
  by_cases h0 : s.size = 0
  · obtain rfl : s = ⟨#[]⟩ := by
      apply ByteArray.ext
      exact Array.eq_empty_of_size_eq_zero h0
    go_enter Try.func20, Try.ntmps20
    go_wp2
    go_ret
    exact ⟨rfl, rfl⟩
  have hne : ¬ s.toList = [] := by
    intro h
    rw [ByteArray.toList_eq] at h
    exact h0 (by rw [Lib.size_eq, h]; rfl)
  have hne2 : s.toList.isEmpty = false := by
    cases hh : s.toList with
    | nil => exact absurd hh hne
    | cons a l => rfl
  by_cases h3 : 3 < s.size
  · have e : isSg s = false := by simp [isSg]; omega
    rw [e]
    have h3I : (3 : Int) < (s.size : Int) := by omega
    go_enter Try.func20, Try.ntmps20
    go_wp2
    go_ret
    exact ⟨rfl, rfl⟩
  have h3I : ¬ (3 : Int) < (s.size : Int) := by omega
  obtain ⟨R, hR⟩ : ∃ R, isSg s = R := ⟨_, rfl⟩
  have HR : Hid (sgA s s.size = R) := by rw [Hid, ← hR]; simp [isSg]; intro _; omega
  rw [hR]
  clear hR
  go_enter Try.func20, Try.ntmps20
  go_wp2_with fail
  go_loopw [13] (fun i wr => ∃ k : Nat, k ≤ s.size ∧ i = .int .i64 k ∧ wr = w ∧ Hid (sgA s k = true)) (fun i _ => s.size - (intOf i).toNat)
  case atStart => exact ⟨0, by omega, rfl, rfl, rfl⟩
  case round =>
    obtain ⟨k, hk, rfl, rfl, HK⟩ := hrel
    by_cases hlt : k < s.size
    · have hltI : (k : Int) < (s.size : Int) := by omega
      have hy := bt_get s k hlt
      have hI : Calls Try.prog 30 #[.string ⟨#[33, 36, 37, 38, 40, 41, 42, 43, 44, 45, 46, 47, 58, 59, 60, 61, 62, 63, 64, 91, 93, 94, 123, 124, 125, 126]⟩, .int .u8 ((bt s k : Nat) : Int)] wr fun e w' => e = .returned (.int .i64 (sgI (bt s k))) ∧ w' = wr := Try.strings_IndexByte sgB _ _
      by_cases hr : 0 ≤ sgI (bt s k)
      · have HS : Hid (sgA s (k + 1) = true) := by rw [Hid, sgA, HK.out]; simp [hr]
        clear HK
        generalize sgI (bt s k) = r at *
        generalize bt s k = y at *
        have hrn : ¬ r < 0 := by omega
        go_wp2_with (first
          | (go_at_call 30; with_reducible refine hI.mono ?_; rintro e wq ⟨rfl, hq⟩; subst wq)
          | fail)
        go_roundw
        case rel => exact ⟨k + 1, by omega, by go_num, trivial, HS⟩
        case measure => simp [intOf]; omega
      · have HS : Hid (R = false) := by rw [Hid, ← HR.out]; exact sgA_false s k s.size hlt (by simp; omega)
        clear HK HR
        generalize sgI (bt s k) = r at *
        generalize bt s k = y at *
        have hrn : r < 0 := by omega
        go_wp2_with (first
          | (go_at_call 30; with_reducible refine hI.mono ?_; rintro e wq ⟨rfl, hq⟩; subst wq)
          | fail)
        go_ret
        exact ⟨by rw [HS.out]; rfl, rfl⟩
    · obtain rfl : k = s.size := by omega
      have HS : Hid (R = true) := by rw [Hid, ← HR.out]; exact HK.out
      clear HK HR
      go_wp2_with fail
      go_ret
      exact ⟨by rw [HS.out]; rfl, rfl⟩
end Go.Proofs.Ytpndbbepfjocgaa
namespace Go.Proofs.Ytpndbbepfjocgaa
open Go.RowKit
set_option maxRecDepth 100000

/-- what a slice of strings that is read holds -/
def GRd (w : World) (ao : Option Addr) (G : List ByteArray) (B : Nat) : Prop :=
  0 < G.length → ∃ b off, ao = some ⟨b, off, none⟩ ∧ b < B ∧ ∀ j, j < G.length → w.cell? ⟨b, off + j, none⟩ = some (.string (G.getD j ByteArray.empty))
theorem GRd.below {w w' : World} {ao : Option Addr} {G : List ByteArray} {B : Nat} (h : GRd w ao G B) (hb : Below B w w') : GRd w' ao G B := by
  intro hl
  obtain ⟨b, off, e, hlt, hc⟩ := h hl
  exact ⟨b, off, e, hlt, fun j hj => (hb.cell (p := ⟨b, off + j, none⟩) hlt).trans (hc j hj)⟩
theorem GRd.mono {w : World} {ao : Option Addr} {G : List ByteArray} {B C : Nat} (h : GRd w ao G B) (hb : B ≤ C) : GRd w ao G C := by
  intro hl
  obtain ⟨b, off, e, hlt, hc⟩ := h hl
  exact ⟨b, off, e, Nat.lt_of_lt_of_le hlt hb, hc⟩
theorem gmem {G : List ByteArray} {k : Nat} (h : k < G.length) : G.getD k ByteArray.empty ∈ G := by
  rw [List.getD_eq_getElem?_getD, List.getElem?_eq_getElem h]; exact List.getElem_mem h
theorem contains_any (ao : Option Addr) (G : List ByteArray) (k c : Nat) (x : ByteArray) (w : World) (B : Nat) (hk : k ≤ G.length) (hl : G.length ≤ 64) (hr : GRd w ao G B) :
    Calls Try.prog 21 #[.slice ao k c, .string x] w fun e w' => e = .returned (.bool (Lib.containsS (G.take k) x)) ∧ w' = w := by
  by_cases h0 : k = 0
  · subst h0
    exact Try.slices_Contains_string_empty ao c x w
  · obtain ⟨b, off, rfl, _, hc⟩ := hr (by omega)
    exact Try.slices_Contains_string b off k c G x w hk (by omega) hc
set_option maxHeartbeats 2000000 in
theorem mayBe_any (ao : Option Addr) (c : Nat) (G : List ByteArray) (w : World) (hc : G.length ≤ c) (hl : G.length ≤ 9223372036854775807) (hz : ∀ x ∈ G, x.size ≤ 9223372036854775807) (hr : GRd w ao G w.heap.size) :
    Calls Try.prog 15 #[.slice ao G.length c] w fun e w' => e = .returned (.bool (mayB G)) ∧ w' = w := by
  by_cases h64 : 64 < G.length
  · have e : mayB G = false := by simp [mayB]; omega
    rw [e]
    have h64I : (64 : Int) < (G.length : Int) := by omega
    go_enter Try.func15, Try.ntmps15
    go_wp2_with fail
    go_ret
    exact ⟨rfl, rfl⟩
  have h64I : ¬ (64 : Int) < (G.length : Int) := by omega
  obtain ⟨R, hR⟩ : ∃ R, mayB G = R := ⟨_, rfl⟩
  have HR : Hid (mayF G G.length = R) := by rw [Hid, ← hR]; simp [mayB]; intro _; omega
  have HG : Hid (GRd w ao G w.heap.size) := hr
  have HZ : Hid (∀ x ∈ G, x.size ≤ 9223372036854775807) := hz
  have HCn : Hid (∀ k x, k ≤ G.length → Calls Try.prog 21 #[.slice ao k c, .string x] w fun e w' => e = .returned (.bool (Lib.containsS (G.take k) x)) ∧ w' = w) := fun k x hk => contains_any ao G k c x w _ hk (by omega) hr
  rw [hR]
  clear hR hr hz
  go_enter Try.func15, Try.ntmps15
  go_wp2_with fail
  go_loopw [10] (fun i wr => ∃ k : Nat, k ≤ G.length ∧ i = .int .i64 k ∧ wr = w ∧ Hid (mayF G k = true)) (fun i _ => G.length - (intOf i).toNat)
  case atStart => exact ⟨0, by omega, rfl, rfl, rfl⟩
  case round =>
    obtain ⟨k, hk, rfl, rfl, HK⟩ := hrel
    by_cases hlt : k < G.length
    · have hltI : (k : Int) < (G.length : Int) := by omega
      have hkc : (k : Int) ≤ (c : Int) := by omega
      obtain ⟨b, off, e, hb, hcell⟩ := HG.out (by omega)
      subst e
      have hck := hcell k hlt
      have hS := isSign_any (G.getD k ByteArray.empty) wr (HZ.out _ (gmem hlt))
      have hC := HCn.out k (G.getD k ByteArray.empty) hk
      have HM : Hid (mayF G (k + 1) = (isSg (G.getD k ByteArray.empty) && !Lib.containsS (G.take k) (G.getD k ByteArray.empty))) := by rw [Hid, mayF, HK.out]; rfl
      have HF : Hid ((isSg (G.getD k ByteArray.empty) && !Lib.containsS (G.take k) (G.getD k ByteArray.empty)) = false → R = false) := fun h => by rw [← HR.out]; exact mayF_false G k _ hlt h
      clear hcell HCn HG HK
      generalize G.getD k ByteArray.empty = x at *
      generalize Lib.containsS (G.take k) x = cs at *
      cases hs : isSg x with
      | false =>
        rw [hs] at hS HF
        have HF2 : Hid (R = false) := HF.out rfl
        clear HF HM
        go_wp2_with (first
          | (go_at_call 20; with_reducible refine hS.mono ?_; rintro e wq ⟨rfl, hq⟩; subst wq)
          | fail)
        go_ret
        exact ⟨by rw [HF2.out]; rfl, rfl⟩
      | true =>
        rw [hs] at hS HF HM
        cases cs with
        | true =>
          have HF2 : Hid (R = false) := HF.out rfl
          clear HF HM
          go_wp2_with (first
            | (go_at_call 20; with_reducible refine hS.mono ?_; rintro e wq ⟨rfl, hq⟩; subst wq)
            | (go_at_call 21; with_reducible refine hC.mono ?_; rintro e wq ⟨rfl, hq⟩; subst wq)
            | fail)
          go_ret
          exact ⟨by rw [HF2.out]; rfl, rfl⟩
        | false =>
          have HM2 : Hid (mayF G (k + 1) = true) := HM.out
          clear HF HM
          go_wp2_with (first
            | (go_at_call 20; with_reducible refine hS.mono ?_; rintro e wq ⟨rfl, hq⟩; subst wq)
            | (go_at_call 21; with_reducible refine hC.mono ?_; rintro e wq ⟨rfl, hq⟩; subst wq)
            | fail)
          go_roundw
          case rel => exact ⟨k + 1, by omega, by go_num, trivial, HM2⟩
          case measure => simp [intOf]; omega
    · obtain rfl : k = G.length := by omega
      have HS : Hid (R = true) := by rw [Hid, ← HR.out]; exact HK.out
      clear HK HR
      go_wp2_with fail
      go_ret
      exact ⟨by rw [HS.out]; rfl, rfl⟩
end Go.Proofs.Ytpndbbepfjocgaa
namespace Go.Proofs.Ytpndbbepfjocgaa
open Go.RowKit

/-- a number below 128 is the byte itself -/
theorem first_low (s : ByteArray) (a : Nat) (h : a < s.size) (n : Int) (h0 : 0 ≤ n) (h1 : n < 128) (hf : firstN (sub s a) = n) : (bt s a : Int) = n ∧ wid s a = 1 := by
  rw [first_sub s a h] at hf
  by_cases hb : bt s a < 128
  · have := dec_low s a h hb
    exact ⟨by rw [← hf, this.2], this.1⟩
  · have := (dec_high s a h (by omega)).2.1
    omega
theorem lnI_zero (s : ByteArray) (a : Nat) (h : a < s.size) (h0 : lnI s a = 0) : bt s a = 10 := by
  unfold lnI at h0
  rw [sub_list] at h0
  have hl : a < s.data.toList.length := by rw [Array.length_toList]; exact h
  rw [List.drop_eq_getElem_cons hl] at h0
  unfold Lib.indexByte at h0
  split at h0
  · rename_i hb
    have e : s.data.toList[a] = 10 := by simpa using hb
    rw [bt_eq s a h]
    have : (s[a]'h) = s.data.toList[a] := by simp [ByteArray.getElem_eq_getElem_data]
    rw [this, e]; rfl
  · split at h0
    · omega
    · have := Lib.indexByte_ge (s.data.toList.drop (a + 1)) 10
      rename_i hb
      have : Lib.indexByte (s.data.toList.drop (a + 1)) 10 ≠ -1 := by simpa using hb
      omega
theorem lnEnd_bd (s : ByteArray) (a : Nat) (h : a < s.size) (hb : bt s a ≠ 10) : a < lnEnd s a ∧ lnEnd s a ≤ s.size := by
  unfold lnEnd
  have h1 := lnI_lt s a
  have h2 := lnI_ge s a
  have h3 : lnI s a ≠ 0 := fun h0 => hb (lnI_zero s a h h0)
  split <;> omega
theorem cutsFrom_ge (s : ByteArray) : ∀ f pos, ∀ x ∈ cutsFrom s f pos, pos ≤ x.1.1
  | 0, pos, x, hx => by simp [cutsFrom] at hx
  | f + 1, pos, x, hx => by
    unfold cutsFrom at hx
    split at hx
    · rcases List.mem_cons.1 hx with rfl | hx
      · exact Nat.le_refl _
      · have := cutsFrom_ge s f _ x hx
        omega
    · simp at hx
theorem nmEnd_bd (s : ByteArray) (a : Nat) (h : a < s.size) (hn : nameL (firstN (sub s a)) = true) : a < nmEnd s a ∧ nmEnd s a ≤ s.size := by
  unfold nmEnd
  have hz : (sub s a).size = s.size - a := sub_size s a
  have hz0 : 0 < (sub s a).size := by omega
  have hc : cuts (sub s a) = cutAt (sub s a) 0 hz0 :: cutsFrom (sub s a) ((sub s a).size - 1) (0 + wid (sub s a) 0) := by
    unfold cuts
    obtain ⟨f, hf⟩ : ∃ f, (sub s a).size = f + 1 := ⟨(sub s a).size - 1, by omega⟩
    rw [show cutsFrom (sub s a) (sub s a).size 0 = cutsFrom (sub s a) (f + 1) 0 by rw [← hf], cutsFrom_step (sub s a) f 0 hz0, hf]
    rfl
  have hw := wid_pos (sub s a) 0
  have hfn : firstN (sub s a) = numAt (sub s a) 0 := by unfold firstN; rw [if_pos hz0]
  rw [hfn] at hn
  unfold nmO
  rw [hc, List.find?_cons_of_neg (by simp only [cutAt]; rw [hn]; simp)]
  cases hfi : List.find? (fun x => !nameL x.1.2) (cutsFrom (sub s a) ((sub s a).size - 1) (0 + wid (sub s a) 0)) with
  | none => simp only; omega
  | some x =>
    have hx := List.mem_of_find?_eq_some hfi
    have h1 := cutsFrom_ge _ _ _ x hx
    have h2 := x.2.1
    simp only
    omega
theorem figF_bd (s : ByteArray) (h : Bool) : ∀ f i, i ≤ s.size → i ≤ figF s h f i ∧ figF s h f i ≤ s.size
  | 0, i, hi => ⟨Nat.le_refl _, hi⟩
  | f + 1, i, hi => by
    unfold figF
    split
    · rename_i hc
      have := figF_bd s h f (i + 1) hc.1
      omega
    · omega
theorem fgEnd_bd (s : ByteArray) (a : Nat) (h : a < s.size) : a < fgEnd s a ∧ fgEnd s a ≤ s.size := by
  have := figF_bd s (hexP s a) s.size (a + 1) h
  unfold fgEnd
  omega
theorem sgF_le (s : ByteArray) (G : List ByteArray) (a : Nat) : ∀ k, sgF s G a k ≤ k
  | 0 => Nat.le_refl _
  | k + 1 => by
    unfold sgF
    split
    · exact Nat.le_refl _
    · have := sgF_le s G a k; omega
theorem sgL_bd (s : ByteArray) (G : List ByteArray) (a : Nat) (h : a < s.size) : a + sgL s G a ≤ s.size ∧ sgL s G a ≤ 3 := by
  have := sgF_le s G a (min 3 (s.size - a))
  unfold sgL
  omega
/-- what a literal's reading gives: an end behind it, or a place of the text -/
theorem litV_bd (s : ByteArray) (a : Nat) (h : a < s.size) : ((litV s a).2.2.2 = 0 → (a < (litV s a).2.1 ∧ (litV s a).2.1 ≤ s.size ∧ ((litV s a).1 = 3 ∨ (litV s a).1 = 4))) ∧ (0 ≤ (litV s a).2.2.1 ∧ (litV s a).2.2.1 ≤ s.size) := by
  have hle := litEnd_le s a h
  unfold litV
  split
  · refine ⟨fun h => by simp at h, by simp only; omega⟩
  · rename_i hne
    have hle2 : a < litEnd s a ∧ litEnd s a ≤ s.size := by omega
    have hsz : (s.extract a (litEnd s a)).size = litEnd s a - a := by simp; omega
    split
    · have hp := bV_place (s.extract a (litEnd s a))
      rw [hsz] at hp
      split
      · exact ⟨fun _ => ⟨hle2.1, hle2.2, .inl rfl⟩, by simp only; omega⟩
      · rename_i hb
        exact ⟨fun h => absurd h hb, by simp only; omega⟩
    · have hp := runeV_place (s.extract a (litEnd s a))
      rw [hsz] at hp
      split
      · exact ⟨fun _ => ⟨hle2.1, hle2.2, .inr rfl⟩, by simp only; omega⟩
      · rename_i hb
        exact ⟨fun h => absurd h hb, by simp only; omega⟩
end Go.Proofs.Ytpndbbepfjocgaa
