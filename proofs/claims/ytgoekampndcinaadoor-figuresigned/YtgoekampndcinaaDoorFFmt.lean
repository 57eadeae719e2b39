import Derived.Test.YtgoekampndcinaaDoorFLst
namespace Go.Proofs.YtgoekampndcinaaDoor
open Go.RowKit

/-- the tables that the library reads -/
structure Tb (w : World) : Prop where
  tz : w.cell? ⟨3, 15, none⟩ = some (.int .u8 4)
  tab : Lib.TabIs Tryd.prog w "internal/strconv.uint64pow10" .u64 Lib.pow10Tab
theorem tab_below {w w' : World} (h : Lib.TabIs Tryd.prog w "internal/strconv.uint64pow10" .u64 Lib.pow10Tab) (hb : Below w.heap.size w w') : Lib.TabIs Tryd.prog w' "internal/strconv.uint64pow10" .u64 Lib.pow10Tab := by
  unfold Lib.TabIs World.var? at *
  cases hg : Tryd.prog.globalNamed "internal/strconv.uint64pow10" with
  | none => simp [hg] at h
  | some g =>
    simp only [hg, Option.bind_some] at h ⊢
    have hlt : g < w.heap.size := by
      rcases Nat.lt_or_ge g w.heap.size with h' | h'
      · exact h'
      · rw [Array.getElem?_eq_none h'] at h; simp at h
    rw [hb.block g hlt]; exact h
theorem Tb.below {w w' : World} (h : Tb w) (hb : Below w.heap.size w w') : Tb w' := ⟨(hb.cell (cell_blk h.tz)).trans h.tz, tab_below h.tab hb⟩
theorem grow_below (w : World) (k : Nat) (os : Array Obj) : Below w.heap.size w (Go.Sort.grow (w.drewN k) os) := by
  refine ⟨rfl, rfl, rfl, ?_, ?_⟩
  · simp [Go.Sort.grow]
  · intro i hi
    simp [Go.Sort.grow]
    rw [Array.getElem?_append_left (by simpa using hi)]

set_option maxRecDepth 100000 in
set_option maxHeartbeats 2000000 in
theorem fui16 (x : Nat) (w : World) (hx : x < 4294967296) (ht : Tb w) :
    Calls Tryd.prog 24 #[.int .u64 x, .int .i64 16] w fun e w' => (∃ k, k < 8 ∧ x / 16 ^ k < 16 ∧ (k = 0 ∨ 16 ^ k ≤ x) ∧ e = .returned (.string (str (byts (hk (k + 1) x))))) ∧ Below w.heap.size w w' := by
  go_enter Tryd.func24, Tryd.ntmps24
  go_wp2_with (go_at_call 35; refine (fbits16 x _ hx ht.tz).mono ?_; rintro e w1 ⟨⟨k, h1, h2, h3, rfl⟩, hb⟩)
  go_ret
  exact ⟨⟨k, h1, h2, h3, rfl⟩, hb⟩
set_option maxRecDepth 100000 in
set_option maxHeartbeats 2000000 in
theorem fu16 (x : Nat) (w : World) (hx : x < 4294967296) (ht : Tb w) :
    Calls Tryd.prog 15 #[.int .u64 x, .int .i64 16] w fun e w' => (∃ k, k < 8 ∧ x / 16 ^ k < 16 ∧ (k = 0 ∨ 16 ^ k ≤ x) ∧ e = .returned (.string (str (byts (hk (k + 1) x))))) ∧ Below w.heap.size w w' := by
  go_enter Tryd.func15, Tryd.ntmps15
  go_wp2_with (go_at_call 24; refine (fui16 x _ hx ht).mono ?_; rintro e w1 ⟨⟨k, h1, h2, h3, rfl⟩, hb⟩)
  go_ret
  exact ⟨⟨k, h1, h2, h3, rfl⟩, hb⟩
theorem rep_one (c : Nat) : Lib.repeatL [(48 : UInt8)] c = List.replicate c 48 := by
  induction c with
  | zero => rfl
  | succ n ih => rw [List.replicate_succ, ← ih]; rfl
theorem rep_any (c : Nat) (w : World) (hc : c ≤ 100) :
    Calls Tryd.prog 10 #[.string ⟨#[48]⟩, .int .i64 c] w fun e w' => e = .returned (.string (str (List.replicate c 48))) ∧ Below w.heap.size w w' := by
  have h := Tryd.strings_Repeat ⟨#[48]⟩ c w (by omega) (by show 1 * c ≤ _; omega)
  have e : Lib.repeatL (⟨#[48]⟩ : ByteArray).data.toList c = List.replicate c 48 := rep_one c
  rw [e] at h
  exact h
theorem str_append (A B : List UInt8) : str A ++ str B = str (A ++ B) := by
  apply ByteArray.ext
  simp [str]
set_option maxRecDepth 100000 in
set_option maxHeartbeats 2000000 in
theorem padded8 (L : List UInt8) (w : World) (h1 : L.length ≤ 8) :
    Calls Tryd.prog 14 #[.string (str L), .int .i64 8] w fun e w' => e = .returned (.string (str (List.replicate (8 - L.length) 48 ++ L))) ∧ Below w.heap.size w w' := by
  have hs : ((str L).size : Int) = (L.length : Int) := by rw [str_size]
  obtain ⟨c, hc⟩ : ∃ c, 8 - L.length = c := ⟨_, rfl⟩
  have hcI : (8 : Int) - (L.length : Int) = (c : Int) := by omega
  have HC : Hid (8 - L.length = c) := hc
  have hc8 : c ≤ 8 := by omega
  have hc0 : (0 : Int) ≤ (c : Int) := by omega
  have hs1 : (str (List.replicate c 48)).size = c := by rw [str_size]; simp
  have hs2 : (str L).size = L.length := str_size L
  clear hc hs
  go_enter Tryd.func14, Tryd.ntmps14
  go_wp2_with (go_at_call 10; refine (rep_any c _ (by omega)).mono ?_; rintro e w1 ⟨rfl, hb⟩)
  go_ret
  exact ⟨by rw [HC.out, ← str_append]; rfl, hb⟩
theorem byts_pad (k x : Nat) (hk8 : k < 8) (h : x / 16 ^ k < 16) : List.replicate (8 - (byts (hk (k + 1) x)).length) (48 : UInt8) ++ byts (hk (k + 1) x) = byts (hk 8 x) := by
  rw [hk_pad k x hk8 h, byts_len, hk_len, byts, byts, List.map_append, List.map_replicate, show 8 - (k + 1) = 7 - k by omega]
  rfl
set_option maxRecDepth 100000 in
set_option maxHeartbeats 2000000 in
theorem hex_any (x : Nat) (w : World) (hx : x < 4294967296) (ht : Tb w) :
    Calls Tryd.prog 7 #[.int .u32 x] w fun e w' => e = .returned (.string (str (48 :: 120 :: byts (hk 8 x)))) ∧ Below w.heap.size w w' := by
  have hs1 : (str (byts (hk 8 x))).size = 8 := by rw [str_size, byts_len, hk_len]
  have HS : Hid ((⟨#[48, 120]⟩ : ByteArray) ++ str (byts (hk 8 x)) = str (48 :: 120 :: byts (hk 8 x))) := str_append [48, 120] _
  go_enter Tryd.func7, Tryd.ntmps7
  go_wp2_with (first
    | (go_at_call 15; refine (fu16 x _ hx ht).mono ?_; rintro e w1 ⟨⟨k, h1, h2, h3, rfl⟩, hb⟩)
    | (go_at_call 14; refine (padded8 (byts (hk (k + 1) x)) _ (by rw [byts_len, hk_len]; omega)).mono ?_; rintro e w2 ⟨rfl, hb2⟩; rw [byts_pad k x h1 h2]))
  go_ret
  exact ⟨by rw [← HS.out]; rfl, hb.trans (hb2.mono hb.size)⟩
def sgd (x : Nat) : Int := if x < 2147483648 then (x : Int) else (x : Int) - 4294967296
set_option maxRecDepth 100000 in
set_option maxHeartbeats 2000000 in
theorem signed_any (x : Nat) (w : World) (hx : x < 4294967296) (ht : Tb w) :
    Calls Tryd.prog 5 #[.int .u32 x] w fun e w' => e = .returned (.string (str (Lib.itoa (sgd x)))) ∧ Below w.heap.size w w' := by
  have h1 : IntKind.i32.wrap (x : Int) = sgd x := by
    unfold sgd; rw [IntKind.wrap_i32]; split <;> omega
  have h2 : -2147483648 ≤ sgd x ∧ sgd x < 2147483648 := by unfold sgd; split <;> omega
  obtain ⟨h2, h3⟩ := h2
  generalize sgd x = n at *
  go_enter Tryd.func5, Tryd.ntmps5
  go_wp2_with (go_at_call 11; refine (Tryd.strconv_Itoa n (by omega) (by omega) _ ht.tab).mono ?_; rintro e w1 ⟨rfl, k, os, hq⟩; subst hq)
  go_ret
  exact ⟨rfl, grow_below _ _ _⟩
end Go.Proofs.YtgoekampndcinaaDoor
