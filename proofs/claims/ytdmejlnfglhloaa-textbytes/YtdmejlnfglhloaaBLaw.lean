import Derived.Test.YtdmejlnfglhloaaRBytes
import Derived.Test.YtdmejlnfglhloaaLApart
import Derived.Test.YtdmejlnfglhloaaLSame
namespace Go.Proofs.Ytdmejlnfglhloaa
open Go.RowKit Go.Shelf

theorem bgo_len (s : ByteArray) : ∀ f i L, i ≤ s.size → (bgo s f i L).1.length ≤ L.length + (s.size - i)
  | 0, i, L, _ => by simp [bgo]
  | f + 1, i, L, hi => by
    by_cases h0 : i < s.size
    · by_cases h34 : bt s i = 34
      · by_cases h1 : i + 1 < s.size
        · rw [bgo_34a s f i L h1 h34]; simp
        · rw [bgo_34b s f i L h0 h1 h34]; simp
      · by_cases he : (readV (sub s i)).2.2.2 = 0
        · rw [bgo_ok s f i L h0 h34 he]
          have hz : 0 < (sub s i).size := by rw [sub_size]; omega
          obtain ⟨h1, h2⟩ := read_size hz he
          have h3 := pb_le hz he
          rw [sub_size] at h2
          have ih := bgo_len s f (i + (readV (sub s i)).2.2.1.toNat) (L ++ pb (readV (sub s i))) (by omega)
          rw [List.length_append] at ih
          omega
        · rw [bgo_bad s f i L h0 h34 he]; simp
    · rw [bgo_end s (f + 1) i L h0]; simp
theorem bV_len (s : ByteArray) : (bV s).1.length ≤ s.size := by
  unfold bV
  split
  · rename_i hq
    have hz : 0 < s.size ∧ bt s 0 = 34 := of_decide_eq_true hq
    have := bgo_len s s.size 1 [] (by omega)
    simp at this
    omega
  · simp
theorem rb {s : ByteArray} {A : List Int} {p : Nat} {er : Int} (h : bV s = (A, p, er)) (hs : s.size ≤ 140737488351232) : ∀ w, Calls Try.prog 4 #[.string s] w fun e w' => ∃ v, e = .returned (.tuple #[v, .int .i64 (p : Int), .int .i64 er]) ∧ w'.ownsRow w.heap.size 5 1 v A.length (bv A) ∧ Below w.heap.size w w' := fun w => by
  have := rbytes_any s w hs; rw [h] at this; exact this
theorem tb {s : ByteArray} {A : List Int} {p : Nat} {er : Int} (h : bV s = (A, p, er)) (hs : s.size ≤ 140737488351232) : ∀ w, Calls Try.prog 5 #[.string s] w fun e w' => ∃ v, e = .returned (.tuple #[v, .int .i64 (p : Int), .int .i64 er]) ∧ w'.ownsRow w.heap.size 5 1 v A.length (bv A) ∧ Below w.heap.size w w' := fun w => by
  have := bytes_any s w hs; rw [h] at this; exact this
theorem own_base {w : World} {B B' e sz n : Nat} {v : Value} {xs : List Value} (h : w.ownsRow B e sz v n xs) (hB : B' ≤ B) : w.ownsRow B' e sz v n xs := by
  refine ⟨h.1, ?_⟩
  rcases h.2 with h1 | ⟨g, cap, cur, h1, h2, h3⟩
  · exact .inl h1
  · exact .inr ⟨g, cap, cur, h1, Nat.le_trans hB h2, h3⟩
/-- two rows of one world, alike, compared -/
theorem same_own {w : World} {B B' : Nat} {v v' : Value} {A : List Int} (h : w.ownsRow B 5 1 v A.length (bv A)) (h' : w.ownsRow B' 5 1 v' A.length (bv A)) (hn : A.length ≤ 140737488355328) :
    Calls Try.prog 6 #[v, v'] w fun e w' => e = .returned (.bool true) ∧ Below w.heap.size w w' := by
  obtain ⟨ao, ca, rfl, hr⟩ := own_reads h
  obtain ⟨bo, cb, rfl, hr'⟩ := own_reads h'
  refine (same_any ao bo ca cb A A w hn hr hr').mono ?_
  rintro e w' ⟨rfl, m, rfl⟩
  exact ⟨by simp, Go.below_drewN (Below.refl _ _) m⟩
theorem far {w w1 : World} {B n n' : Nat} {v v' : Value} {xs xs' : List Value} (h : w.ownsRow B 5 1 v n xs) (h' : w1.ownsRow w.heap.size 5 1 v' n' xs') : v.ownBlock = none ∨ v.ownBlock ≠ v'.ownBlock := by
  cases hv : v.ownBlock with
  | none => exact .inl rfl
  | some g =>
    right
    intro e
    have h1 := (h.lt g hv).2
    have h2 := (h'.lt g e.symm).1
    omega
theorem far' {w w1 : World} {B n n' : Nat} {v v' : Value} {xs xs' : List Value} (h : w.ownsRow B 5 1 v n xs) (h' : w1.ownsRow w.heap.size 5 1 v' n' xs') : v'.ownBlock = none ∨ v'.ownBlock ≠ v.ownBlock := by
  cases hv : v'.ownBlock with
  | none => exact .inl rfl
  | some g =>
    right
    intro e
    have h1 := (h'.lt g hv).1
    have h2 := (h.lt g e.symm).2
    omega
def vals3 (a b c : Value) (i : Nat) : Value := if i = 0 then a else if i = 1 then b else c
def z3 (A C : List Int) (i : Nat) : List Int := if i = 2 then C else A
theorem lt3 {i : Nat} (h : i < 3) : i = 0 ∨ i = 1 ∨ i = 2 := by omega
theorem own3 {w : World} {B : Nat} {a b c : Value} {A C : List Int} (hB : B ≤ w.heap.size) (ha : w.ownsRow B 5 1 a A.length (bv A)) (hb : w.ownsRow B 5 1 b A.length (bv A)) (hc : w.ownsRow B 5 1 c C.length (bv C))
    (f1 : a.ownBlock = none ∨ a.ownBlock ≠ b.ownBlock) (f2 : b.ownBlock = none ∨ b.ownBlock ≠ a.ownBlock) (f3 : a.ownBlock = none ∨ a.ownBlock ≠ c.ownBlock) (f4 : c.ownBlock = none ∨ c.ownBlock ≠ a.ownBlock) (f5 : b.ownBlock = none ∨ b.ownBlock ≠ c.ownBlock) (f6 : c.ownBlock = none ∨ c.ownBlock ≠ b.ownBlock) :
    OwnL (w.alloc (.cells #[a, b, c] 22)) B (some ⟨w.heap.size, 0, none⟩) 3 3 (vals3 a b c) (z3 A C) := by
  refine ⟨World.ownsRow_lit (size := 1) (base := B) (e := 22) w #[a, b, c] 3 hB (by decide) rfl, ?_, ?_⟩
  · intro i hi
    rcases lt3 hi with rfl | rfl | rfl
    · exact ha.alloc _
    · exact hb.alloc _
    · exact hc.alloc _
  · intro i j hi hj hne
    rcases lt3 hi with rfl | rfl | rfl <;> rcases lt3 hj with rfl | rfl | rfl <;> first | exact absurd rfl hne | exact f1 | exact f2 | exact f3 | exact f4 | exact f5 | exact f6
theorem touch_own {w w' : World} {B n : Nat} {a b c v : Value} {xs : List Value} (hT : Touch 3 (vals3 a b c) w w') (h : w.ownsRow B 5 1 v n xs) (f1 : v.ownBlock = none ∨ v.ownBlock ≠ a.ownBlock) (f2 : v.ownBlock = none ∨ v.ownBlock ≠ b.ownBlock) (f3 : v.ownBlock = none ∨ v.ownBlock ≠ c.ownBlock) : w'.ownsRow B 5 1 v n xs := by
  refine ⟨h.1, ?_⟩
  rcases h.2 with h1 | ⟨g, cap, cur, rfl, h2, h3, h4⟩
  · exact .inl h1
  · refine .inr ⟨g, cap, cur, rfl, h2, ?_, h4⟩
    rw [hT.block g (Array.getElem?_eq_some_iff.1 h3).1 ?_]
    · exact h3
    · intro i hi e
      rcases lt3 hi with rfl | rfl | rfl
      · rcases f1 with f | f
        · simp [Value.ownBlock] at f
        · exact f (by rw [show a.ownBlock = some g from e]; rfl)
      · rcases f2 with f | f
        · simp [Value.ownBlock] at f
        · exact f (by rw [show b.ownBlock = some g from e]; rfl)
      · rcases f3 with f | f
        · simp [Value.ownBlock] at f
        · exact f (by rw [show c.ownBlock = some g from e]; rfl)
set_option maxRecDepth 100000 in
set_option maxHeartbeats 4000000 in
theorem tbytes_any (s o : ByteArray) (w : World) (hs : s.size ≤ 140737488351232) (ho : o.size ≤ 140737488351232) :
    Calls Try.prog 3 #[.string s, .string o] w fun e w' => e = .returned (.bool true) ∧ Below w.heap.size w w' := by
  have hA := bV_len s
  have hC := bV_len o
  obtain ⟨⟨A, p, er⟩, hR⟩ : ∃ x, bV s = x := ⟨_, rfl⟩
  obtain ⟨⟨C, p2, er2⟩, hR2⟩ : ∃ x, bV o = x := ⟨_, rfl⟩
  have H1 := rb hR hs
  have H2 := tb hR hs
  have H3 := rb hR2 ho
  have H4 := tb hR2 ho
  rw [hR] at hA
  rw [hR2] at hC
  simp only at hA hC
  clear hR hR2
  go_enter Try.func3, Try.ntmps3
  go_wp2_with fail
  refine (H1 _).mono ?_
  rintro e w1 ⟨v1, rfl, o1, b1⟩
  go_wp2_with fail
  refine (H2 _).mono ?_
  rintro e w2 ⟨va, rfl, oa, b2⟩
  obtain ⟨aa, ca, rfl⟩ := own_form0' oa
  have B2 := b1.trans (b2.mono b1.size)
  have o12 := own_below o1 b2
  go_wp2_with fail
  refine (same_own oa o12 (by omega)).mono ?_
  rintro e w3 ⟨rfl, b3⟩
  have B3 := B2.trans (b3.mono B2.size)
  have o13 := own_below o12 b3
  have oa3 := own_below oa b3
  have f1a := hid_of (far o1 oa)
  go_wp2_with fail
  refine (H2 _).mono ?_
  rintro e w4 ⟨vb, rfl, ob, b4⟩
  obtain ⟨ab, cb, rfl⟩ := own_form0' ob
  have B4 := B3.trans (b4.mono B3.size)
  have o14 := own_below o13 b4
  have oa4 := own_below oa3 b4
  have fab := hid_of (far oa3 ob)
  have fba := hid_of (far' oa3 ob)
  have f1b := hid_of (far o13 ob)
  go_wp2_with fail
  refine (same_own ob o14 (by omega)).mono ?_
  rintro e w5 ⟨rfl, b5⟩
  have B5 := B4.trans (b5.mono B4.size)
  have o15 := own_below o14 b5
  have oa5 := own_below oa4 b5
  have ob5 := own_below ob b5
  go_wp2_with fail
  refine (H4 _).mono ?_
  rintro e w6 ⟨vc, rfl, oc, b6⟩
  obtain ⟨ac, cc, rfl⟩ := own_form0' oc
  have B6 := B5.trans (b6.mono B5.size)
  have o16 := own_below o15 b6
  have oa6 := own_below oa5 b6
  have ob6 := own_below ob5 b6
  have fac := hid_of (far oa5 oc)
  have fca := hid_of (far' oa5 oc)
  have fbc := hid_of (far ob5 oc)
  have fcb := hid_of (far' ob5 oc)
  have f1c := hid_of (far o15 oc)
  go_wp2_with fail
  refine (H3 _).mono ?_
  rintro e w7 ⟨v2, rfl, o2, b7⟩
  have B7 := B6.trans (b7.mono B6.size)
  have o17 := own_below o16 b7
  have oa7 := own_below oa6 b7
  have ob7 := own_below ob6 b7
  have oc7 := own_below oc b7
  go_wp2_with fail
  refine (same_own oc7 o2 (by omega)).mono ?_
  rintro e w8 ⟨rfl, b8⟩
  have B8 := B7.trans (b8.mono B7.size)
  have o18 := own_below o17 b8
  have oa8 := own_below oa7 b8
  have ob8 := own_below ob7 b8
  have oc8 := own_below oc7 b8
  go_wp2_with fail
  have OL := own3 (B := w.heap.size) B8.size (own_base oa8 b1.size) (own_base ob8 B3.size) (own_base oc8 B5.size) fab.out fba.out fac.out fca.out fbc.out fcb.out
  have BA : Below w.heap.size w (w8.alloc (.cells #[.slice aa A.length ca, .slice ab A.length cb, .slice ac C.length cc] 22)) := B8.alloc B8.size _
  refine (apart_any _ _ 3 w.heap.size _ _ _ (by decide) ?hl BA.size OL).mono ?_
  case hl =>
    intro i hi
    rcases lt3 hi with rfl | rfl | rfl <;> simp [z3] <;> omega
  rintro e w9 ⟨rfl, T9⟩
  have o19 := touch_own T9 (o18.alloc (.cells #[.slice aa A.length ca, .slice ab A.length cb, .slice ac C.length cc] 22)) f1a.out f1b.out f1c.out
  have B9 : Below w.heap.size w w9 := BA.trans (T9.below BA.size (fun i b hi e => by
    rcases lt3 hi with rfl | rfl | rfl
    · exact Nat.le_trans b1.size (oa8.lt b e).1
    · exact Nat.le_trans B3.size (ob8.lt b e).1
    · exact Nat.le_trans B5.size (oc8.lt b e).1))
  clear OL T9
  go_wp2_with fail
  refine (H2 _).mono ?_
  rintro e w10 ⟨vd, rfl, od, b10⟩
  have B10 := B9.trans (b10.mono B9.size)
  have o110 := own_below o19 b10
  go_wp2_with fail
  refine (same_own od o110 (by omega)).mono ?_
  rintro e w11 ⟨rfl, b11⟩
  go_wp2
  go_ret
  exact ⟨rfl, B10.trans (b11.mono B10.size)⟩
end Go.Proofs.Ytdmejlnfglhloaa
