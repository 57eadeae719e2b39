import Derived.Test.YtcmfephbhbgoiaaDoorJGt
namespace Go.Proofs.YtcmfephbhbgoiaaDoor
open Go.RowKit
set_option maxRecDepth 100000
open Go.Maps (Keyed int_keyed keyOf_int_mk)
/-- grants that are read -/
def GRd (w : World) (ao : Option Addr) (L : List (Nat × Int)) (B : Nat) : Prop :=
  0 < L.length → ∃ b off, ao = some ⟨b, off, none⟩ ∧ b < B ∧ ∀ j, j < L.length → w.cell? ⟨b, off + j * 2, none⟩ = some (.int .u32 ((L.getD j (0, 0)).1 : Nat)) ∧ w.cell? ⟨b, off + j * 2 + 1, none⟩ = some (.int .i64 (L.getD j (0, 0)).2)
theorem GRd.below {w w' : World} {ao : Option Addr} {J : List (Nat × Int)} {B : Nat} (h : GRd w ao J B) (hb : Below B w w') : GRd w' ao J B := by
  intro hl
  obtain ⟨b, off, e, hlt, hc⟩ := h hl
  exact ⟨b, off, e, hlt, fun j hj => ⟨(hb.cell (p := ⟨b, off + j * 2, none⟩) hlt).trans (hc j hj).1, (hb.cell (p := ⟨b, off + j * 2 + 1, none⟩) hlt).trans (hc j hj).2⟩⟩
theorem GRd.mono {w : World} {ao : Option Addr} {J : List (Nat × Int)} {B C : Nat} (h : GRd w ao J B) (hb : B ≤ C) : GRd w ao J C := by
  intro hl
  obtain ⟨b, off, e, hlt, hc⟩ := h hl
  exact ⟨b, off, e, by omega, hc⟩
def mayB (n : Nat) (a : Int) : Bool := decide (n ≤ 2147483647) && (decide (0 ≤ a) && decide (a ≤ 15))
def ofL (L : List (Nat × Int)) : Int → Option Int := L.foldl (fun f p => putF f p.1 p.2) (fun _ => none)
theorem ofL_snoc (L : List (Nat × Int)) (p : Nat × Int) : ofL (L ++ [p]) = putF (ofL L) p.1 p.2 := by simp [ofL, List.foldl_append]
theorem ofL_some : ∀ (L : List (Nat × Int)) (f : Int → Option Int) (x : Int), ((L.foldl (fun f p => putF f p.1 p.2) f) x).isSome = ((f x).isSome || L.any (fun p => (p.1 : Int) == x))
  | [], f, x => by simp
  | p :: L, f, x => by
    rw [List.foldl_cons, ofL_some L]
    simp only [putF, List.any_cons]
    by_cases h : x = p.1
    · simp [h]
    · have h2 : ((p.1 : Int) == x) = false := by simpa using fun e => h e.symm
      simp [h, h2]
def gdA (L : List (Nat × Int)) (k : Nat) : Bool := !(L.take k).any (fun p => p.1 == (L.getD k (0, 0)).1) && mayB (L.getD k (0, 0)).1 (L.getD k (0, 0)).2
def okG (L : List (Nat × Int)) : Prop := L.length ≤ 64 ∧ ∀ k, k < L.length → gdA L k = true
theorem known_at (L : List (Nat × Int)) (k : Nat) (n : Nat) : ((ofL (L.take k)) n).isSome = (L.take k).any (fun p => p.1 == n) := by
  have := ofL_some (L.take k) (fun _ => none) n
  unfold ofL
  rw [this]
  simp only [Option.isSome_none, Bool.false_or]
  congr 1
  funext p
  by_cases h : p.1 = n
  · simp [h]
  · have h2 : ((p.1 : Int) == (n : Int)) = false := by simp only [beq_eq_false_iff_ne, ne_eq]; omega
    rw [h2]; simp [h]
theorem take_snocG (J : List (Nat × Int)) (k : Nat) (h : k < J.length) : J.take (k + 1) = J.take k ++ [J.getD k (0, 0)] := by
  rw [List.take_add_one, List.getElem?_eq_getElem h]
  simp [List.getD_eq_getElem?_getD, List.getElem?_eq_getElem h]
theorem getD_memG {zs : List (Nat × Int)} {k : Nat} (h : k < zs.length) : zs.getD k (0, 0) ∈ zs := by
  simp [List.getD, List.getElem?_eq_getElem h]
theorem maybe_any (n : Nat) (a : Int) (w : World) (hn : n < 4294967296) :
    Calls Tryd.prog 21 #[.agg #[.int .u32 n, .int .i64 a]] w fun e w' => e = .returned (.bool (mayB n a)) ∧ Below w.heap.size w w' := by
  by_cases h1 : n ≤ 2147483647
  · by_cases h2 : 0 ≤ a
    · by_cases h3 : a ≤ 15
      · have e : mayB n a = true := by simp [mayB, h1, h2, h3]
        rw [e]
        go_enter Tryd.func21, Tryd.ntmps21
        go_wp2
        go_ret
        exact ⟨rfl, (Below.refl _ _).alloc (Nat.le_refl _) _⟩
      · have e : mayB n a = false := by simp [mayB, h3]
        rw [e]
        go_enter Tryd.func21, Tryd.ntmps21
        go_wp2
        go_ret
        exact ⟨rfl, (Below.refl _ _).alloc (Nat.le_refl _) _⟩
    · have e : mayB n a = false := by simp [mayB, h2]
      rw [e]
      go_enter Tryd.func21, Tryd.ntmps21
      go_wp2
      go_ret
      exact ⟨rfl, (Below.refl _ _).alloc (Nat.le_refl _) _⟩
  · have e : mayB n a = false := by simp [mayB, h1]
    rw [e]
    go_enter Tryd.func21, Tryd.ntmps21
    go_wp2
    go_ret
    exact ⟨rfl, (Below.refl _ _).alloc (Nat.le_refl _) _⟩
theorem mayB_wf {n : Nat} {a : Int} (h : mayB n a = true) : (Lit.int .i64 a).wf = true := by
  simp only [mayB, Bool.and_eq_true, decide_eq_true_eq] at h
  have h1 : IntKind.i64.min = -9223372036854775808 := rfl
  have h2 : IntKind.i64.max = 9223372036854775807 := rfl
  simp only [Lit.wf, Bool.and_eq_true, decide_eq_true_eq]
  omega
theorem om_below {w w' : World} {b n : Nat} {D : DataW Unit} (h : OM w b n D) (hb : Below w.heap.size w w') : OM w' b n D := by
  have hl := h.lt
  obtain ⟨es, clock, hb', F, hs, hD⟩ := h
  exact ⟨es, clock, (hb.block b hl).trans hb', F, hs, hD⟩
theorem ghid {p : Prop} (h : p) : Hid p := h
def NewP (w : World) (L : List (Nat × Int)) (e : Ending) (w' : World) : Prop :=
  Below w.heap.size w w' ∧ ((okG L ∧ ∃ g, e = .returned (.tuple #[.pointer (some ⟨g, 0, none⟩), .int .i64 0]) ∧ w.heap.size ≤ g ∧ GtS w' g (ofL L)) ∨ (¬ okG L ∧ e = .returned (.tuple #[.pointer none, .int .i64 160])))
set_option maxHeartbeats 2000000 in
theorem new_any (ao : Option Addr) (cap : Nat) (L : List (Nat × Int)) (w : World) (hL : ∀ p ∈ L, p.1 < 4294967296) (hr : GRd w ao L w.heap.size) :
    Calls Tryd.prog 6 #[.slice ao L.length cap] w (NewP w L) := by
  by_cases h64 : L.length ≤ 64
  · have hd0 : decide (64 < (L.length : Int)) = false := by simp; omega
    have hmm := @run_makeMap Tryd.prog
    go_enter Tryd.func6, Tryd.ntmps6
    go_wp2
    go_loopw [15] (fun u wr => ∃ k : Nat, u = .int .i64 k ∧ k ≤ L.length ∧ (∀ j, j < k → gdA L j = true) ∧ MapR wr w.heap.size k (ofL (L.take k)) ∧ Below w.heap.size w wr ∧ w.heap.size < wr.heap.size) (fun u _ => L.length - (intOf u).toNat)
    case atStart => exact ⟨0, rfl, Nat.zero_le _, (fun j hj => by omega), ⟨_, World.ownsMap_made _ _ _ _, Fd.empty⟩, (Below.refl _ _).alloc (Nat.le_refl _) _, by simp⟩
    case round =>
      obtain ⟨k, rfl, hk, hgood, hm, hb, hsz⟩ := hrel
      by_cases hlt : k < L.length
      · have hd : decide ((k : Int) < L.length) = true := by simp; omega
        obtain ⟨bo, off, rfl, hbl, hc⟩ := hr (by omega)
        have c1 := (hb.cell (p := ⟨bo, off + k * 2, none⟩) hbl).trans (hc k hlt).1
        have c2 := (hb.cell (p := ⟨bo, off + k * 2 + 1, none⟩) hbl).trans (hc k hlt).2
        have hx := hL _ (getD_memG hlt)
        have HT : Hid (L.take (k + 1) = L.take k ++ [L.getD k (0, 0)]) := take_snocG L k hlt
        have HK : Hid (gdA L k = (!(L.take k).any (fun p => p.1 == (L.getD k (0, 0)).1) && mayB (L.getD k (0, 0)).1 (L.getD k (0, 0)).2)) := rfl
        have HN : Hid (((ofL (L.take k)) ((L.getD k (0, 0)).1 : Nat)).isSome = (L.take k).any (fun p => p.1 == (L.getD k (0, 0)).1)) := known_at L k _
        obtain ⟨n, a, hna⟩ : ∃ n a, L.getD k (0, 0) = (n, a) := ⟨_, _, rfl⟩
        rw [hna] at c1 c2 hx HT HK HN
        simp only at c1 c2 hx
        clear hna hc
        obtain ⟨D, hown, hF⟩ := hm
        have HF := hF.1 n
        have hY := fun W => maybe_any n a W hx
        have hkn : k < 64 := by omega
        have hb1 : ∀ o, Below w.heap.size w (wr.alloc o) := fun o => hb.alloc (by omega) o
        by_cases hno : ((ofL (L.take k)) n).isSome = true
        · rw [hno] at HF
          have HNOT : Hid (¬ okG L) := fun h => by
            have h1 := h.2 k hlt
            have h2 := HN.out
            rw [HK.out] at h1
            simp only at h1 h2
            rw [hno] at h2
            rw [← h2] at h1
            simp at h1
          clear hno HN HK hY hgood h64 hL hr hF
          go_wp2_with (first
            | (at_lookup; refine wpList_lookup_own_ok_int _ rfl _ _ 29 rfl 23 3 .i64 gKey Tryd.underlying29 Tryd.underlying3 (gZero _) w.heap.size k D rfl (hown.alloc _) _ _ rfl (keyOf_int_mk Tryd.underlying23 (u32wf n hx)) ?_; intro c hat hwc))
          go_ret2
          exact ⟨hb1 _, .inr ⟨HNOT.out, rfl⟩⟩
        · have hno' : ((ofL (L.take k)) n).isSome = false := by simpa using hno
          rw [hno'] at HF
          cases hmy : mayB n a with
          | false =>
            have HNOT : Hid (¬ okG L) := fun h => by
              have h1 := h.2 k hlt
              rw [HK.out] at h1
              simp only [hmy] at h1
              simp at h1
            simp only [hmy] at hY
            clear hno hno' HN HK hgood h64 hL hr hF hmy
            go_wp2_with (first
              | (at_lookup; refine wpList_lookup_own_ok_int _ rfl _ _ 29 rfl 23 3 .i64 gKey Tryd.underlying29 Tryd.underlying3 (gZero _) w.heap.size k D rfl (hown.alloc _) _ _ rfl (keyOf_int_mk Tryd.underlying23 (u32wf n hx)) ?_; intro c hat hwc)
              | (go_at_call 21; with_reducible refine (hY _).mono ?_; rintro e wz ⟨rfl, hbz⟩))
            go_ret2
            exact ⟨(hb1 _).trans (hbz.mono (by simp; omega)), .inr ⟨HNOT.out, rfl⟩⟩
          | true =>
            have HGK : Hid (∀ j, j < k + 1 → gdA L j = true) := fun j hj => by
              by_cases hjk : j < k
              · exact hgood j hjk
              · have : j = k := by omega
                subst this
                have h2 := HN.out
                rw [HK.out]
                simp only [hmy] at h2 ⊢
                rw [← h2, hno']
                rfl
            simp only [hmy] at hY
            have hwa := mayB_wf hmy
            clear hno hno' HN HK hgood h64 hL hr hmy
            have HF2 := ghid hF
            clear hF
            go_wp2_with (first
              | (at_lookup; refine wpList_lookup_own_ok_int _ rfl _ _ 29 rfl 23 3 .i64 gKey Tryd.underlying29 Tryd.underlying3 (gZero _) w.heap.size k D rfl (hown.alloc _) _ _ rfl (keyOf_int_mk Tryd.underlying23 (u32wf n hx)) ?_; intro c hat hwc)
              | (go_at_call 21; with_reducible refine (hY _).mono ?_; rintro e wz ⟨rfl, hbz⟩; have d1 := (hbz.cell (p := ⟨wr.heap.size, 0, none⟩) (by simp)).trans (new_cell wr _ _ 0); have d2 := (hbz.cell (p := ⟨wr.heap.size, 1, none⟩) (by simp)).trans (new_cell wr _ _ 1); have hownz := om_below (hown.alloc _) hbz)
              | (at_mapUpdate; refine wpList_mapUpdate_own _ rfl _ _ _ 29 rfl 23 3 gKey Tryd.underlying29 _ w.heap.size k D rfl hownz (by unfold maxLen; omega) _ _ _ rfl rfl (keyOf_int_mk Tryd.underlying23 (u32wf n hx)) _ [] (plainElem_int Tryd.underlying3 hwa) ?_; intro w1 hown1 hgrow1))
            have hbw := ((hb1 _).trans (hbz.mono (by simp; omega))).grown hgrow1 (by have := hbz.size; simp at this; omega) (fun j e => by cases e; exact Nat.le_refl _)
            go_roundw
            case rel =>
              refine ⟨k + 1, by go_num, hlt, HGK.out, ?_, hbw, by have := hgrow1.size; have := hbz.size; simp at this; omega⟩
              rw [HT.out, ofL_snoc]
              exact ⟨_, hown1, HF2.out.put hown.isMap n a⟩
            case measure => simp [intOf]; omega
      · have hd : decide ((k : Int) < L.length) = false := by simp; omega
        have he : L.take k = L := List.take_of_length_le (by omega)
        have hkl : k = L.length := by omega
        rw [he] at hm
        have hG := granting_any w.heap.size (ofL L) wr (hm.mono (by omega))
        have HOK : Hid (okG L) := ⟨h64, fun j hj => hgood j (by omega)⟩
        clear hkl hm
        go_wp2_with (go_at_call 22; with_reducible refine hG.mono ?_; rintro e wz ⟨rfl, hbz, hgz⟩)
        go_ret2
        exact ⟨hb.trans (hbz.mono (by omega)), .inl ⟨HOK.out, _, rfl, by omega, hgz⟩⟩
  · have hd0 : decide (64 < (L.length : Int)) = true := by simp; omega
    go_enter Tryd.func6, Tryd.ntmps6
    go_wp2
    go_ret2
    exact ⟨Below.refl _ _, .inr ⟨fun h => h64 h.1, rfl⟩⟩
end Go.Proofs.YtcmfephbhbgoiaaDoor
