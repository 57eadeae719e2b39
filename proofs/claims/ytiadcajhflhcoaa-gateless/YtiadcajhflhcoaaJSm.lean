import Derived.Test.YtiadcajhflhcoaaJGl
import Derived.Test.YtiadcajhflhcoaaJGn
import Derived.WalkSmall
namespace Go.Proofs.Ytiadcajhflhcoaa
open Go.RowKit
set_option maxRecDepth 100000
theorem Try.infoG : (Try.prog.info? 33).map (fun i => (i.zero, i.size, i.bytes)) = some (some (.agg #[.int .u32 0, .int .i64 0]), 2, 16) := by kernel_rfl
/-- grants as values -/
def gv : List (Nat × Int) → List Value
  | [] => []
  | p :: L => .int .u32 (p.1 : Nat) :: .int .i64 p.2 :: gv L
theorem gv_append : ∀ (L M : List (Nat × Int)), gv (L ++ M) = gv L ++ gv M
  | [], M => rfl
  | p :: L, M => by simp only [List.cons_append, gv, gv_append L M]
theorem gv_all : ∀ (P : List (Nat × Int)) (m : Nat), m < P.length → (gv P)[m * 2]? = some (.int .u32 ((P.getD m (0, 0)).1 : Nat)) ∧ (gv P)[m * 2 + 1]? = some (.int .i64 (P.getD m (0, 0)).2)
  | [], m, h => by simp at h
  | a :: t, 0, _ => ⟨rfl, rfl⟩
  | a :: t, m + 1, h => by
    have := gv_all t m (by simpa using h)
    rw [show (m + 1) * 2 + 1 = (m * 2 + 1) + 2 by omega, show (m + 1) * 2 = m * 2 + 2 by omega]
    simpa [gv] using this
theorem gcellAt {w : World} {B e sz n g o l c : Nat} {xs : List Value} (h : w.ownsRow B e sz (.slice (some ⟨g, o, none⟩) l c) n xs) {i : Nat} {v : Value} (hv : xs[i]? = some v) : w.cell? ⟨g, o + i, none⟩ = some v := by
  rcases h.2 with ⟨e, _⟩ | ⟨g', cap, cur, e, _⟩
  · cases e
  · cases e
    have := h.cells (g := g) rfl i v hv
    have hadd : (⟨g, 0, none⟩ : Addr).add i = ⟨g, 0 + i, none⟩ := by unfold Addr.add; split <;> simp_all
    rw [← hadd]; exact this
theorem gown_reads {w : World} {B : Nat} {v : Value} {L : List (Nat × Int)} (h : w.ownsRow B 33 2 v L.length (gv L)) : ∃ ao cap, v = .slice ao L.length cap ∧ GRd w ao L w.heap.size := by
  have h' := h
  have hlt := h.lt
  rcases h.2 with ⟨rfl, hz⟩ | ⟨g, cap, cur, rfl, _⟩
  · exact ⟨none, 0, by rw [hz], fun hp => by omega⟩
  · refine ⟨_, cap, rfl, fun _ => ⟨g, 0, rfl, (hlt g rfl).2, fun j hj => ?_⟩⟩
    obtain ⟨e1, e2⟩ := gv_all L j hj
    exact ⟨gcellAt h' e1, by rw [Nat.add_assoc]; exact gcellAt h' e2⟩
theorem grown_of_belowG {w w' : World} (hb : Below w.heap.size w w') (row : Option Nat) : w.grownBy w' row := ⟨hb.os, hb.tape, hb.output, hb.size, fun i hi _ => hb.block i hi⟩
theorem gown_below {B e sz : Nat} {w w' : World} {v : Value} {n : Nat} {xs : List Value} (h : w.ownsRow B e sz v n xs) (hb : Below w.heap.size w w') : w'.ownsRow B e sz v n xs :=
  h.kept (grown_of_belowG hb none) (by cases hv : v.ownBlock <;> simp)
theorem gdA_app (L : List (Nat × Int)) (p : Nat × Int) (k : Nat) (h : k < L.length) : gdA (L ++ [p]) k = gdA L k := by
  unfold gdA
  rw [List.take_append_of_le_length (by omega)]
  have e : (L ++ [p]).getD k (0, 0) = L.getD k (0, 0) := by simp [List.getD, List.getElem?_append_left h]
  rw [e]
theorem okG_snoc {L : List (Nat × Int)} {n : Nat} {a : Int} (h : okG L) (h1 : L.length < 64) (h2 : L.any (fun p => p.1 == n) = false) (h3 : mayB n a = true) : okG (L ++ [(n, a)]) := by
  refine ⟨by simp; omega, fun k hk => ?_⟩
  by_cases hlt : k < L.length
  · rw [gdA_app _ _ _ hlt]; exact h.2 k hlt
  · have : k = L.length := by simp at hk; omega
    subst this
    unfold gdA
    have e : (L ++ [(n, a)]).getD L.length (0, 0) = (n, a) := by simp [List.getD]
    rw [e, List.take_append_of_le_length (Nat.le_refl _), List.take_length]
    simp only [h2, h3]; rfl
theorem any_snoc (L : List (Nat × Int)) (k n : Nat) (h : k < L.length) : (L.take (k + 1)).any (fun p => p.1 == n) = ((L.take k).any (fun p => p.1 == n) || (L.getD k (0, 0)).1 == n) := by
  rw [take_snocG L k h, List.any_append]; simp
theorem own_snocG {w1 : World} {B : Nat} {v' : Value} {L : List (Nat × Int)} {n : Nat} {a : Int} (h : w1.ownsRow B 33 2 v' (L.length + 1) (gv L ++ [.int .u32 (n : Nat), .int .i64 a])) : w1.ownsRow B 33 2 v' (L ++ [(n, a)]).length (gv (L ++ [(n, a)])) := by
  rw [gv_append, List.length_append]
  exact h
theorem one2 {x y : Int} : ∀ u ∈ [Value.int .u32 x, Value.int .i64 y], u.oneCell' = true := by
  intro u hu; simp at hu; rcases hu with rfl | rfl <;> rfl
theorem okG_nil : okG [] := ⟨by simp, fun k hk => by simp at hk⟩
theorem newok {w w' : World} {L : List (Nat × Int)} {e : Ending} (h : NewP w L e w') (hok : okG L) : Below w.heap.size w w' ∧ ∃ g, e = .returned (.tuple #[.pointer (some ⟨g, 0, none⟩), .int .i64 0]) ∧ w.heap.size ≤ g ∧ GtS w' g (ofL L) := by
  obtain ⟨hb, h⟩ := h
  rcases h with h | h
  · exact ⟨hb, h.2⟩
  · exact absurd hok h.1
/-- what some leaves: a gate and the list of its grants -/
def SmP (w : World) (g : Nat) (v : Value) (L : List (Nat × Int)) (w' : World) : Prop :=
  L.length ≤ 60 ∧ okG L ∧ w.heap.size ≤ g ∧ w'.ownsRow w.heap.size 33 2 v L.length (gv L) ∧ GtS w' g (ofL L) ∧ Below w.heap.size w w' ∧ ∀ p ∈ L, p.1 < 2147483648
set_option maxHeartbeats 2000000 in
theorem some_any (ao : Option Addr) (cap : Nat) (J : List Nat) (w : World) (hn : J.length ≤ 9223372036854775807) (hJ : ∀ z ∈ J, z < 4294967296) (hr : WRd w ao J w.heap.size) :
    Calls Try.prog 5 #[.slice ao J.length cap] w fun e w' => ∃ g v L, e = .returned (.tuple #[.pointer (some ⟨g, 0, none⟩), v]) ∧ SmP w g v L w' := by
  obtain ⟨i0, hi, hz0, hz1, hz2⟩ := info_parts Try.infoG
  go_enter Try.func5, Try.ntmps5
  go_wp2
  go_loopw [4, 5] (fun v i wr => ∃ (k : Nat) (L : List (Nat × Int)), k ≤ J.length ∧ L.length ≤ 60 ∧ i = .int .i64 k ∧ okG L ∧ (∀ p ∈ L, p.1 < 2147483648) ∧ wr.ownsRow w.heap.size 33 2 v L.length (gv L) ∧ Below w.heap.size w wr) (fun _ i _ => J.length - (intOf i).toNat)
  case atStart => exact ⟨0, [], Nat.zero_le _, by simp, rfl, okG_nil, by simp, World.ownsRow_nil _ _ _ _, Below.refl _ _⟩
  case round =>
    obtain ⟨k, L, hk, hl60, rfl, hok, hlt31, hown, hb⟩ := hrel
    obtain ⟨al, cl, rfl, hrd⟩ := gown_reads hown
    have hNew := new_any al cl L wr (fun p hp => by have := hlt31 p hp; omega) hrd
    by_cases hlt : k < J.length
    · have hd : decide ((k : Int) < J.length) = true := by simp; omega
      by_cases hl : L.length < 60
      · have hd2 : decide ((L.length : Int) < 60) = true := by simp; omega
        obtain ⟨bo, off, rfl, hbl, hc⟩ := hr (by omega)
        have c1 := (hb.cell (p := ⟨bo, off + k, none⟩) hbl).trans (hc k hlt)
        have hx := hJ _ (getD_memN hlt)
        clear hc hNew
        generalize J.getD k 0 = x at *
        obtain ⟨n, hnn⟩ : ∃ n : Nat, (x : Int) % 2147483648 = n := ⟨x % 2147483648, by omega⟩
        obtain ⟨a, haa⟩ : ∃ a : Nat, (x : Int) % 16 = a := ⟨x % 16, by omega⟩
        have hnlt : n < 2147483648 := by omega
        have halt : a < 16 := by omega
        have hmay : mayB n a = true := by simp only [mayB, Bool.and_eq_true, decide_eq_true_eq]; omega
        have HMAY := ghid hmay
        clear hmay
        go_wp2
        go_loop [7, 8] (fun t i => ∃ m : Nat, m ≤ L.length ∧ t = .bool ((L.take m).any (fun p => p.1 == n)) ∧ i = .int .i64 m) (fun _ i => L.length - (intOf i).toNat)
        case atStart => exact ⟨0, Nat.zero_le _, rfl, rfl⟩
        case round =>
          obtain ⟨m, hm, rfl, rfl⟩ := hrel
          by_cases hml : m < L.length
          · have hd3 : decide ((m : Int) < L.length) = true := by simp; omega
            obtain ⟨bl, ol, rfl, hbl2, hc2⟩ := hrd (by omega)
            have c2 := (hc2 m hml).1
            have HA := ghid (any_snoc L m n hml)
            clear hc2
            generalize (L.getD m (0, 0)).1 = y at *
            by_cases hyn : y = n
            · subst hyn
              have hq : ((y : Int) == (y : Int)) = true := by simp
              go_wp2
              go_round
              case rel => exact ⟨m + 1, hml, by rw [HA.out]; simp, by go_num⟩
              case measure => simp [intOf]; omega
            · have hq : ((y : Int) == (n : Int)) = false := by simp; omega
              have hq2 : (y == n) = false := by simpa using hyn
              go_wp2
              go_round
              case rel => exact ⟨m + 1, hml, by rw [HA.out, hq2]; simp, by go_num⟩
              case measure => simp [intOf]; omega
          · have hd3 : decide ((m : Int) < L.length) = false := by simp; omega
            have he : L.take m = L := List.take_of_length_le (by omega)
            rw [he]
            cases hany : L.any (fun p => p.1 == n) with
            | true =>
              go_wp2
              go_roundw
              case rel => exact ⟨k + 1, L, hlt, hl60, by go_num, hok, hlt31, hown, hb⟩
              case measure => simp [intOf]; omega
            | false =>
              have HOK := ghid (okG_snoc hok (by omega) hany HMAY.out)
              go_wp2_with (at_builtin; refine wpList_append_own _ rfl _ _ 24 rfl w.heap.size 33 i0 (.agg #[.int .u32 0, .int .i64 0]) 2 16 Try.underlying24 hi hz0 hz1 hz2 rfl (by decide) _ _ _ rfl (hown.alloc _) ⟨_, 0, none⟩ 1 1 [.int .u32 (n : Nat), .int .i64 (a : Nat)] rfl rfl (cell_two_new _ _ _ _) one2 (by unfold maxLen; omega) (by omega) (by have := hb.size; simp; omega) ?_; intro v' w2 own2 hg2 _)
              have R2 : Below w.heap.size w w2 := (hb.alloc hb.size _).grown hg2 (by have := hb.size; simp; omega) (fun j e => (hown.lt j e).1)
              have own3 := own_snocG (n := n) (a := (a : Int)) (by simpa using own2)
              clear own2 hg2 hown hb c1
              go_wp2
              go_roundw
              case rel => exact ⟨k + 1, L ++ [(n, (a : Int))], hlt, by simp; omega, by go_num, HOK.out, (fun p hp => by rcases List.mem_append.1 hp with hp | hp; exact hlt31 p hp; simp at hp; subst hp; exact hnlt), own3, R2⟩
              case measure => simp [intOf]; omega
      · have hd2 : decide ((L.length : Int) < 60) = false := by simp; omega
        go_wp2_with (go_at_call 9; with_reducible refine hNew.mono ?_; intro e wz hz; obtain ⟨hbz, g, rfl, hg, hgs⟩ := newok hz hok)
        go_ret2
        exact ⟨g, _, L, rfl, hl60, hok, by have := hb.size; omega, gown_below hown hbz, hgs, hb.trans (hbz.mono hb.size), hlt31⟩
    · have hd : decide ((k : Int) < J.length) = false := by simp; omega
      go_wp2_with (go_at_call 9; with_reducible refine hNew.mono ?_; intro e wz hz; obtain ⟨hbz, g, rfl, hg, hgs⟩ := newok hz hok)
      go_ret2
      exact ⟨g, _, L, rfl, hl60, hok, by have := hb.size; omega, gown_below hown hbz, hgs, hb.trans (hbz.mono hb.size), hlt31⟩
end Go.Proofs.Ytiadcajhflhcoaa
