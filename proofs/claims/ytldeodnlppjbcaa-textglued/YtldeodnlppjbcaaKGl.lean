import Derived.Test.YtldeodnlppjbcaaKGh
namespace Go.Proofs.Ytldeodnlppjbcaa
open Go.RowKit
set_option maxRecDepth 100000

def tsOf (s : ByteArray) (L : List Tk) : List Tt := L.map fun x => (x.1, x.2.1, s.extract x.2.1 x.2.2)
def tw1 (y : Tt) : List Value := [.int .u8 y.1, .int .i64 y.2.1, .string y.2.2]
def tw (Y : List Tt) : List Value := (Y.map tw1).flatten
theorem tv_tw (s : ByteArray) (L : List Tk) : tv s L = tw (tsOf s L) := by
  unfold tv tw tsOf
  rw [List.map_map]
  rfl
theorem tsOf_len (s : ByteArray) (L : List Tk) : (tsOf s L).length = L.length := by simp [tsOf]
theorem tw_append (X Y : List Tt) : tw (X ++ Y) = tw X ++ tw Y := by simp [tw]
theorem tw_at : ∀ (Y : List Tt) (i : Nat) (y : Tt), Y[i]? = some y → (tw Y)[i * 3]? = some (.int .u8 y.1) ∧ (tw Y)[i * 3 + 1]? = some (.int .i64 y.2.1) ∧ (tw Y)[i * 3 + 2]? = some (.string y.2.2)
  | [], i, y, h => by simp at h
  | x :: Y, 0, y, h => by simp at h; subst h; exact ⟨rfl, rfl, rfl⟩
  | x :: Y, i + 1, y, h => by
    have h' : Y[i]? = some y := by simpa using h
    have := tw_at Y i y h'
    rw [show tw (x :: Y) = .int .u8 x.1 :: .int .i64 x.2.1 :: .string x.2.2 :: tw Y from rfl]
    rw [show (i + 1) * 3 = i * 3 + 1 + 1 + 1 by omega]
    simpa using this
/-- a row of tokens that is owned may be read -/
theorem trd_own {W : World} {B : Nat} {v : Value} {Y : List Tt} (h : W.ownsRow B 36 3 v Y.length (tw Y)) : ∃ so sc, v = .slice so Y.length sc ∧ Y.length ≤ sc ∧ TRd W so Y W.heap.size := by
  have h' := h
  have hlt := h.lt
  rcases h.2 with ⟨rfl, hz⟩ | ⟨g, cap, cur, rfl, hrest⟩
  · exact ⟨none, 0, by rw [hz], by omega, fun hp => by omega⟩
  · have hadd : ∀ i, (⟨g, 0, none⟩ : Addr).add i = ⟨g, i, none⟩ := fun i => by unfold Addr.add; split <;> simp_all
    refine ⟨_, cap, rfl, hrest.2.2.1, fun _ => ⟨g, rfl, (hlt g rfl).2, fun i y hy => ?_⟩⟩
    obtain ⟨e1, e2, e3⟩ := tw_at Y i y hy
    have c1 := h'.cells (g := g) rfl (i * 3) _ e1
    have c2 := h'.cells (g := g) rfl (i * 3 + 1) _ e2
    have c3 := h'.cells (g := g) rfl (i * 3 + 2) _ e3
    rw [hadd] at c1 c2 c3
    exact ⟨c1, c2, c3⟩
theorem TRd.mono {w : World} {ao : Option Addr} {Y : List Tt} {B C : Nat} (h : TRd w ao Y B) (hb : B ≤ C) : TRd w ao Y C := by
  intro hl
  obtain ⟨b, e, hlt, hc⟩ := h hl
  exact ⟨b, e, by omega, hc⟩
/-- how long the texts are, each with one sign more -/
def smz (Y : List Tt) (k : Nat) : Nat := ((Y.take k).map fun y => y.2.2.size + 1).sum
theorem smz_succ (Y : List Tt) (k : Nat) (h : k < Y.length) : smz Y (k + 1) = smz Y k + Y[k].2.2.size + 1 := by
  unfold smz
  rw [List.take_succ_eq_append_getElem h, List.map_append, List.sum_append]
  simp
  omega
theorem smz_le (Y : List Tt) (h : ∀ y ∈ Y, y.2.2.size ≤ 524288) : ∀ k, k ≤ Y.length → smz Y k ≤ k * 524289
  | 0, _ => by simp [smz]
  | k + 1, hk => by
    rw [smz_succ Y k (by omega)]
    have := smz_le Y h k (by omega)
    have := h Y[k] (List.getElem_mem (by omega))
    omega
theorem gls_smz : ∀ (Y : List Tt) (p : Nat), (gls p (Y.map ktO)).length ≤ smz Y Y.length
  | [], p => by simp [gls, smz]
  | y :: Y, p => by
    have h := gls_smz Y y.1
    have e : smz (y :: Y) (y :: Y).length = y.2.2.size + 1 + smz Y Y.length := by
      unfold smz
      rw [List.take_length, List.take_length]
      simp
    rw [e, List.map_cons, gls, List.length_append, List.length_append, bz_len]
    have h2 : (sepOf p (ktO y)).length ≤ 1 := by
      unfold sepOf
      split <;> simp
    have h3 : (ktO y).2 = y.2.2 := rfl
    have h4 : (ktO y).1 = y.1 := rfl
    rw [h3, h4]
    omega
set_option maxHeartbeats 4000000 in
theorem alike_any (s1 : Option Addr) (k1 : Nat) (Y1 : List Tt) (s2 : Option Addr) (k2 : Nat) (Y2 : List Tt) (w : World) (h1 : TRd w s1 Y1 w.heap.size) (h2 : TRd w s2 Y2 w.heap.size) (hY : Y1.map ktO = Y2.map ktO) (hk1 : Y1.length ≤ k1) (hk2 : Y2.length ≤ k2) (hz : Y1.length ≤ 1048576) :
    Calls Try.prog 14 #[.slice s1 Y1.length k1, .slice s2 Y2.length k2] w fun e w' => e = .returned (.bool true) ∧ Below w.heap.size w w' := by
  have hl : Y1.length = Y2.length := by simpa using congrArg List.length hY
  have H1 : Hid (TRd w s1 Y1 w.heap.size) := h1
  have H2 : Hid (TRd w s2 Y2 w.heap.size) := h2
  have HY : Hid (Y1.map ktO = Y2.map ktO) := hY
  clear h1 h2 hY
  obtain ⟨n, hn⟩ : ∃ n, Y1.length = n := ⟨_, rfl⟩
  rw [← hl, hn]
  rw [← hl] at hk2
  rw [hn] at hk1 hk2 hz
  have HN1 : Hid (Y1.length = n) := hn
  have HN2 : Hid (Y2.length = n) := by rw [Hid, ← hl, hn]
  clear hl hn
  go_enter Try.func14, Try.ntmps14
  go_wp2_with fail
  go_loopw [5] (fun i wr => ∃ k : Nat, k ≤ n ∧ i = .int .i64 k ∧ Below w.heap.size w wr) (fun i _ => n - (intOf i).toNat)
  case atStart => exact ⟨0, Nat.zero_le _, rfl, Below.refl _ _⟩
  case round =>
    obtain ⟨k, hk, rfl, hb⟩ := hrel
    by_cases hlt : k < n
    · have hltI : (k : Int) < (n : Int) := by omega
      obtain ⟨b1, e1, hb1, hc1⟩ := H1.out (by rw [HN1.out]; omega)
      obtain ⟨b2, e2, hb2, hc2⟩ := H2.out (by rw [HN2.out]; omega)
      subst e1 e2
      have l1 : k < Y1.length := by rw [HN1.out]; exact hlt
      have l2 : k < Y2.length := by rw [HN2.out]; exact hlt
      obtain ⟨c0, c1, c2⟩ := hc1 k Y1[k] (List.getElem?_eq_getElem l1)
      obtain ⟨d0, d1, d2⟩ := hc2 k Y2[k] (List.getElem?_eq_getElem l2)
      have hq : ktO Y1[k] = ktO Y2[k] := by
        have := congrArg (fun l => l[k]?) HY.out
        simp only [List.getElem?_map, List.getElem?_eq_getElem l1, List.getElem?_eq_getElem l2, Option.map_some, Option.some.injEq] at this
        exact this
      obtain ⟨⟨K, a1, T⟩, hy1⟩ : ∃ y, Y1[k] = y := ⟨_, rfl⟩
      obtain ⟨⟨K', a2, T'⟩, hy2⟩ : ∃ y, Y2[k] = y := ⟨_, rfl⟩
      rw [hy1] at c0 c1 c2 hq
      rw [hy2] at d0 d1 d2 hq
      simp only [ktO, Prod.mk.injEq] at hq
      obtain ⟨rfl, rfl⟩ := hq
      simp only at c0 c2 d0 d2
      have c0' : wr.cell? ⟨b1, k * 3, none⟩ = some (.int .u8 K) := (hb.cell (p := ⟨b1, k * 3, none⟩) hb1).trans c0
      have c2' : wr.cell? ⟨b1, k * 3 + 2, none⟩ = some (.string T) := (hb.cell (p := ⟨b1, k * 3 + 2, none⟩) hb1).trans c2
      have d0' : wr.cell? ⟨b2, k * 3, none⟩ = some (.int .u8 K) := (hb.cell (p := ⟨b2, k * 3, none⟩) hb2).trans d0
      have d2' : wr.cell? ⟨b2, k * 3 + 2, none⟩ = some (.string T) := (hb.cell (p := ⟨b2, k * 3 + 2, none⟩) hb2).trans d2
      clear c0 c1 c2 d0 d1 d2 hc1 hc2 hy1 hy2 H1 H2 HY l1 l2 HN1 HN2
      go_wp2_with fail
      go_quiet (fail)
      go_wp2_with fail
      go_roundw
      case rel => exact ⟨k + 1, by omega, by go_num, below_drewN hb nq⟩
      case measure => simp [intOf]; omega
    · obtain rfl : k = n := by omega
      go_wp2_with fail
      go_ret
      exact ⟨rfl, hb⟩
end Go.Proofs.Ytldeodnlppjbcaa
