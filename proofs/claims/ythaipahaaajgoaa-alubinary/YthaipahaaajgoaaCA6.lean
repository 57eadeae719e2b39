import Derived.Test.YthaipahaaajgoaaCA5
import Derived.Test.YthaipahaaajgoaaCA3
namespace Go.Proofs.Ythaipahaaajgoaa
open Go.RowKit

theorem plus_nv (v u : Value) (x y k : Nat) (w : World) (h : NatV w v x) (h' : NatV w u y) (hx : x < 2 ^ (32 * k)) (hy : y < 2 ^ (32 * k)) (hk : k ≤ 1000) :
    Calls Try.prog 40 #[v, u] w fun e w' => (∃ v', e = .returned v' ∧ NatV w' v' (x + y)) ∧ Below w.heap.size w w' := by
  obtain ⟨ao, cap, zs, rfl, hc, hn', hval, hN, hW, hr⟩ := h
  obtain ⟨ao2, cap2, zs2, rfl, hc2, hn2, hval2, hN2, hW2, hr2⟩ := h'
  have := plus_any ao ao2 cap cap2 zs zs2 w (by have := len_pow hN hval k hx; omega) (by have := len_pow hN2 hval2 k hy; omega) hr hr2 hW hW2
  rw [hval, hval2] at this
  exact this
theorem cut_nv (v : Value) (x k : Nat) (w : World) (h : NatV w v x) (hx : x < 2 ^ (32 * k)) (hk : k ≤ 1000) :
    Calls Try.prog 51 #[v] w fun e w' => (∃ v', e = .returned v' ∧ NatV w' v' x) ∧ Below w.heap.size w w' := by
  obtain ⟨ao, cap, zs, rfl, hc, hn', hval, hN, hW, hr⟩ := h
  refine (cut_any ao cap zs w hc (by have := len_pow hN hval k hx; omega) hr hn').mono ?_
  rintro e wq ⟨⟨nn, hnn, rfl, ht, hN'⟩, rfl⟩
  have hl3 : (zs.take nn).length = nn := by simp; omega
  exact ⟨⟨_, rfl, ao, cap, zs.take nn, by rw [hl3], by rw [hl3]; omega, hn', by rw [ht]; exact hval, hN', words_take hW nn, hr.take nn hnn⟩, Below.refl _ _⟩
theorem take_split (ys : List Nat) (i : Nat) (h : i < ys.length) : nv (ys.take (i + 1)) = nv (ys.take i) + 4294967296 ^ i * ys.getD i 0 := by
  have e1 : ys.take (i + 1) = ys.take i ++ [ys.getD i 0] := by
    rw [List.take_succ_eq_append_getElem h]
    simp [List.getD, List.getElem?_eq_getElem h]
  rw [e1, nv_append, show (ys.take i).length = i by simp; omega]
  simp [nv]
theorem prod_lt {x y : Nat} (hx : x < 4294967296) (hy : y < 4294967296) {c : Nat} (hc : c < 4294967296) : x * y + c < 18446744073709551616 ∧ (x * y + c) / 4294967296 < 4294967296 := by
  have h := Nat.mul_le_mul (show x ≤ 4294967295 by omega) (show y ≤ 4294967295 by omega)
  omega
theorem nv_take_le (zs : List Nat) (hW : Words zs) (k i : Nat) (h : zs.length ≤ k) : nv (zs.take i) < 2 ^ (32 * k) := by
  have h1 := nv_lt (words_take hW i)
  refine Nat.lt_of_lt_of_le h1 ?_
  rw [show (4294967296 : Nat) = 2 ^ 32 from rfl, ← Nat.pow_mul]
  exact Nat.pow_le_pow_right (by decide) (by simp; omega)

theorem mul_pow_lt {x y k j : Nat} (hx : x < 2 ^ (32 * k)) (hy : y < 2 ^ (32 * j)) : x * y < 2 ^ (32 * (k + j)) := by
  have h3 := Nat.mul_lt_mul'' hx hy
  rw [← Nat.pow_add, ← Nat.mul_add] at h3
  exact h3
theorem own_dr {W : World} {B e : Nat} {v : Value} {n : Nat} {xs : List Value} {o : Obj} (q : Nat) (h : W.ownsRow B e 1 v n xs) : ((W.drewN q).alloc o).ownsRow B e 1 v n xs := World.ownsRow.alloc (show (W.drewN q).ownsRow B e 1 v n xs from h) o
set_option maxRecDepth 100000 in
set_option maxHeartbeats 4000000 in
theorem times_any (ao bo : Option Addr) (ca cb : Nat) (zs ys : List Nat) (w : World) (hl : zs.length ≤ 10) (hl2 : ys.length ≤ 10) (hr : ReadsU w ao zs w.heap.size) (hr2 : ReadsU w bo ys w.heap.size) (hW : Words zs) (hW2 : Words ys) :
    Calls Try.prog 47 #[.slice ao zs.length ca, .slice bo ys.length cb] w fun e w' => (∃ v, e = .returned v ∧ NatV w' v (nv zs * nv ys)) ∧ Below w.heap.size w w' := by
  obtain ⟨i0, hi, hz0, hz1, hz2⟩ := info_parts Try.infoU
  have HBND : Hid (∀ i, nv zs * nv (ys.take i) < 2 ^ (32 * (10 + 10))) := by
    intro i
    have h1 := nv_take_le zs hW 10 zs.length hl
    rw [List.take_length] at h1
    exact mul_pow_lt (k := 10) (j := 10) h1 (nv_take_le ys hW2 10 i hl2)
  have hemp : NatV (w.alloc (.cells #[] 22)) (.slice (some ⟨w.heap.size, 0, none⟩) 0 0) 0 := ⟨_, 0, [], rfl, Nat.le_refl _, (fun h => by cases h), rfl, Or.inl rfl, (fun z hz => by simp at hz), (fun h => by simp at h)⟩
  go_enter Try.func47, Try.ntmps47
  go_wp2
  go_loopw [5, 6, 7, 8, 9, 10] (fun v i _ _ _ _ wr => ∃ k : Nat, k ≤ ys.length ∧ i = .int .i64 k ∧ NatV wr v (nv zs * nv (ys.take k)) ∧ Below w.heap.size w wr)
    (fun _ i _ _ _ _ _ => ys.length - (intOf i).toNat)
  case atStart => exact ⟨0, Nat.zero_le _, rfl, by simpa [nv] using hemp, bel (Below.refl _ _)⟩
  case round =>
    obtain ⟨k, hk, rfl, hv, hb⟩ := hrel
    rename World => wr
    by_cases hlt : k < ys.length
    · have hltI : (k : Int) < (ys.length : Int) := by omega
      obtain ⟨yb, yoff, rfl, hybl, hyc⟩ := (hr2.below hb) (by omega)
      have hyk := hyc k hlt
      have hyw := words_get hW2 k
      have HSP : Hid (nv (ys.take (k + 1)) = nv (ys.take k) + 4294967296 ^ k * ys.getD k 0) := take_split ys k hlt
      generalize ys.getD k 0 = y at *
      clear hyc
      have hB := hb.size
      have hown0 : (wr.alloc (.cells #[] 22)).ownsRow wr.heap.size 22 1 (.slice (some ⟨wr.heap.size, 0, none⟩) 0 0) 0 (uk []) := World.ownsRow_made wr #[] 0 (Nat.le_refl _) (by decide) rfl
      have HV : Hid (NatV wr _ (nv zs * nv (ys.take k))) := hv
      clear hv
      go_wp2
      go_loopw [7, 8, 9, 10] (fun rv c j _ W => ∃ m cr : Nat, ∃ L : List Nat, m ≤ zs.length ∧ j = .int .i64 m ∧ c = .int .u64 (cr : Int) ∧ cr < 4294967296 ∧ L.length = m ∧ Words L ∧ Hid (nv L + 4294967296 ^ m * cr = nv (zs.take m) * y) ∧ W.ownsRow wr.heap.size 22 1 rv m (uk L) ∧ Below wr.heap.size wr W)
        (fun _ _ j _ _ => zs.length - (intOf j).toNat)
      case atStart => exact ⟨0, 0, [], Nat.zero_le _, rfl, rfl, by decide, rfl, (fun z hz => by simp at hz), by rw [Hid]; simp [nv], hown0, bel (Below.refl _ _)⟩
      case round =>
        obtain ⟨m, cr, L, hm, rfl, rfl, hcr, hLl, hLW, HVL, hown, hbW⟩ := hrel
        rename World => W
        have hBW := hbW.size
        by_cases hmlt : m < zs.length
        · have hmI : (m : Int) < (zs.length : Int) := by omega
          obtain ⟨zb, zoff, rfl, hzbl, hzc⟩ := (hr.below (hb.trans (hbW.mono hB))) (by omega)
          have hzm := hzc m hmlt
          have hzw := words_get hW m
          have HSZ : Hid (nv (zs.take (m + 1)) = nv (zs.take m) + 4294967296 ^ m * zs.getD m 0) := take_split zs m hmlt
          generalize zs.getD m 0 = z at *
          clear hzc
          have hykW : W.cell? ⟨yb, yoff + k, none⟩ = some (.int .u32 (y : Nat)) := (hbW.cell (p := ⟨yb, yoff + k, none⟩) (show yb < wr.heap.size by omega)).trans hyk
          obtain ⟨hX1, hX2⟩ := prod_lt hzw hyw hcr
          obtain ⟨p, hp⟩ : ∃ p, z * y = p := ⟨_, rfl⟩
          have hpI : (z : Int) * (y : Int) = (p : Int) := by rw [← hp]; exact (Int.natCast_mul z y).symm
          rw [hp] at hX1 hX2
          obtain ⟨X, hX⟩ : ∃ X, p + cr = X := ⟨_, rfl⟩
          have hXI : (p : Int) + (cr : Int) = (X : Int) := by omega
          rw [hX] at hX1 hX2
          obtain ⟨lo, hlo⟩ : ∃ lo, X % 4294967296 = lo := ⟨_, rfl⟩
          obtain ⟨hh, hhi⟩ : ∃ hh, X / 4294967296 = hh := ⟨_, rfl⟩
          have e2 : (X : Int) % 4294967296 = (lo : Int) := by omega
          have e2' : IntKind.u32.wrap (X : Int) = (lo : Int) := by rw [IntKind.wrap_u32']; omega
          have e3 : (X : Int) / 4294967296 = (hh : Int) := by omega
          have hlol : lo < 4294967296 := by omega
          have hpl : p < 18446744073709551616 := by omega
          rw [hhi] at hX2
          have HV2 : Hid (nv (L ++ [lo]) + 4294967296 ^ (m + 1) * hh = nv (zs.take (m + 1)) * y) := by
            have h5 := HVL.out
            rw [Hid, nv_append, hLl, HSZ.out, Nat.add_mul, ← h5, Nat.mul_assoc, hp, Nat.pow_succ, Nat.mul_assoc]
            have h6 : X = lo + 4294967296 * hh := by omega
            have h7 : 4294967296 ^ m * p + 4294967296 ^ m * cr = 4294967296 ^ m * lo + 4294967296 ^ m * (4294967296 * hh) := by rw [← Nat.mul_add, hX, h6, Nat.mul_add]
            rw [show nv [lo] = lo by simp [nv]]
            omega
          have HLW : Hid (Words (L ++ [lo])) := by
            intro q hq
            rcases List.mem_append.1 hq with h | h
            · exact hLW q h
            · simp at h; omega
          have HLL : Hid ((L ++ [lo]).length = m + 1) := by rw [Hid]; simp [hLl]
          clear hLW hLl hlo hhi hX hp HVL hyk
          go_wp2
          go_quiet (fail)
          go_wp2_with (at_builtin; refine wpList_append_own _ rfl _ _ 50 rfl wr.heap.size 22 i0 (.int .u32 0) 1 4 Try.underlying50 hi hz0 hz1 hz2 rfl (by decide) _ _ _ rfl (own_dr _ hown) ⟨_, 0, none⟩ 1 1 [.int .u32 (lo : Int)] rfl rfl ?c1 ?c2 ?c3 ?c4 ?c5 ?_)
          case c1 =>
            intro j u hj
            match j, hj with
            | 0, hj => simp at hj; subst hj; simp only [Addr.add]; exact World.cell?_alloc_new (W.drewN nq) _ _ _
          case c2 => intro u hu; simp at hu; subst hu; rfl
          case c3 => unfold maxLen; omega
          case c4 => omega
          case c5 => simp; omega
          intro v' w1 hown' hgrow _
          have R1 : w1.ownsRow wr.heap.size 22 1 v' (m + 1) (uk (L ++ [lo])) := own_snocU hown'
          have hbD : Below wr.heap.size wr (W.drewN nq) := bt3 hbW
          have R2 := grown_belowU hbD hbD.size (show (W.drewN nq).ownsRow wr.heap.size 22 1 _ m (uk L) from hown) hgrow
          clear hown' hgrow hown
          go_wp2
          go_roundw
          case rel => exact ⟨m + 1, hh, L ++ [lo], by omega, by go_num, rfl, hX2, HLL.out, HLW.out, HV2, R1, R2⟩
          case measure => simp [intOf]; omega
        · obtain rfl : m = zs.length := by omega
          have HV3 : Hid (nv (L ++ [cr]) = nv zs * y) := by
            have h5 := HVL.out
            rw [List.take_length] at h5
            rw [Hid, nv_append, hLl, show nv [cr] = cr by simp [nv]]
            exact h5
          have HLW : Hid (Words (L ++ [cr])) := by
            intro q hq
            rcases List.mem_append.1 hq with h | h
            · exact hLW q h
            · simp at h; omega
          have HLL : Hid ((L ++ [cr]).length = zs.length + 1) := by rw [Hid]; simp [hLl]
          have hwc : IntKind.u32.wrap (cr : Int) = (cr : Int) := by rw [IntKind.wrap_u32']; omega
          have hwc2 : (cr : Int) % 4294967296 = (cr : Int) := by omega
          obtain ⟨q, hq⟩ : ∃ q, 32 * k = q := ⟨_, rfl⟩
          have hqI : 32 * (k : Int) = (q : Int) := by omega
          have HQ : Hid (32 * k = q) := hq
          have hq10 : q ≤ 320 := by omega
          clear hLW hLl HVL hyk hq
          go_wp2_with (first
            | (at_builtin; refine wpList_append_own _ rfl _ _ 50 rfl wr.heap.size 22 i0 (.int .u32 0) 1 4 Try.underlying50 hi hz0 hz1 hz2 rfl (by decide) _ _ _ rfl (hown.alloc _) ⟨_, 0, none⟩ 1 1 [.int .u32 (cr : Int)] rfl rfl ?d1 ?d2 ?d3 ?d4 ?d5 ?_))
          case d1 =>
            intro j u hj
            match j, hj with
            | 0, hj => simp at hj; subst hj; simp [Addr.add]
          case d2 => intro u hu; simp at hu; subst hu; rfl
          case d3 => unfold maxLen; omega
          case d4 => omega
          case d5 => simp; omega
          intro v' w1 hown' hgrow _
          have R1 : w1.ownsRow wr.heap.size 22 1 v' (zs.length + 1) (uk (L ++ [cr])) := own_snocU hown'
          have R2 : Below wr.heap.size wr w1 := grown_belowU hbW hBW hown hgrow
          clear hown' hgrow hown
          rw [← HLL.out] at R1
          obtain ⟨ao', cap', rfl, hrd⟩ := own_readsU R1
          have HVO := HV.out.on R2
          have uu := up_any ao' cap' (L ++ [cr]) q w1 (by rw [HLL.out]; omega) (by omega) hrd HLW.out
          rw [HV3.out] at uu
          have HBW : Below w.heap.size w w1 := hb.trans (R2.mono hB)
          have HPY : Hid (nv zs * y * 2 ^ q < 2 ^ (32 * (10 + 10))) := by
            have h1 := HBND.out (k + 1)
            rw [HSP.out, Nat.mul_add] at h1
            rw [Hid, ← HQ.out, Nat.pow_mul, show (2 : Nat) ^ 32 = 4294967296 from rfl, Nat.mul_assoc, Nat.mul_comm y]
            exact Nat.lt_of_le_of_lt (Nat.le_add_left _ _) h1
          have HRES : Hid (nv zs * nv (ys.take k) + nv zs * y * 2 ^ q = nv zs * nv (ys.take (k + 1))) := by
            rw [Hid, HSP.out, Nat.mul_add, ← HQ.out, Nat.pow_mul, show (2 : Nat) ^ 32 = 4294967296 from rfl, Nat.mul_assoc, Nat.mul_comm y]
          generalize (L ++ [cr]).length = len at *
          clear R1 hrd
          go_wp2_with (first
            | (go_at_call 37; with_reducible refine uu.mono ?_; rintro e w2 ⟨⟨v2, rfl, hv2⟩, hb2⟩)
            | (go_at_call 40; with_reducible refine (plus_nv _ _ _ _ (10 + 10) _ (HVO.on hb2) hv2 (HBND.out k) HPY.out (by omega)).mono ?_; rintro e w3 ⟨⟨v3, rfl, hv3⟩, hb3⟩; rw [HRES.out] at hv3))
          go_roundw
          case rel => exact ⟨k + 1, by omega, by go_num, hv3, bt2 hb3 (bt2 hb2 HBW)⟩
          case measure => simp [intOf]; omega
    · obtain rfl : k = ys.length := by omega
      rw [List.take_length] at hv
      have HBN2 := HBND.out ys.length
      rw [List.take_length] at HBN2
      have cc := cut_nv _ _ (10 + 10) _ hv HBN2 (by omega)
      clear hv HBN2
      go_wp2_with (go_at_call 51; with_reducible refine cc.mono ?_; rintro e w2 ⟨⟨v2, rfl, hv2⟩, hb2⟩)
      go_ret
      exact ⟨⟨_, rfl, hv2⟩, bt2 hb2 hb⟩
theorem times_nv (v u : Value) (x y : Nat) (w : World) (h : NatV w v x) (h' : NatV w u y) (hx : x < 18446744073709551616) (hy : y < 18446744073709551616) :
    Calls Try.prog 47 #[v, u] w fun e w' => (∃ v', e = .returned v' ∧ NatV w' v' (x * y)) ∧ Below w.heap.size w w' := by
  obtain ⟨ao, cap, zs, rfl, hc, hn', hval, hN, hW, hr⟩ := h
  obtain ⟨ao2, cap2, zs2, rfl, hc2, hn2, hval2, hN2, hW2, hr2⟩ := h'
  have := times_any ao ao2 cap cap2 zs zs2 w (by have := small_len hN hval hx; omega) (by have := small_len hN2 hval2 hy; omega) hr hr2 hW hW2
  rw [hval, hval2] at this
  exact this
end Go.Proofs.Ythaipahaaajgoaa
namespace Go.Proofs.Ythaipahaaajgoaa
open Go.RowKit

theorem dbl_lt {x k : Nat} (h : x < 2 ^ (32 * k)) : x * 2 < 2 ^ (32 * (k + 1)) := by
  have h1 : 2 ^ (32 * k) * 2 ≤ 2 ^ (32 * (k + 1)) := by
    rw [← Nat.pow_succ]; exact Nat.pow_le_pow_right (by decide) (by omega)
  omega
theorem inc_lt {x k : Nat} (h : x < 2 ^ (32 * k)) : x + 1 < 2 ^ (32 * (k + 1)) := by
  have h1 : 2 ^ (32 * k) * 2 ≤ 2 ^ (32 * (k + 1)) := by
    rw [← Nat.pow_succ]; exact Nat.pow_le_pow_right (by decide) (by omega)
  have h2 := Nat.two_pow_pos (32 * k)
  omega
theorem nn_lt {x NN k : Nat} (h : x * 2 + 1 = NN) (hx : x < 2 ^ (32 * k)) : NN < 2 ^ (32 * (k + 1)) := by
  have h1 : 2 ^ (32 * k) * 2 ≤ 2 ^ (32 * (k + 1)) := by
    rw [← Nat.pow_succ]; exact Nat.pow_le_pow_right (by decide) (by omega)
  omega
theorem one_lt (k : Nat) (h : 0 < k) : 1 < 2 ^ (32 * k) := Nat.one_lt_two_pow (by omega)
theorem lenz {zs : List Nat} (_ : Norm zs) (h : nv zs ≠ 0) : ((zs.length : Int) == 0) = false := by
  rw [beq_eq_false_iff_ne]
  intro e
  have : zs.length = 0 := by omega
  rw [List.length_eq_zero_iff.1 this] at h
  exact h rfl
theorem up_1 (v : Value) (x k : Nat) (w : World) (h : NatV w v x) (hx : x < 2 ^ (32 * k)) (hk : k ≤ 1000) :
    Calls Try.prog 37 #[v, .int .i64 1] w fun e w' => (∃ v', e = .returned v' ∧ NatV w' v' (x * 2)) ∧ Below w.heap.size w w' := by
  obtain ⟨ao, cap, zs, rfl, hc, hn', hval, hN, hW, hr⟩ := h
  have := up_any ao cap zs 1 w (by have := len_pow hN hval k hx; omega) (by omega) hr hW
  rw [hval] at this
  exact this
end Go.Proofs.Ythaipahaaajgoaa
namespace Go.Proofs.Ythaipahaaajgoaa
open Go.RowKit

theorem size_nv (v : Value) (x k : Nat) (w : World) (h : NatV w v x) (hx : x < 2 ^ (32 * k)) (hk : k ≤ 1000) :
    Calls Try.prog 52 #[v] w fun e w' => e = .returned (.int .i64 (nbits x)) ∧ w' = w := by
  obtain ⟨ao, cap, zs, rfl, hc, hn', hval, hN, hW, hr⟩ := h
  have := size_any ao cap zs w (by have := len_pow hN hval k hx; omega) hr hW hN
  rw [hval] at this
  exact this
theorem bit_nv (v : Value) (x k n : Nat) (w : World) (h : NatV w v x) (hx : x < 2 ^ (32 * k)) (hk : k ≤ 1000) (hn : n ≤ 1000000) :
    Calls Try.prog 56 #[v, .int .i64 n] w fun e w' => e = .returned (.bool (x / 2 ^ n % 2 == 1)) ∧ w' = w := by
  obtain ⟨ao, cap, zs, rfl, hc, hn', hval, hN, hW, hr⟩ := h
  have := bit_any ao cap zs n w (by have := len_pow hN hval k hx; omega) hn hr hW
  rw [hval] at this
  exact this
theorem less_nv (v u : Value) (x y k : Nat) (w : World) (h : NatV w v x) (h' : NatV w u y) (hx : x < 2 ^ (32 * k)) (hk : k ≤ 1000) (hle : y ≤ x) :
    Calls Try.prog 43 #[v, u] w fun e w' => (∃ v', e = .returned v' ∧ NatV w' v' (x - y)) ∧ Below w.heap.size w w' := by
  obtain ⟨ao, cap, zs, rfl, hc, hn', hval, hN, hW, hr⟩ := h
  obtain ⟨ao2, cap2, zs2, rfl, hc2, hn2, hval2, hN2, hW2, hr2⟩ := h'
  have hl2 : zs2.length ≤ zs.length := by
    have h1 : nv zs2 < 4294967296 ^ zs.length := by rw [hval2]; exact Nat.lt_of_le_of_lt hle (by rw [← hval]; exact nv_lt hW)
    exact norm_len hN2 zs.length h1
  have := less_any ao ao2 cap cap2 zs zs2 w (by have := len_pow hN hval k hx; omega) hl2 (by rw [hval, hval2]; exact hle) hr hr2 hW hW2
  rw [hval, hval2] at this
  exact this
theorem NatV.len0 {w : World} {v : Value} {x : Nat} (h : NatV w v x) : ∃ ao l cap, v = .slice ao l cap ∧ (decide (0 < l) = decide (0 < x)) := by
  obtain ⟨ao, cap, zs, rfl, hc, hn', hval, hN, hW, hr⟩ := h
  refine ⟨ao, zs.length, cap, rfl, ?_⟩
  rw [decide_eq_decide]
  constructor
  · intro h
    rcases hN with h0 | h0
    · omega
    · apply Nat.pos_of_ne_zero
      intro hx
      rw [← hval] at hx
      have := norm_len (zs := zs) (Or.inr h0) 0 (by rw [hx]; decide)
      omega
  · intro h
    apply Nat.pos_of_ne_zero
    intro h0
    rw [List.length_eq_zero_iff.1 h0] at hval
    simp [nv] at hval
    omega
/-- a round of a division by bits -/
theorem ov_step (V b i : Nat) (hb : 0 < b) :
    let t := V / 2 ^ (i + 1) % b * 2 + V / 2 ^ i % 2
    (b ≤ t → V / 2 ^ i / b = V / 2 ^ (i + 1) / b * 2 + 1 ∧ V / 2 ^ i % b = t - b) ∧ (t < b → V / 2 ^ i / b = V / 2 ^ (i + 1) / b * 2 ∧ V / 2 ^ i % b = t) := by
  intro t
  have e1 : V / 2 ^ (i + 1) = V / 2 ^ i / 2 := by rw [Nat.pow_succ, Nat.div_div_eq_div_mul]
  have ht : t = V / 2 ^ (i + 1) % b * 2 + V / 2 ^ i % 2 := rfl
  clear_value t
  rw [e1] at ht ⊢
  generalize V / 2 ^ i = U at *
  have h1 := Nat.div_add_mod (U / 2) b
  have h2 := Nat.mod_lt (U / 2) hb
  have h3 := Nat.div_add_mod U 2
  generalize hq : U / 2 / b = q at *
  generalize hr : U / 2 % b = r at *
  have hU : U = b * (q * 2) + t := by
    rw [ht, ← Nat.mul_assoc, ← h3]
    omega
  have htl : t < 2 * b := by omega
  clear h1 h2 h3 ht hq hr e1
  refine ⟨fun h => ?_, fun h => ?_⟩
  · have hU2 : U = b * (q * 2 + 1) + (t - b) := by rw [Nat.mul_add, Nat.mul_one]; omega
    constructor
    · rw [hU2, Nat.mul_add_div hb, Nat.div_eq_of_lt (by omega), Nat.add_zero]
    · rw [hU2, Nat.mul_add_mod, Nat.mod_eq_of_lt (by omega)]
  · constructor
    · rw [hU, Nat.mul_add_div hb, Nat.div_eq_of_lt h, Nat.add_zero]
    · rw [hU, Nat.mul_add_mod, Nat.mod_eq_of_lt h]
end Go.Proofs.Ythaipahaaajgoaa
namespace Go.Proofs.Ythaipahaaajgoaa
open Go.RowKit

theorem hid_of {p : Prop} (h : p) : Hid p := h
set_option maxRecDepth 100000 in
set_option maxHeartbeats 4000000 in
theorem over_nv (v u : Value) (V b k nb : Nat) (w : World) (h : NatV w v V) (h' : NatV w u b) (hV : V < 2 ^ (32 * k)) (hbk : b < 2 ^ (32 * k)) (hk : k ≤ 100) (hb : 0 < b) (hnb : nbits V = nb) (hnl : nb ≤ 3200) :
    Calls Try.prog 48 #[v, u] w fun e w' => (∃ v', e = .returned (.tuple #[v', .bool (decide (0 < V % b))]) ∧ NatV w' v' (V / b)) ∧ Below w.heap.size w w' := by
  have HS := fun w (h : NatV w v V) => size_nv v V k w h hV (by omega)
  rw [hnb] at HS
  have HST : Hid (V < 2 ^ nb) := by
    rw [Hid, ← hnb]
    by_cases h0 : V = 0
    · subst h0; decide
    · exact (nb_bounds V h0).2.1
  clear hnb
  have hwr : wrap64 ((nb : Int) - 1) = (nb : Int) - 1 := by unfold wrap64; omega
  have HVL : Hid (V < 2 ^ (32 * k)) := hV
  have HBL0 : Hid (b < 2 ^ (32 * k)) := hbk
  have HBL : Hid (b < 2 ^ (32 * (k + 1))) := Nat.lt_of_lt_of_le hbk (Nat.pow_le_pow_right (by decide) (by omega))
  have HP : Hid (2 ^ (32 * k) * 4294967296 = 2 ^ (32 * (k + 1))) := by rw [Hid, Nat.mul_add, Nat.pow_add]
  have HK0 : Hid (0 < 2 ^ (32 * k)) := Nat.two_pow_pos _
  clear hV hbk
  go_enter Try.func48, Try.ntmps48
  go_wp2_with (go_at_call 52; with_reducible refine (HS _ h).mono ?_; rintro e wq ⟨rfl, hq⟩; subst wq)
  go_loopw [6, 7, 8] (fun rv ov iv wr => ∃ n : Nat, iv = .int .i64 ((n : Int) - 1) ∧ n ≤ nb ∧ NatV wr rv (V / 2 ^ n % b) ∧ NatV wr ov (V / 2 ^ n / b) ∧ Below w.heap.size w wr)
    (fun _ _ iv _ => (intOf iv + 1).toNat)
  case atStart =>
    have e0 : V / 2 ^ nb = 0 := Nat.div_eq_of_lt HST.out
    refine ⟨nb, by (first | rfl | rw [hwr]), Nat.le_refl _, ?_, ?_, Below.refl _ _⟩
    · rw [e0, Nat.zero_mod]; exact nv_nil _
    · rw [e0, Nat.zero_div]; exact nv_nil _
  case round =>
    obtain ⟨n, rfl, hn, HR, HO, HB⟩ := hrel
    rename World => wr
    have HV : NatV wr v V := h.on HB
    have HU : NatV wr u b := h'.on HB
    cases n with
    | zero =>
      obtain ⟨ao, l, cap, rfl, hl⟩ := HR.len0
      rw [Nat.pow_zero, Nat.div_one] at hl HO
      clear HR HS
      go_wp2
      go_ret2
      exact ⟨⟨_, by rw [← hl]; rfl, HO⟩, HB⟩
    | succ n =>
      have hst := ov_step V b n hb
      obtain ⟨r, hr⟩ : ∃ r, V / 2 ^ (n + 1) % b = r := ⟨_, rfl⟩
      obtain ⟨o, ho⟩ : ∃ o, V / 2 ^ (n + 1) / b = o := ⟨_, rfl⟩
      have HRB : Hid (r < b) := by rw [Hid, ← hr]; exact Nat.mod_lt _ hb
      have HRL : Hid (r < 2 ^ (32 * k)) := Nat.lt_trans HRB.out HBL0.out
      have HOL : Hid (o < 2 ^ (32 * k)) := by rw [Hid, ← ho]; exact Nat.lt_of_le_of_lt (Nat.le_trans (Nat.div_le_self _ _) (Nat.div_le_self _ _)) HVL.out
      have HR2 : Hid (r * 2 < 2 ^ (32 * (k + 1))) := by rw [Hid, ← HP.out]; have := HRL.out; omega
      have HO2 : Hid (o * 2 < 2 ^ (32 * (k + 1))) := by rw [Hid, ← HP.out]; have := HOL.out; omega
      have HR3 : Hid (r * 2 + 1 < 2 ^ (32 * (k + 1))) := by rw [Hid, ← HP.out]; have := HRL.out; have := HK0.out; omega
      rw [hr] at HR
      rw [ho] at HO
      rw [hr, ho] at hst
      have HST2 := hst
      clear hst hr ho HST
      replace HST2 := hid_of HST2
      have hin : ((n + 1 : Nat) : Int) - 1 = (n : Int) := by omega
      rw [hin]
      clear hin HS
      have hn0 : (0 : Int) ≤ (n : Int) := by omega
      cases hbit : (V / 2 ^ n % 2 == 1) with
      | false =>
        have HBI : Hid (V / 2 ^ n % 2 = 0) := by rw [Hid]; exact (Nat.mod_two_eq_zero_or_one _).resolve_right (by simpa using hbit)
        have HT : Hid (r * 2 < 2 ^ (32 * (k + 1))) := HR2
        by_cases hge : b ≤ r * 2
        · have HF := HST2.out
          rw [HBI.out] at HF
          have HF2 := HF.1 hge
          have HFq : Hid (V / 2 ^ n / b = o * 2 + 1) := HF2.1
          have HFr : Hid (V / 2 ^ n % b = r * 2 - b) := HF2.2
          have HGE : Hid (b ≤ r * 2) := by rw [Hid]; omega
          clear HF HF2 hge
          have hag : 0 ≤ ag (r * 2) b := by have := HGE.out; unfold ag; split <;> (try split) <;> omega
          
          go_wp2_with (first
            | (go_at_call 37; with_reducible refine (up_1 u6 r k _ (HR.on (by (repeat (first | exact Below.refl _ _ | with_reducible refine bel ?_ | with_reducible refine Below.drew ?_ | with_reducible refine bt3 ?_)))) HRL.out (by omega)).mono ?_; rintro e w1 ⟨⟨r1, rfl, hr1⟩, hb1⟩; replace HV := HV.step (by (repeat (first | exact Below.refl _ _ | with_reducible refine bel ?_ | with_reducible refine Below.drew ?_ | with_reducible refine bt3 ?_))) hb1; replace HU := HU.step (by (repeat (first | exact Below.refl _ _ | with_reducible refine bel ?_ | with_reducible refine Below.drew ?_ | with_reducible refine bt3 ?_))) hb1; replace HB : Below w.heap.size w w1 := bt2 hb1 (by (repeat (first | exact HB | exact Below.refl _ _ | with_reducible refine bel ?_ | with_reducible refine Below.drew ?_ | with_reducible refine bt3 ?_))); replace HO := HO.step (by (repeat (first | exact Below.refl _ _ | with_reducible refine bel ?_ | with_reducible refine Below.drew ?_ | with_reducible refine bt3 ?_))) hb1; clear HR; clear hb1)
            | (go_at_call 56; with_reducible refine (bit_nv v V k n _ (HV.on (by (repeat (first | exact Below.refl _ _ | with_reducible refine bel ?_ | with_reducible refine Below.drew ?_ | with_reducible refine bt3 ?_)))) HVL.out (by omega) (by omega)).mono ?_; rintro e wq ⟨rfl, hq⟩; subst wq)
            | (go_at_call 37; with_reducible refine (up_1 u7 o k _ (HO.on (by (repeat (first | exact Below.refl _ _ | with_reducible refine bel ?_ | with_reducible refine Below.drew ?_ | with_reducible refine bt3 ?_)))) HOL.out (by omega)).mono ?_; rintro e w4 ⟨⟨o4, rfl, ho4⟩, hb4⟩; replace HV := HV.step (by (repeat (first | exact Below.refl _ _ | with_reducible refine bel ?_ | with_reducible refine Below.drew ?_ | with_reducible refine bt3 ?_))) hb4; replace HU := HU.step (by (repeat (first | exact Below.refl _ _ | with_reducible refine bel ?_ | with_reducible refine Below.drew ?_ | with_reducible refine bt3 ?_))) hb4; replace HB : Below w.heap.size w w4 := bt2 hb4 (by (repeat (first | exact HB | exact Below.refl _ _ | with_reducible refine bel ?_ | with_reducible refine Below.drew ?_ | with_reducible refine bt3 ?_))); replace hr1 := hr1.step (by (repeat (first | exact Below.refl _ _ | with_reducible refine bel ?_ | with_reducible refine Below.drew ?_ | with_reducible refine bt3 ?_))) hb4; clear HO; clear hb4)
            | (go_at_call 41; with_reducible refine (against_nv r1 u _ _ (k + 1) _ (hr1.on (by (repeat (first | exact Below.refl _ _ | with_reducible refine bel ?_ | with_reducible refine Below.drew ?_ | with_reducible refine bt3 ?_)))) (HU.on (by (repeat (first | exact Below.refl _ _ | with_reducible refine bel ?_ | with_reducible refine Below.drew ?_ | with_reducible refine bt3 ?_)))) HT.out HBL.out (by omega)).mono ?_; rintro e wq ⟨rfl, mq, hq⟩; subst wq)
            | (go_at_call 43; with_reducible refine (less_nv r1 u _ _ (k + 1) _ (hr1.on (by (repeat (first | exact Below.refl _ _ | with_reducible refine bel ?_ | with_reducible refine Below.drew ?_ | with_reducible refine bt3 ?_)))) (HU.on (by (repeat (first | exact Below.refl _ _ | with_reducible refine bel ?_ | with_reducible refine Below.drew ?_ | with_reducible refine bt3 ?_)))) HT.out (by omega) HGE.out).mono ?_; rintro e w5 ⟨⟨r5, rfl, hr5⟩, hb5⟩; replace HV := HV.step (by (repeat (first | exact Below.refl _ _ | with_reducible refine bel ?_ | with_reducible refine Below.drew ?_ | with_reducible refine bt3 ?_))) hb5; replace HU := HU.step (by (repeat (first | exact Below.refl _ _ | with_reducible refine bel ?_ | with_reducible refine Below.drew ?_ | with_reducible refine bt3 ?_))) hb5; replace HB : Below w.heap.size w w5 := bt2 hb5 (by (repeat (first | exact HB | exact Below.refl _ _ | with_reducible refine bel ?_ | with_reducible refine Below.drew ?_ | with_reducible refine bt3 ?_))); replace ho4 := ho4.step (by (repeat (first | exact Below.refl _ _ | with_reducible refine bel ?_ | with_reducible refine Below.drew ?_ | with_reducible refine bt3 ?_))) hb5; clear hr1; clear hb5)
            | (go_at_call 38; with_reducible refine (nat_1 _).mono ?_; rintro e w6 ⟨⟨n6, rfl, hn6⟩, hb6⟩; replace HV := HV.step (by (repeat (first | exact Below.refl _ _ | with_reducible refine bel ?_ | with_reducible refine Below.drew ?_ | with_reducible refine bt3 ?_))) hb6; replace HU := HU.step (by (repeat (first | exact Below.refl _ _ | with_reducible refine bel ?_ | with_reducible refine Below.drew ?_ | with_reducible refine bt3 ?_))) hb6; replace HB : Below w.heap.size w w6 := bt2 hb6 (by (repeat (first | exact HB | exact Below.refl _ _ | with_reducible refine bel ?_ | with_reducible refine Below.drew ?_ | with_reducible refine bt3 ?_))); replace ho4 := ho4.step (by (repeat (first | exact Below.refl _ _ | with_reducible refine bel ?_ | with_reducible refine Below.drew ?_ | with_reducible refine bt3 ?_))) hb6; replace hr5 := hr5.step (by (repeat (first | exact Below.refl _ _ | with_reducible refine bel ?_ | with_reducible refine Below.drew ?_ | with_reducible refine bt3 ?_))) hb6; clear hb6)
            | (go_at_call 40; with_reducible refine (plus_nv o4 n6 _ _ (k + 1) _ (ho4.on (by (repeat (first | exact Below.refl _ _ | with_reducible refine bel ?_ | with_reducible refine Below.drew ?_ | with_reducible refine bt3 ?_)))) (hn6.on (by (repeat (first | exact Below.refl _ _ | with_reducible refine bel ?_ | with_reducible refine Below.drew ?_ | with_reducible refine bt3 ?_)))) HO2.out (one_lt (k + 1) (by omega)) (by omega)).mono ?_; rintro e w7 ⟨⟨o7, rfl, ho7⟩, hb7⟩; replace HV := HV.step (by (repeat (first | exact Below.refl _ _ | with_reducible refine bel ?_ | with_reducible refine Below.drew ?_ | with_reducible refine bt3 ?_))) hb7; replace HU := HU.step (by (repeat (first | exact Below.refl _ _ | with_reducible refine bel ?_ | with_reducible refine Below.drew ?_ | with_reducible refine bt3 ?_))) hb7; replace HB : Below w.heap.size w w7 := bt2 hb7 (by (repeat (first | exact HB | exact Below.refl _ _ | with_reducible refine bel ?_ | with_reducible refine Below.drew ?_ | with_reducible refine bt3 ?_))); replace hr5 := hr5.step (by (repeat (first | exact Below.refl _ _ | with_reducible refine bel ?_ | with_reducible refine Below.drew ?_ | with_reducible refine bt3 ?_))) hb7; clear ho4 hn6; clear hb7))
          go_roundw
          case rel => exact ⟨n, rfl, by omega, by rw [HFr.out]; exact hr5.on (by (repeat (first | exact Below.refl _ _ | with_reducible refine bel ?_ | with_reducible refine Below.drew ?_ | with_reducible refine bt3 ?_))), by rw [HFq.out]; exact ho7.on (by (repeat (first | exact Below.refl _ _ | with_reducible refine bel ?_ | with_reducible refine Below.drew ?_ | with_reducible refine bt3 ?_))), by (repeat (first | exact HB | exact Below.refl _ _ | with_reducible refine bel ?_ | with_reducible refine Below.drew ?_ | with_reducible refine bt3 ?_))⟩
          case measure => simp [intOf]
        · have HF := HST2.out
          rw [HBI.out] at HF
          have HF2 := HF.2 (by omega)
          have HFq : Hid (V / 2 ^ n / b = o * 2) := HF2.1
          have HFr : Hid (V / 2 ^ n % b = r * 2) := HF2.2
          have HGE : Hid (r * 2 < b) := by rw [Hid]; omega
          clear HF HF2 hge
          have hag : ag (r * 2) b < 0 := by have := HGE.out; unfold ag; split <;> (try split) <;> omega
          have hag2 : decide (0 ≤ ag (r * 2) b) = false := decide_eq_false (by omega)
          go_wp2_with (first
            | (go_at_call 37; with_reducible refine (up_1 u6 r k _ (HR.on (by (repeat (first | exact Below.refl _ _ | with_reducible refine bel ?_ | with_reducible refine Below.drew ?_ | with_reducible refine bt3 ?_)))) HRL.out (by omega)).mono ?_; rintro e w1 ⟨⟨r1, rfl, hr1⟩, hb1⟩; replace HV := HV.step (by (repeat (first | exact Below.refl _ _ | with_reducible refine bel ?_ | with_reducible refine Below.drew ?_ | with_reducible refine bt3 ?_))) hb1; replace HU := HU.step (by (repeat (first | exact Below.refl _ _ | with_reducible refine bel ?_ | with_reducible refine Below.drew ?_ | with_reducible refine bt3 ?_))) hb1; replace HB : Below w.heap.size w w1 := bt2 hb1 (by (repeat (first | exact HB | exact Below.refl _ _ | with_reducible refine bel ?_ | with_reducible refine Below.drew ?_ | with_reducible refine bt3 ?_))); replace HO := HO.step (by (repeat (first | exact Below.refl _ _ | with_reducible refine bel ?_ | with_reducible refine Below.drew ?_ | with_reducible refine bt3 ?_))) hb1; clear HR; clear hb1)
            | (go_at_call 56; with_reducible refine (bit_nv v V k n _ (HV.on (by (repeat (first | exact Below.refl _ _ | with_reducible refine bel ?_ | with_reducible refine Below.drew ?_ | with_reducible refine bt3 ?_)))) HVL.out (by omega) (by omega)).mono ?_; rintro e wq ⟨rfl, hq⟩; subst wq)
            | (go_at_call 37; with_reducible refine (up_1 u7 o k _ (HO.on (by (repeat (first | exact Below.refl _ _ | with_reducible refine bel ?_ | with_reducible refine Below.drew ?_ | with_reducible refine bt3 ?_)))) HOL.out (by omega)).mono ?_; rintro e w4 ⟨⟨o4, rfl, ho4⟩, hb4⟩; replace HV := HV.step (by (repeat (first | exact Below.refl _ _ | with_reducible refine bel ?_ | with_reducible refine Below.drew ?_ | with_reducible refine bt3 ?_))) hb4; replace HU := HU.step (by (repeat (first | exact Below.refl _ _ | with_reducible refine bel ?_ | with_reducible refine Below.drew ?_ | with_reducible refine bt3 ?_))) hb4; replace HB : Below w.heap.size w w4 := bt2 hb4 (by (repeat (first | exact HB | exact Below.refl _ _ | with_reducible refine bel ?_ | with_reducible refine Below.drew ?_ | with_reducible refine bt3 ?_))); replace hr1 := hr1.step (by (repeat (first | exact Below.refl _ _ | with_reducible refine bel ?_ | with_reducible refine Below.drew ?_ | with_reducible refine bt3 ?_))) hb4; clear HO; clear hb4)
            | (go_at_call 41; with_reducible refine (against_nv r1 u _ _ (k + 1) _ (hr1.on (by (repeat (first | exact Below.refl _ _ | with_reducible refine bel ?_ | with_reducible refine Below.drew ?_ | with_reducible refine bt3 ?_)))) (HU.on (by (repeat (first | exact Below.refl _ _ | with_reducible refine bel ?_ | with_reducible refine Below.drew ?_ | with_reducible refine bt3 ?_)))) HT.out HBL.out (by omega)).mono ?_; rintro e wq ⟨rfl, mq, hq⟩; subst wq))
          go_roundw
          case rel => exact ⟨n, rfl, by omega, by rw [HFr.out]; exact hr1.on (by (repeat (first | exact Below.refl _ _ | with_reducible refine bel ?_ | with_reducible refine Below.drew ?_ | with_reducible refine bt3 ?_))), by rw [HFq.out]; exact ho4.on (by (repeat (first | exact Below.refl _ _ | with_reducible refine bel ?_ | with_reducible refine Below.drew ?_ | with_reducible refine bt3 ?_))), by (repeat (first | exact HB | exact Below.refl _ _ | with_reducible refine bel ?_ | with_reducible refine Below.drew ?_ | with_reducible refine bt3 ?_))⟩
          case measure => simp [intOf]
      | true =>
        have HBI : Hid (V / 2 ^ n % 2 = 1) := by rw [Hid]; simpa using hbit
        have HT : Hid (r * 2 + 1 < 2 ^ (32 * (k + 1))) := HR3
        by_cases hge : b ≤ r * 2 + 1
        · have HF := HST2.out
          rw [HBI.out] at HF
          have HF2 := HF.1 hge
          have HFq : Hid (V / 2 ^ n / b = o * 2 + 1) := HF2.1
          have HFr : Hid (V / 2 ^ n % b = r * 2 + 1 - b) := HF2.2
          have HGE : Hid (b ≤ r * 2 + 1) := by rw [Hid]; omega
          clear HF HF2 hge
          have hag : 0 ≤ ag (r * 2 + 1) b := by have := HGE.out; unfold ag; split <;> (try split) <;> omega
          
          go_wp2_with (first
            | (go_at_call 37; with_reducible refine (up_1 u6 r k _ (HR.on (by (repeat (first | exact Below.refl _ _ | with_reducible refine bel ?_ | with_reducible refine Below.drew ?_ | with_reducible refine bt3 ?_)))) HRL.out (by omega)).mono ?_; rintro e w1 ⟨⟨r1, rfl, hr1⟩, hb1⟩; replace HV := HV.step (by (repeat (first | exact Below.refl _ _ | with_reducible refine bel ?_ | with_reducible refine Below.drew ?_ | with_reducible refine bt3 ?_))) hb1; replace HU := HU.step (by (repeat (first | exact Below.refl _ _ | with_reducible refine bel ?_ | with_reducible refine Below.drew ?_ | with_reducible refine bt3 ?_))) hb1; replace HB : Below w.heap.size w w1 := bt2 hb1 (by (repeat (first | exact HB | exact Below.refl _ _ | with_reducible refine bel ?_ | with_reducible refine Below.drew ?_ | with_reducible refine bt3 ?_))); replace HO := HO.step (by (repeat (first | exact Below.refl _ _ | with_reducible refine bel ?_ | with_reducible refine Below.drew ?_ | with_reducible refine bt3 ?_))) hb1; clear HR; clear hb1)
            | (go_at_call 56; with_reducible refine (bit_nv v V k n _ (HV.on (by (repeat (first | exact Below.refl _ _ | with_reducible refine bel ?_ | with_reducible refine Below.drew ?_ | with_reducible refine bt3 ?_)))) HVL.out (by omega) (by omega)).mono ?_; rintro e wq ⟨rfl, hq⟩; subst wq)
            | (go_at_call 38; with_reducible refine (nat_1 _).mono ?_; rintro e w6 ⟨⟨n6, rfl, hn6⟩, hb6⟩; replace HV := HV.step (by (repeat (first | exact Below.refl _ _ | with_reducible refine bel ?_ | with_reducible refine Below.drew ?_ | with_reducible refine bt3 ?_))) hb6; replace HU := HU.step (by (repeat (first | exact Below.refl _ _ | with_reducible refine bel ?_ | with_reducible refine Below.drew ?_ | with_reducible refine bt3 ?_))) hb6; replace HB : Below w.heap.size w w6 := bt2 hb6 (by (repeat (first | exact HB | exact Below.refl _ _ | with_reducible refine bel ?_ | with_reducible refine Below.drew ?_ | with_reducible refine bt3 ?_))); replace ho4 := ho4.step (by (repeat (first | exact Below.refl _ _ | with_reducible refine bel ?_ | with_reducible refine Below.drew ?_ | with_reducible refine bt3 ?_))) hb6; replace hr5 := hr5.step (by (repeat (first | exact Below.refl _ _ | with_reducible refine bel ?_ | with_reducible refine Below.drew ?_ | with_reducible refine bt3 ?_))) hb6; clear hb6)
            | (go_at_call 38; with_reducible refine (nat_1 _).mono ?_; rintro e w2 ⟨⟨n2, rfl, hn2⟩, hb2⟩; replace HV := HV.step (by (repeat (first | exact Below.refl _ _ | with_reducible refine bel ?_ | with_reducible refine Below.drew ?_ | with_reducible refine bt3 ?_))) hb2; replace HU := HU.step (by (repeat (first | exact Below.refl _ _ | with_reducible refine bel ?_ | with_reducible refine Below.drew ?_ | with_reducible refine bt3 ?_))) hb2; replace HB : Below w.heap.size w w2 := bt2 hb2 (by (repeat (first | exact HB | exact Below.refl _ _ | with_reducible refine bel ?_ | with_reducible refine Below.drew ?_ | with_reducible refine bt3 ?_))); replace HO := HO.step (by (repeat (first | exact Below.refl _ _ | with_reducible refine bel ?_ | with_reducible refine Below.drew ?_ | with_reducible refine bt3 ?_))) hb2; replace hr1 := hr1.step (by (repeat (first | exact Below.refl _ _ | with_reducible refine bel ?_ | with_reducible refine Below.drew ?_ | with_reducible refine bt3 ?_))) hb2; clear hb2)
            | (go_at_call 40; with_reducible refine (plus_nv r1 n2 _ _ (k + 1) _ (hr1.on (by (repeat (first | exact Below.refl _ _ | with_reducible refine bel ?_ | with_reducible refine Below.drew ?_ | with_reducible refine bt3 ?_)))) (hn2.on (by (repeat (first | exact Below.refl _ _ | with_reducible refine bel ?_ | with_reducible refine Below.drew ?_ | with_reducible refine bt3 ?_)))) HR2.out (one_lt (k + 1) (by omega)) (by omega)).mono ?_; rintro e w3 ⟨⟨r3, rfl, hr3⟩, hb3⟩; replace HV := HV.step (by (repeat (first | exact Below.refl _ _ | with_reducible refine bel ?_ | with_reducible refine Below.drew ?_ | with_reducible refine bt3 ?_))) hb3; replace HU := HU.step (by (repeat (first | exact Below.refl _ _ | with_reducible refine bel ?_ | with_reducible refine Below.drew ?_ | with_reducible refine bt3 ?_))) hb3; replace HB : Below w.heap.size w w3 := bt2 hb3 (by (repeat (first | exact HB | exact Below.refl _ _ | with_reducible refine bel ?_ | with_reducible refine Below.drew ?_ | with_reducible refine bt3 ?_))); replace HO := HO.step (by (repeat (first | exact Below.refl _ _ | with_reducible refine bel ?_ | with_reducible refine Below.drew ?_ | with_reducible refine bt3 ?_))) hb3; clear hr1 hn2; clear hb3)
            | (go_at_call 37; with_reducible refine (up_1 u7 o k _ (HO.on (by (repeat (first | exact Below.refl _ _ | with_reducible refine bel ?_ | with_reducible refine Below.drew ?_ | with_reducible refine bt3 ?_)))) HOL.out (by omega)).mono ?_; rintro e w4 ⟨⟨o4, rfl, ho4⟩, hb4⟩; replace HV := HV.step (by (repeat (first | exact Below.refl _ _ | with_reducible refine bel ?_ | with_reducible refine Below.drew ?_ | with_reducible refine bt3 ?_))) hb4; replace HU := HU.step (by (repeat (first | exact Below.refl _ _ | with_reducible refine bel ?_ | with_reducible refine Below.drew ?_ | with_reducible refine bt3 ?_))) hb4; replace HB : Below w.heap.size w w4 := bt2 hb4 (by (repeat (first | exact HB | exact Below.refl _ _ | with_reducible refine bel ?_ | with_reducible refine Below.drew ?_ | with_reducible refine bt3 ?_))); replace hr3 := hr3.step (by (repeat (first | exact Below.refl _ _ | with_reducible refine bel ?_ | with_reducible refine Below.drew ?_ | with_reducible refine bt3 ?_))) hb4; clear HO; clear hb4)
            | (go_at_call 41; with_reducible refine (against_nv r3 u _ _ (k + 1) _ (hr3.on (by (repeat (first | exact Below.refl _ _ | with_reducible refine bel ?_ | with_reducible refine Below.drew ?_ | with_reducible refine bt3 ?_)))) (HU.on (by (repeat (first | exact Below.refl _ _ | with_reducible refine bel ?_ | with_reducible refine Below.drew ?_ | with_reducible refine bt3 ?_)))) HT.out HBL.out (by omega)).mono ?_; rintro e wq ⟨rfl, mq, hq⟩; subst wq)
            | (go_at_call 43; with_reducible refine (less_nv r3 u _ _ (k + 1) _ (hr3.on (by (repeat (first | exact Below.refl _ _ | with_reducible refine bel ?_ | with_reducible refine Below.drew ?_ | with_reducible refine bt3 ?_)))) (HU.on (by (repeat (first | exact Below.refl _ _ | with_reducible refine bel ?_ | with_reducible refine Below.drew ?_ | with_reducible refine bt3 ?_)))) HT.out (by omega) HGE.out).mono ?_; rintro e w5 ⟨⟨r5, rfl, hr5⟩, hb5⟩; replace HV := HV.step (by (repeat (first | exact Below.refl _ _ | with_reducible refine bel ?_ | with_reducible refine Below.drew ?_ | with_reducible refine bt3 ?_))) hb5; replace HU := HU.step (by (repeat (first | exact Below.refl _ _ | with_reducible refine bel ?_ | with_reducible refine Below.drew ?_ | with_reducible refine bt3 ?_))) hb5; replace HB : Below w.heap.size w w5 := bt2 hb5 (by (repeat (first | exact HB | exact Below.refl _ _ | with_reducible refine bel ?_ | with_reducible refine Below.drew ?_ | with_reducible refine bt3 ?_))); replace ho4 := ho4.step (by (repeat (first | exact Below.refl _ _ | with_reducible refine bel ?_ | with_reducible refine Below.drew ?_ | with_reducible refine bt3 ?_))) hb5; clear hr3; clear hb5)
            | (go_at_call 40; with_reducible refine (plus_nv o4 n6 _ _ (k + 1) _ (ho4.on (by (repeat (first | exact Below.refl _ _ | with_reducible refine bel ?_ | with_reducible refine Below.drew ?_ | with_reducible refine bt3 ?_)))) (hn6.on (by (repeat (first | exact Below.refl _ _ | with_reducible refine bel ?_ | with_reducible refine Below.drew ?_ | with_reducible refine bt3 ?_)))) HO2.out (one_lt (k + 1) (by omega)) (by omega)).mono ?_; rintro e w7 ⟨⟨o7, rfl, ho7⟩, hb7⟩; replace HV := HV.step (by (repeat (first | exact Below.refl _ _ | with_reducible refine bel ?_ | with_reducible refine Below.drew ?_ | with_reducible refine bt3 ?_))) hb7; replace HU := HU.step (by (repeat (first | exact Below.refl _ _ | with_reducible refine bel ?_ | with_reducible refine Below.drew ?_ | with_reducible refine bt3 ?_))) hb7; replace HB : Below w.heap.size w w7 := bt2 hb7 (by (repeat (first | exact HB | exact Below.refl _ _ | with_reducible refine bel ?_ | with_reducible refine Below.drew ?_ | with_reducible refine bt3 ?_))); replace hr5 := hr5.step (by (repeat (first | exact Below.refl _ _ | with_reducible refine bel ?_ | with_reducible refine Below.drew ?_ | with_reducible refine bt3 ?_))) hb7; clear ho4 hn6; clear hb7))
          go_roundw
          case rel => exact ⟨n, rfl, by omega, by rw [HFr.out]; exact hr5.on (by (repeat (first | exact Below.refl _ _ | with_reducible refine bel ?_ | with_reducible refine Below.drew ?_ | with_reducible refine bt3 ?_))), by rw [HFq.out]; exact ho7.on (by (repeat (first | exact Below.refl _ _ | with_reducible refine bel ?_ | with_reducible refine Below.drew ?_ | with_reducible refine bt3 ?_))), by (repeat (first | exact HB | exact Below.refl _ _ | with_reducible refine bel ?_ | with_reducible refine Below.drew ?_ | with_reducible refine bt3 ?_))⟩
          case measure => simp [intOf]
        · have HF := HST2.out
          rw [HBI.out] at HF
          have HF2 := HF.2 (by omega)
          have HFq : Hid (V / 2 ^ n / b = o * 2) := HF2.1
          have HFr : Hid (V / 2 ^ n % b = r * 2 + 1) := HF2.2
          have HGE : Hid (r * 2 + 1 < b) := by rw [Hid]; omega
          clear HF HF2 hge
          have hag : ag (r * 2 + 1) b < 0 := by have := HGE.out; unfold ag; split <;> (try split) <;> omega
          have hag2 : decide (0 ≤ ag (r * 2 + 1) b) = false := decide_eq_false (by omega)
          go_wp2_with (first
            | (go_at_call 37; with_reducible refine (up_1 u6 r k _ (HR.on (by (repeat (first | exact Below.refl _ _ | with_reducible refine bel ?_ | with_reducible refine Below.drew ?_ | with_reducible refine bt3 ?_)))) HRL.out (by omega)).mono ?_; rintro e w1 ⟨⟨r1, rfl, hr1⟩, hb1⟩; replace HV := HV.step (by (repeat (first | exact Below.refl _ _ | with_reducible refine bel ?_ | with_reducible refine Below.drew ?_ | with_reducible refine bt3 ?_))) hb1; replace HU := HU.step (by (repeat (first | exact Below.refl _ _ | with_reducible refine bel ?_ | with_reducible refine Below.drew ?_ | with_reducible refine bt3 ?_))) hb1; replace HB : Below w.heap.size w w1 := bt2 hb1 (by (repeat (first | exact HB | exact Below.refl _ _ | with_reducible refine bel ?_ | with_reducible refine Below.drew ?_ | with_reducible refine bt3 ?_))); replace HO := HO.step (by (repeat (first | exact Below.refl _ _ | with_reducible refine bel ?_ | with_reducible refine Below.drew ?_ | with_reducible refine bt3 ?_))) hb1; clear HR; clear hb1)
            | (go_at_call 56; with_reducible refine (bit_nv v V k n _ (HV.on (by (repeat (first | exact Below.refl _ _ | with_reducible refine bel ?_ | with_reducible refine Below.drew ?_ | with_reducible refine bt3 ?_)))) HVL.out (by omega) (by omega)).mono ?_; rintro e wq ⟨rfl, hq⟩; subst wq)
            | (go_at_call 38; with_reducible refine (nat_1 _).mono ?_; rintro e w2 ⟨⟨n2, rfl, hn2⟩, hb2⟩; replace HV := HV.step (by (repeat (first | exact Below.refl _ _ | with_reducible refine bel ?_ | with_reducible refine Below.drew ?_ | with_reducible refine bt3 ?_))) hb2; replace HU := HU.step (by (repeat (first | exact Below.refl _ _ | with_reducible refine bel ?_ | with_reducible refine Below.drew ?_ | with_reducible refine bt3 ?_))) hb2; replace HB : Below w.heap.size w w2 := bt2 hb2 (by (repeat (first | exact HB | exact Below.refl _ _ | with_reducible refine bel ?_ | with_reducible refine Below.drew ?_ | with_reducible refine bt3 ?_))); replace HO := HO.step (by (repeat (first | exact Below.refl _ _ | with_reducible refine bel ?_ | with_reducible refine Below.drew ?_ | with_reducible refine bt3 ?_))) hb2; replace hr1 := hr1.step (by (repeat (first | exact Below.refl _ _ | with_reducible refine bel ?_ | with_reducible refine Below.drew ?_ | with_reducible refine bt3 ?_))) hb2; clear hb2)
            | (go_at_call 40; with_reducible refine (plus_nv r1 n2 _ _ (k + 1) _ (hr1.on (by (repeat (first | exact Below.refl _ _ | with_reducible refine bel ?_ | with_reducible refine Below.drew ?_ | with_reducible refine bt3 ?_)))) (hn2.on (by (repeat (first | exact Below.refl _ _ | with_reducible refine bel ?_ | with_reducible refine Below.drew ?_ | with_reducible refine bt3 ?_)))) HR2.out (one_lt (k + 1) (by omega)) (by omega)).mono ?_; rintro e w3 ⟨⟨r3, rfl, hr3⟩, hb3⟩; replace HV := HV.step (by (repeat (first | exact Below.refl _ _ | with_reducible refine bel ?_ | with_reducible refine Below.drew ?_ | with_reducible refine bt3 ?_))) hb3; replace HU := HU.step (by (repeat (first | exact Below.refl _ _ | with_reducible refine bel ?_ | with_reducible refine Below.drew ?_ | with_reducible refine bt3 ?_))) hb3; replace HB : Below w.heap.size w w3 := bt2 hb3 (by (repeat (first | exact HB | exact Below.refl _ _ | with_reducible refine bel ?_ | with_reducible refine Below.drew ?_ | with_reducible refine bt3 ?_))); replace HO := HO.step (by (repeat (first | exact Below.refl _ _ | with_reducible refine bel ?_ | with_reducible refine Below.drew ?_ | with_reducible refine bt3 ?_))) hb3; clear hr1 hn2; clear hb3)
            | (go_at_call 37; with_reducible refine (up_1 u7 o k _ (HO.on (by (repeat (first | exact Below.refl _ _ | with_reducible refine bel ?_ | with_reducible refine Below.drew ?_ | with_reducible refine bt3 ?_)))) HOL.out (by omega)).mono ?_; rintro e w4 ⟨⟨o4, rfl, ho4⟩, hb4⟩; replace HV := HV.step (by (repeat (first | exact Below.refl _ _ | with_reducible refine bel ?_ | with_reducible refine Below.drew ?_ | with_reducible refine bt3 ?_))) hb4; replace HU := HU.step (by (repeat (first | exact Below.refl _ _ | with_reducible refine bel ?_ | with_reducible refine Below.drew ?_ | with_reducible refine bt3 ?_))) hb4; replace HB : Below w.heap.size w w4 := bt2 hb4 (by (repeat (first | exact HB | exact Below.refl _ _ | with_reducible refine bel ?_ | with_reducible refine Below.drew ?_ | with_reducible refine bt3 ?_))); replace hr3 := hr3.step (by (repeat (first | exact Below.refl _ _ | with_reducible refine bel ?_ | with_reducible refine Below.drew ?_ | with_reducible refine bt3 ?_))) hb4; clear HO; clear hb4)
            | (go_at_call 41; with_reducible refine (against_nv r3 u _ _ (k + 1) _ (hr3.on (by (repeat (first | exact Below.refl _ _ | with_reducible refine bel ?_ | with_reducible refine Below.drew ?_ | with_reducible refine bt3 ?_)))) (HU.on (by (repeat (first | exact Below.refl _ _ | with_reducible refine bel ?_ | with_reducible refine Below.drew ?_ | with_reducible refine bt3 ?_)))) HT.out HBL.out (by omega)).mono ?_; rintro e wq ⟨rfl, mq, hq⟩; subst wq))
          go_roundw
          case rel => exact ⟨n, rfl, by omega, by rw [HFr.out]; exact hr3.on (by (repeat (first | exact Below.refl _ _ | with_reducible refine bel ?_ | with_reducible refine Below.drew ?_ | with_reducible refine bt3 ?_))), by rw [HFq.out]; exact ho4.on (by (repeat (first | exact Below.refl _ _ | with_reducible refine bel ?_ | with_reducible refine Below.drew ?_ | with_reducible refine bt3 ?_))), by (repeat (first | exact HB | exact Below.refl _ _ | with_reducible refine bel ?_ | with_reducible refine Below.drew ?_ | with_reducible refine bt3 ?_))⟩
          case measure => simp [intOf]
end Go.Proofs.Ythaipahaaajgoaa
namespace Go.Proofs.Ythaipahaaajgoaa
open Go.RowKit

/-- a number and its fine part: what is far below the cut counts only as a mark -/
theorem rne_mark (N d D n l m h : Nat) (hn : N / 2 ^ (d + 1) = n) (hl : N % 2 ^ (d + 1) = l) (hm : (l != 0).toNat = m) (hD : 2 ≤ D) (hh : 2 ^ (D - 2) = h) :
    rne (2 * n + m) (2 ^ D) = rne N (2 ^ (D + d)) := by
  have hH : 2 ^ (D - 1) = 2 * h := by rw [← hh, ← Nat.pow_succ', show (D - 2).succ = D - 1 by omega]
  have hHD : 2 ^ D = 2 * 2 ^ (D - 1) := by rw [← Nat.pow_succ', show (D - 1).succ = D by omega]
  have hg : 2 ^ (D + d) = 2 ^ (d + 1) * 2 ^ (D - 1) := by rw [← Nat.pow_add]; congr 1; omega
  have hgp := Nat.two_pow_pos (d + 1)
  have hll : l < 2 ^ (d + 1) := by rw [← hl]; exact Nat.mod_lt _ hgp
  have hm1 : m ≤ 1 := by rw [← hm]; cases (l != 0) <;> decide
  have hml : l = 0 ↔ m = 0 := by
    rw [← hm]
    by_cases e : l = 0
    · simp [e]
    · simp [e]
  have q1 : (2 * n + m) / 2 ^ D = n / 2 ^ (D - 1) := by rw [hHD, ← Nat.div_div_eq_div_mul, show (2 * n + m) / 2 = n by omega]
  have q2 : N / 2 ^ (D + d) = n / 2 ^ (D - 1) := by rw [hg, ← Nat.div_div_eq_div_mul, hn]
  have r1 : (2 * n + m) % 2 ^ D = 2 * (n % 2 ^ (D - 1)) + m := by
    have a1 := Nat.div_add_mod (2 * n + m) (2 ^ D)
    have a2 := Nat.div_add_mod n (2 ^ (D - 1))
    rw [q1, hHD, Nat.mul_assoc] at a1
    rw [hHD]
    omega
  have r2 : N % 2 ^ (D + d) = 2 ^ (d + 1) * (n % 2 ^ (D - 1)) + l := by
    have a1 := Nat.div_add_mod N (2 ^ (D + d))
    have a2 := Nat.div_add_mod n (2 ^ (D - 1))
    have a3 := Nat.div_add_mod N (2 ^ (d + 1))
    rw [hn, hl] at a3
    rw [q2, hg, Nat.mul_assoc] at a1
    rw [hg]
    have a4 : 2 ^ (d + 1) * n = 2 ^ (d + 1) * (2 ^ (D - 1) * (n / 2 ^ (D - 1))) + 2 ^ (d + 1) * (n % 2 ^ (D - 1)) := by rw [← Nat.mul_add, a2]
    omega
  unfold rne
  rw [q1, q2, r1, r2]
  congr 1
  rw [hg, hHD, hH]
  generalize n % (2 * h) = R
  generalize 2 ^ (d + 1) = g at *
  have hc : g * (2 * h) = 2 * (g * h) := Nat.mul_left_comm _ _ _
  have e1 : (2 * (2 * h) < 2 * (2 * R + m)) ↔ (g * (2 * h) < 2 * (g * R + l)) := by
    rcases Nat.lt_trichotomy h R with c | c | c
    · have : g * (h + 1) ≤ g * R := Nat.mul_le_mul_left _ c
      rw [Nat.mul_add, Nat.mul_one] at this
      rw [hc]
      exact ⟨fun _ => by omega, fun _ => by omega⟩
    · subst c
      rw [hc]
      omega
    · have : g * (R + 1) ≤ g * h := Nat.mul_le_mul_left _ c
      rw [Nat.mul_add, Nat.mul_one] at this
      rw [hc]
      exact ⟨fun _ => by omega, fun _ => by omega⟩
  have e2 : (2 * (2 * h) = 2 * (2 * R + m)) ↔ (g * (2 * h) = 2 * (g * R + l)) := by
    rcases Nat.lt_trichotomy h R with c | c | c
    · have : g * (h + 1) ≤ g * R := Nat.mul_le_mul_left _ c
      rw [Nat.mul_add, Nat.mul_one] at this
      rw [hc]
      exact ⟨fun _ => by omega, fun _ => by omega⟩
    · subst c
      rw [hc]
      omega
    · have : g * (R + 1) ≤ g * h := Nat.mul_le_mul_left _ c
      rw [Nat.mul_add, Nat.mul_one] at this
      rw [hc]
      exact ⟨fun _ => by omega, fun _ => by omega⟩
  simp only [e1, e2]
theorem nbits_eq {N k : Nat} (h1 : 2 ^ k ≤ N) (h2 : N < 2 ^ (k + 1)) : nbits N = k + 1 := by
  have h0 : N ≠ 0 := by have := Nat.two_pow_pos k; omega
  obtain ⟨b1, b2, b3⟩ := nb_bounds N h0
  have c1 := (Nat.pow_lt_pow_iff_right (a := 2) (by decide)).1 (Nat.lt_of_le_of_lt b1 h2)
  have c2 := (Nat.pow_lt_pow_iff_right (a := 2) (by decide)).1 (Nat.lt_of_le_of_lt h1 b2)
  omega
theorem rg_mark (N d n l : Nat) (P : Int) (hn : N / 2 ^ (d + 1) = n) (hl : N % 2 ^ (d + 1) = l) (hb : 16777216 ≤ n) :
    rg Ieee.single (2 * n + (l != 0).toNat) (P + d) = rg Ieee.single N P := by
  obtain ⟨m, hm⟩ : ∃ m, (l != 0).toNat = m := ⟨_, rfl⟩
  have hm1 : m ≤ 1 := by rw [← hm]; cases (l != 0) <;> decide
  rw [hm]
  have hn0 : n ≠ 0 := by omega
  obtain ⟨b1, b2, b3⟩ := nb_bounds n hn0
  obtain ⟨k, hk⟩ : ∃ k, nbits n = k + 1 := ⟨nbits n - 1, by omega⟩
  rw [hk, Nat.add_sub_cancel] at b1
  rw [hk] at b2
  have hk24 : 24 ≤ k := by
    have : 2 ^ 24 < 2 ^ (k + 1) := Nat.lt_of_le_of_lt (show 2 ^ 24 ≤ n by omega) b2
    have := (Nat.pow_lt_pow_iff_right (a := 2) (by decide)).1 this
    omega
  have n1 : nbits (2 * n + m) = k + 2 := nbits_eq (by rw [Nat.pow_succ]; omega) (by rw [Nat.pow_succ]; omega)
  have hgp := Nat.two_pow_pos (d + 1)
  have hdm := Nat.div_add_mod N (2 ^ (d + 1))
  rw [hn, hl] at hdm
  have hll : l < 2 ^ (d + 1) := by rw [← hl]; exact Nat.mod_lt _ hgp
  have n2 : nbits N = k + (d + 1) + 1 := nbits_eq
    (by rw [Nat.pow_add, Nat.mul_comm, ← hdm]; exact Nat.le_trans (Nat.mul_le_mul_left _ b1) (Nat.le_add_right _ _))
    (by
      have h1 : 2 ^ (d + 1) * (n + 1) ≤ 2 ^ (d + 1) * 2 ^ (k + 1) := Nat.mul_le_mul_left _ b2
      rw [← Nat.pow_add, show d + 1 + (k + 1) = k + (d + 1) + 1 by omega, Nat.mul_add, Nat.mul_one] at h1
      omega)
  obtain ⟨K, hK⟩ : ∃ K, max (P + nbits N - 24) (-149) = K := ⟨_, rfl⟩
  obtain ⟨D, hD⟩ : ∃ D : Nat, K - (P + d) = D := ⟨(K - (P + d)).toNat, by rw [n2] at hK; omega⟩
  have hD2 : 2 ≤ D := by rw [n2] at hK; omega
  rw [rg_dn (2 * n + m) (by omega) (P + d) K D (by rw [n1]; rw [n2] at hK; omega) hD, rg_dn N (by intro h; subst h; simp at hn; omega) P K (D + d) hK (by omega)]
  rw [rne_mark N d D n l m _ hn hl hm hD2 rfl]
/-- a quotient with its mark, at two fine units -/
theorem rg_quot (A b s d : Nat) (P : Int) (hb : 0 < b) (hq : 16777216 ≤ A * 2 ^ s / b) :
    rg Ieee.single (2 * (A * 2 ^ s / b) + (A * 2 ^ s % b != 0).toNat) (P + d) = rg Ieee.single (2 * (A * 2 ^ (s + d) / b) + (A * 2 ^ (s + d) % b != 0).toNat) P := by
  obtain ⟨X, hX⟩ : ∃ X, A * 2 ^ s = X := ⟨_, rfl⟩
  have hXd : A * 2 ^ (s + d) = X * 2 ^ d := by rw [← hX, Nat.pow_add, Nat.mul_assoc]
  rw [hXd, hX]
  rw [hX] at hq
  have hdp := Nat.two_pow_pos d
  obtain ⟨m, hm⟩ : ∃ m, (X * 2 ^ d % b != 0).toNat = m := ⟨_, rfl⟩
  have hm1 : m ≤ 1 := by rw [← hm]; cases (X * 2 ^ d % b != 0) <;> decide
  have hmz : X * 2 ^ d % b = 0 ↔ m = 0 := by
    rw [← hm]
    by_cases e : X * 2 ^ d % b = 0
    · simp [e]
    · simp [e]
  rw [hm]
  have hn : (2 * (X * 2 ^ d / b) + m) / 2 ^ (d + 1) = X / b := by
    rw [Nat.pow_succ, Nat.mul_comm (2 ^ d), ← Nat.div_div_eq_div_mul, show (2 * (X * 2 ^ d / b) + m) / 2 = X * 2 ^ d / b by omega, Nat.div_div_eq_div_mul, Nat.mul_div_mul_right _ _ hdp]
  have h1 := rg_mark (2 * (X * 2 ^ d / b) + m) d (X / b) _ P hn rfl hq
  rw [← h1]
  congr 3
  have hl : (2 * (X * 2 ^ d / b) + m) % 2 ^ (d + 1) = 2 * (X * 2 ^ d / b % 2 ^ d) + m := by
    have a1 := Nat.div_add_mod (2 * (X * 2 ^ d / b) + m) (2 ^ (d + 1))
    have a2 := Nat.div_add_mod (X * 2 ^ d / b) (2 ^ d)
    rw [hn, Nat.pow_succ, Nat.mul_comm (2 ^ d), Nat.mul_assoc] at a1
    rw [Nat.div_div_eq_div_mul, Nat.mul_div_mul_right _ _ hdp] at a2
    rw [Nat.pow_succ, Nat.mul_comm (2 ^ d)]
    omega
  rw [hl]
  have hx : X * 2 ^ d % (b * 2 ^ d) = X % b * 2 ^ d := Nat.mul_mod_mul_right _ _ _
  rw [Nat.mod_mul] at hx
  have key : X % b = 0 ↔ 2 * (X * 2 ^ d / b % 2 ^ d) + m = 0 := by
    constructor
    · intro h
      rw [h, Nat.zero_mul] at hx
      have h3 : X * 2 ^ d % b = 0 := by omega
      have h4 : b * (X * 2 ^ d / b % 2 ^ d) = 0 := by omega
      rcases Nat.mul_eq_zero.1 h4 with h5 | h5
      · omega
      · rw [h5]; have := hmz.1 h3; omega
    · intro h
      have h3 : X * 2 ^ d / b % 2 ^ d = 0 := by omega
      have h4 := hmz.2 (by omega)
      rw [h3, h4, Nat.mul_zero] at hx
      rcases Nat.mul_eq_zero.1 hx.symm with h5 | h5
      · exact h5
      · omega
  rw [Bool.eq_iff_iff]
  simp only [bne_iff_ne, ne_eq]
  rw [key]
end Go.Proofs.Ythaipahaaajgoaa
namespace Go.Proofs.Ythaipahaaajgoaa
open Go.RowKit

set_option maxRecDepth 100000 in
set_option maxHeartbeats 4000000 in
theorem rM1a (m : Bool) (v0 : Value) (x0 NN : Nat) (P0 P : Int) (nb X M : Nat) (w : World) (hv0 : NatV w v0 x0) (hx0 : x0 < 2 ^ (32 * 6)) (hNN : x0 * 2 + 1 = NN) (hP1 : P0 - 1 = P) (hnb : nbits (NN) = nb) (hnl : nb ≤ 4000) (hP : -5000 ≤ P) (hP2 : P ≤ 5000) (hA : P + nb - 24 < -149) (hX : P - -149 = X) (hM : NN * 2 ^ X = M) (hMl : M < 18446744073709551616) :
    Calls Try.prog 39 #[.agg #[.int .i64 24, .int .i64 (-149), .int .i64 104], .bool m, v0, .int .i64 P0, .bool true] w fun e w' => e = .returned (hdV m M (-149)) ∧ Below w.heap.size w w' := by
  have HM : Hid (NN * 2 ^ X = M) := hM
  have hX5 : X ≤ 10000 := by omega
  have hPX : P + 149 = X := by omega
  have hPl : (-149 : Int) ≤ P := by omega
  have HXw : Hid (IntKind.i64.wrap (X : Int) = X) := by rw [Hid, IntKind.wrap_i64]; omega
  have HD : Hid (hdV m M (-149) = .agg #[.int .u8 3, .bool m, .int .u64 M, .int .i64 (-149)]) := by rw [Hid, hdV, if_neg (by omega)]
  clear hM hX
  have HB : Below ((w.alloc ob).alloc oz).heap.size ((w.alloc ob).alloc oz) ((w.alloc ob).alloc oz) := Below.refl _ _
  have HV0 : Hid (NatV ((w.alloc ob).alloc oz) v0 x0) := hv0.on (bel (bel (Below.refl _ _)))
  have HX0 : Hid (x0 < 2 ^ (32 * 6)) := hx0
  have HX1 : Hid (x0 * 2 < 2 ^ (32 * (6 + 1))) := dbl_lt (k := 6) hx0
  have HNN : Hid (x0 * 2 + 1 = NN) := hNN
  have HNZ : Hid (NN ≠ 0) := by rw [Hid]; omega
  have HNL : Hid (NN < 2 ^ (32 * (6 + 1))) := nn_lt (k := 6) hNN hx0
  clear hx0 hv0 hNN
  go_enter Try.func39, Try.ntmps39
  go_wp2_with (first
    | (go_at_call 37; with_reducible refine (up_1 v0 x0 6 _ (HV0.out.on (by (repeat (first | exact Below.refl _ _ | with_reducible refine bel ?_ | with_reducible refine Below.drew ?_ | with_reducible refine bt3 ?_)))) HX0.out (by omega)).mono ?_; rintro e wa ⟨⟨va, rfl, hva⟩, hba⟩; replace HB : Below ((w.alloc ob).alloc oz).heap.size ((w.alloc ob).alloc oz) wa := bt2 hba (by (repeat (first | exact HB | exact Below.refl _ _ | with_reducible refine bel ?_ | with_reducible refine Below.drew ?_ | with_reducible refine bt3 ?_))))
    | (go_at_call 38; with_reducible refine (nat_1 _).mono ?_; rintro e wb ⟨⟨vb, rfl, hvb⟩, hbb⟩; replace HB : Below ((w.alloc ob).alloc oz).heap.size ((w.alloc ob).alloc oz) wb := bt2 hbb (by (repeat (first | exact HB | exact Below.refl _ _ | with_reducible refine bel ?_ | with_reducible refine Below.drew ?_ | with_reducible refine bt3 ?_))); replace hva := hva.step (by (repeat (first | exact Below.refl _ _ | with_reducible refine bel ?_ | with_reducible refine Below.drew ?_ | with_reducible refine bt3 ?_))) hbb)
    | (go_at_call 40; with_reducible refine (plus_nv va vb _ _ (6 + 1) _ (hva.on (by (repeat (first | exact Below.refl _ _ | with_reducible refine bel ?_ | with_reducible refine Below.drew ?_ | with_reducible refine bt3 ?_)))) (hvb.on (by (repeat (first | exact Below.refl _ _ | with_reducible refine bel ?_ | with_reducible refine Below.drew ?_ | with_reducible refine bt3 ?_)))) HX1.out (one_lt (6 + 1) (by decide)) (by omega)).mono ?_; rintro e wn ⟨⟨vn, rfl, hvn⟩, hbn⟩; replace HB : Below ((w.alloc ob).alloc oz).heap.size ((w.alloc ob).alloc oz) wn := bt2 hbn (by (repeat (first | exact HB | exact Below.refl _ _ | with_reducible refine bel ?_ | with_reducible refine Below.drew ?_ | with_reducible refine bt3 ?_))); obtain ⟨ao, cap, zs, rfl, hc0, hn0, hval0, hN, hW, hr2⟩ := hvn.dest; rw [HNN.out] at hval0; subst hval0; have hz' := lenz hN HNZ.out; obtain ⟨f0, f1, f2⟩ := kF HB; clear hva hvb hvn hba hbb hbn))
  have hl : zs.length ≤ 100 := by have := len_pow hN rfl (6 + 1) HNL.out; omega
  have sz := fun W hrW => size_any ao cap zs W (by omega) hrW hW hN
  rw [hnb] at sz
  have HN : Below wn.heap.size wn wn := Below.refl _ _
  go_quiet (((go_at_call 52); exact Calls.quiet_of_same (sz _ hr2)))
  go_wp2
  go_region_held3 (fun w' => w'.cell? ⟨w.heap.size, 0, none⟩ = some (.int .i64 24) ∧ w'.cell? ⟨w.heap.size, 1, none⟩ = some (.int .i64 (-149)) ∧ w'.cell? ⟨w.heap.size, 2, none⟩ = some (.int .i64 104)) ((first | ((try dsimp only); with_reducible refine kS ?_; (repeat (first | exact HB | exact Below.refl _ _ | with_reducible refine bel ?_ | with_reducible refine Below.drew ?_ | with_reducible refine bt3 ?_ | with_reducible refine bt2 hb1 ?_ | with_reducible refine bt2 hb2 ?_)); done) | (refine kF ?_; (repeat (first | exact HB | exact Below.refl _ _ | with_reducible refine bel ?_ | with_reducible refine Below.drew ?_ | with_reducible refine bt3 ?_ | with_reducible refine bt2 hb1 ?_ | with_reducible refine bt2 hb2 ?_)); done))) (first
    | (go_at_call 37; rw [HXw.out]; with_reducible refine (up_any ao cap zs X _ (by omega) (by omega) (RU hr2 (by (repeat (first | exact HB | exact Below.refl _ _ | with_reducible refine bel ?_ | with_reducible refine Below.drew ?_ | with_reducible refine bt3 ?_)))) hW).mono ?_; rintro e w1 ⟨⟨v1, rfl, hv1⟩, hb1⟩; obtain ⟨ao1, cap1, zs1, rfl, hc1, hn1, hval1, hN1, hW1, hr1⟩ := hv1.dest)
    | (go_at_call 54; with_reducible refine (low_any ao1 cap1 zs1 _ (by have := small_len hN1 (hval1.trans HM.out) hMl; omega) (RU hr1 (by (repeat (first | exact HB | exact Below.refl _ _ | with_reducible refine bel ?_ | with_reducible refine Below.drew ?_ | with_reducible refine bt3 ?_)))) hW1).mono ?_; rintro e wq ⟨rfl, hq⟩; rw [hval1, HM.out, Nat.mod_eq_of_lt hMl]; subst wq)
    | (go_at_call 53; with_reducible refine (held_any m M (-149) _).mono ?_; rintro e w2 ⟨rfl, hb2⟩; rw [HD.out]; obtain ⟨r0, r1, r2, r3, q0, q1, q2, q3⟩ := kA (w := w) (W := w2) (by repeat (first | exact HB | exact Below.refl _ _ | with_reducible refine bel ?_ | with_reducible refine Below.drew ?_ | with_reducible refine bt3 ?_ | with_reducible refine bt2 hb1 ?_ | with_reducible refine bt2 hb2 ?_))))
  go_wp2
  refine bodyPost_ret (v := .agg #[.int .u8 3, .bool m, .int .u64 M, .int .i64 (-149)]) (by simp [results, Try.f39, go_sem, r0, r1, r2, r3]) rfl ?_
  exact ⟨by rw [HD.out], kB (by repeat (first | exact HB | exact Below.refl _ _ | with_reducible refine bel ?_ | with_reducible refine Below.drew ?_ | with_reducible refine bt3 ?_ | with_reducible refine bt2 hb1 ?_ | with_reducible refine bt2 hb2 ?_))⟩
set_option maxRecDepth 100000 in
set_option maxHeartbeats 4000000 in
theorem rM1b (m : Bool) (v0 : Value) (x0 NN : Nat) (P0 P : Int) (nb X M : Nat) (K : Int) (w : World) (hv0 : NatV w v0 x0) (hx0 : x0 < 2 ^ (32 * 6)) (hNN : x0 * 2 + 1 = NN) (hP1 : P0 - 1 = P) (hnb : nbits (NN) = nb) (hnl : nb ≤ 4000) (hP : -5000 ≤ P) (hP2 : P ≤ 5000) (hA : ¬ P + nb - 24 < -149) (hK : P + nb - 24 = K) (hKP : K ≤ P) (hX : P - K = X) (hM : NN * 2 ^ X = M) (hMl : M < 18446744073709551616) :
    Calls Try.prog 39 #[.agg #[.int .i64 24, .int .i64 (-149), .int .i64 104], .bool m, v0, .int .i64 P0, .bool true] w fun e w' => e = .returned (hdV m M K) ∧ Below w.heap.size w w' := by
  have HM : Hid (NN * 2 ^ X = M) := hM
  have hX5 : X ≤ 10000 := by omega
  have hA' : (-149 : Int) ≤ K := by omega
  have HXw : Hid (IntKind.i64.wrap (P - K) = X) := by rw [Hid, IntKind.wrap_i64]; omega
  have HXw' : Hid (IntKind.i64.wrap (X : Int) = X) := by rw [Hid, IntKind.wrap_i64]; omega
  have HD : Hid (hdV m M K = .agg #[.int .u8 (vS K), .bool m, .int .u64 (vM M K), .int .i64 (vP K)]) := hdV_agg m M K
  clear hM
  have HB : Below ((w.alloc ob).alloc oz).heap.size ((w.alloc ob).alloc oz) ((w.alloc ob).alloc oz) := Below.refl _ _
  have HV0 : Hid (NatV ((w.alloc ob).alloc oz) v0 x0) := hv0.on (bel (bel (Below.refl _ _)))
  have HX0 : Hid (x0 < 2 ^ (32 * 6)) := hx0
  have HX1 : Hid (x0 * 2 < 2 ^ (32 * (6 + 1))) := dbl_lt (k := 6) hx0
  have HNN : Hid (x0 * 2 + 1 = NN) := hNN
  have HNZ : Hid (NN ≠ 0) := by rw [Hid]; omega
  have HNL : Hid (NN < 2 ^ (32 * (6 + 1))) := nn_lt (k := 6) hNN hx0
  clear hx0 hv0 hNN
  go_enter Try.func39, Try.ntmps39
  go_wp2_with (first
    | (go_at_call 37; with_reducible refine (up_1 v0 x0 6 _ (HV0.out.on (by (repeat (first | exact Below.refl _ _ | with_reducible refine bel ?_ | with_reducible refine Below.drew ?_ | with_reducible refine bt3 ?_)))) HX0.out (by omega)).mono ?_; rintro e wa ⟨⟨va, rfl, hva⟩, hba⟩; replace HB : Below ((w.alloc ob).alloc oz).heap.size ((w.alloc ob).alloc oz) wa := bt2 hba (by (repeat (first | exact HB | exact Below.refl _ _ | with_reducible refine bel ?_ | with_reducible refine Below.drew ?_ | with_reducible refine bt3 ?_))))
    | (go_at_call 38; with_reducible refine (nat_1 _).mono ?_; rintro e wb ⟨⟨vb, rfl, hvb⟩, hbb⟩; replace HB : Below ((w.alloc ob).alloc oz).heap.size ((w.alloc ob).alloc oz) wb := bt2 hbb (by (repeat (first | exact HB | exact Below.refl _ _ | with_reducible refine bel ?_ | with_reducible refine Below.drew ?_ | with_reducible refine bt3 ?_))); replace hva := hva.step (by (repeat (first | exact Below.refl _ _ | with_reducible refine bel ?_ | with_reducible refine Below.drew ?_ | with_reducible refine bt3 ?_))) hbb)
    | (go_at_call 40; with_reducible refine (plus_nv va vb _ _ (6 + 1) _ (hva.on (by (repeat (first | exact Below.refl _ _ | with_reducible refine bel ?_ | with_reducible refine Below.drew ?_ | with_reducible refine bt3 ?_)))) (hvb.on (by (repeat (first | exact Below.refl _ _ | with_reducible refine bel ?_ | with_reducible refine Below.drew ?_ | with_reducible refine bt3 ?_)))) HX1.out (one_lt (6 + 1) (by decide)) (by omega)).mono ?_; rintro e wn ⟨⟨vn, rfl, hvn⟩, hbn⟩; replace HB : Below ((w.alloc ob).alloc oz).heap.size ((w.alloc ob).alloc oz) wn := bt2 hbn (by (repeat (first | exact HB | exact Below.refl _ _ | with_reducible refine bel ?_ | with_reducible refine Below.drew ?_ | with_reducible refine bt3 ?_))); obtain ⟨ao, cap, zs, rfl, hc0, hn0, hval0, hN, hW, hr2⟩ := hvn.dest; rw [HNN.out] at hval0; subst hval0; have hz' := lenz hN HNZ.out; obtain ⟨f0, f1, f2⟩ := kF HB; clear hva hvb hvn hba hbb hbn))
  have hl : zs.length ≤ 100 := by have := len_pow hN rfl (6 + 1) HNL.out; omega
  have sz := fun W hrW => size_any ao cap zs W (by omega) hrW hW hN
  rw [hnb] at sz
  have HN : Below wn.heap.size wn wn := Below.refl _ _
  go_quiet (((go_at_call 52); exact Calls.quiet_of_same (sz _ hr2)))
  go_wp2
  go_region_held3 (fun w' => w'.cell? ⟨w.heap.size, 0, none⟩ = some (.int .i64 24) ∧ w'.cell? ⟨w.heap.size, 1, none⟩ = some (.int .i64 (-149)) ∧ w'.cell? ⟨w.heap.size, 2, none⟩ = some (.int .i64 104)) ((first | ((try dsimp only); with_reducible refine kS ?_; (repeat (first | exact HB | exact Below.refl _ _ | with_reducible refine bel ?_ | with_reducible refine Below.drew ?_ | with_reducible refine bt3 ?_ | with_reducible refine bt2 hb1 ?_ | with_reducible refine bt2 hb2 ?_)); done) | (refine kF ?_; (repeat (first | exact HB | exact Below.refl _ _ | with_reducible refine bel ?_ | with_reducible refine Below.drew ?_ | with_reducible refine bt3 ?_ | with_reducible refine bt2 hb1 ?_ | with_reducible refine bt2 hb2 ?_)); done))) (first
    | (go_at_call 37; (first | rw [HXw.out] | rw [HXw'.out]); with_reducible refine (up_any ao cap zs X _ (by omega) (by omega) (RU hr2 (by (repeat (first | exact HB | exact Below.refl _ _ | with_reducible refine bel ?_ | with_reducible refine Below.drew ?_ | with_reducible refine bt3 ?_ | with_reducible refine bt2 hb1 ?_ | with_reducible refine bt2 hb2 ?_)))) hW).mono ?_; rintro e w1 ⟨⟨v1, rfl, hv1⟩, hb1⟩; obtain ⟨ao1, cap1, zs1, rfl, hc1, hn1, hval1, hN1, hW1, hr1⟩ := hv1.dest)
    | (go_at_call 54; with_reducible refine (low_any ao1 cap1 zs1 _ (by have := small_len hN1 (hval1.trans HM.out) hMl; omega) (RU hr1 (by (repeat (first | exact HB | exact Below.refl _ _ | with_reducible refine bel ?_ | with_reducible refine Below.drew ?_ | with_reducible refine bt3 ?_ | with_reducible refine bt2 hb1 ?_ | with_reducible refine bt2 hb2 ?_)))) hW1).mono ?_; rintro e wq ⟨rfl, hq⟩; rw [hval1, HM.out, Nat.mod_eq_of_lt hMl]; subst wq)
    | (go_at_call 53; with_reducible refine (held_any m M K _).mono ?_; rintro e w2 ⟨rfl, hb2⟩; rw [HD.out]; obtain ⟨r0, r1, r2, r3, q0, q1, q2, q3⟩ := kA (w := w) (W := w2) (by (repeat (first | exact HB | exact Below.refl _ _ | with_reducible refine bel ?_ | with_reducible refine Below.drew ?_ | with_reducible refine bt3 ?_ | with_reducible refine bt2 hb1 ?_ | with_reducible refine bt2 hb2 ?_)))))
  go_wp2
  refine bodyPost_ret (v := .agg #[.int .u8 (vS K), .bool m, .int .u64 (vM M K), .int .i64 (vP K)]) (by simp [results, Try.f39, go_sem, r0, r1, r2, r3]) rfl ?_
  exact ⟨by rw [HD.out], kB (by (repeat (first | exact HB | exact Below.refl _ _ | with_reducible refine bel ?_ | with_reducible refine Below.drew ?_ | with_reducible refine bt3 ?_ | with_reducible refine bt2 hb1 ?_ | with_reducible refine bt2 hb2 ?_)))⟩
set_option maxRecDepth 100000 in
set_option maxHeartbeats 4000000 in
theorem rM2 (m : Bool) (v0 : Value) (x0 NN : Nat) (P0 P : Int) (nb : Nat) (w : World) (hv0 : NatV w v0 x0) (hx0 : x0 < 2 ^ (32 * 6)) (hNN : x0 * 2 + 1 = NN) (hP1 : P0 - 1 = P) (hnb : nbits (NN) = nb) (hnl : nb ≤ 4000) (hP : -5000 ≤ P) (hP2 : P ≤ 5000) (hA : P + nb - 24 < -149) (hkP : P < -149) (hD : (nb : Int) + 1 < -149 - P) :
    Calls Try.prog 39 #[.agg #[.int .i64 24, .int .i64 (-149), .int .i64 104], .bool m, v0, .int .i64 P0, .bool true] w fun e w' => e = .returned (hdV m 0 (-149)) ∧ Below w.heap.size w w' := by
  have HD : Hid (hdV m 0 (-149) = .agg #[.int .u8 3, .bool m, .int .u64 0, .int .i64 (-149)]) := by rw [Hid, hdV, if_neg (by omega)]; rfl
  have HB : Below ((w.alloc ob).alloc oz).heap.size ((w.alloc ob).alloc oz) ((w.alloc ob).alloc oz) := Below.refl _ _
  have HV0 : Hid (NatV ((w.alloc ob).alloc oz) v0 x0) := hv0.on (bel (bel (Below.refl _ _)))
  have HX0 : Hid (x0 < 2 ^ (32 * 6)) := hx0
  have HX1 : Hid (x0 * 2 < 2 ^ (32 * (6 + 1))) := dbl_lt (k := 6) hx0
  have HNN : Hid (x0 * 2 + 1 = NN) := hNN
  have HNZ : Hid (NN ≠ 0) := by rw [Hid]; omega
  have HNL : Hid (NN < 2 ^ (32 * (6 + 1))) := nn_lt (k := 6) hNN hx0
  clear hx0 hv0 hNN
  go_enter Try.func39, Try.ntmps39
  go_wp2_with (first
    | (go_at_call 37; with_reducible refine (up_1 v0 x0 6 _ (HV0.out.on (by (repeat (first | exact Below.refl _ _ | with_reducible refine bel ?_ | with_reducible refine Below.drew ?_ | with_reducible refine bt3 ?_)))) HX0.out (by omega)).mono ?_; rintro e wa ⟨⟨va, rfl, hva⟩, hba⟩; replace HB : Below ((w.alloc ob).alloc oz).heap.size ((w.alloc ob).alloc oz) wa := bt2 hba (by (repeat (first | exact HB | exact Below.refl _ _ | with_reducible refine bel ?_ | with_reducible refine Below.drew ?_ | with_reducible refine bt3 ?_))))
    | (go_at_call 38; with_reducible refine (nat_1 _).mono ?_; rintro e wb ⟨⟨vb, rfl, hvb⟩, hbb⟩; replace HB : Below ((w.alloc ob).alloc oz).heap.size ((w.alloc ob).alloc oz) wb := bt2 hbb (by (repeat (first | exact HB | exact Below.refl _ _ | with_reducible refine bel ?_ | with_reducible refine Below.drew ?_ | with_reducible refine bt3 ?_))); replace hva := hva.step (by (repeat (first | exact Below.refl _ _ | with_reducible refine bel ?_ | with_reducible refine Below.drew ?_ | with_reducible refine bt3 ?_))) hbb)
    | (go_at_call 40; with_reducible refine (plus_nv va vb _ _ (6 + 1) _ (hva.on (by (repeat (first | exact Below.refl _ _ | with_reducible refine bel ?_ | with_reducible refine Below.drew ?_ | with_reducible refine bt3 ?_)))) (hvb.on (by (repeat (first | exact Below.refl _ _ | with_reducible refine bel ?_ | with_reducible refine Below.drew ?_ | with_reducible refine bt3 ?_)))) HX1.out (one_lt (6 + 1) (by decide)) (by omega)).mono ?_; rintro e wn ⟨⟨vn, rfl, hvn⟩, hbn⟩; replace HB : Below ((w.alloc ob).alloc oz).heap.size ((w.alloc ob).alloc oz) wn := bt2 hbn (by (repeat (first | exact HB | exact Below.refl _ _ | with_reducible refine bel ?_ | with_reducible refine Below.drew ?_ | with_reducible refine bt3 ?_))); obtain ⟨ao, cap, zs, rfl, hc0, hn0, hval0, hN, hW, hr2⟩ := hvn.dest; rw [HNN.out] at hval0; subst hval0; have hz' := lenz hN HNZ.out; obtain ⟨f0, f1, f2⟩ := kF HB; clear hva hvb hvn hba hbb hbn))
  have hl : zs.length ≤ 100 := by have := len_pow hN rfl (6 + 1) HNL.out; omega
  have sz := fun W hrW => size_any ao cap zs W (by omega) hrW hW hN
  rw [hnb] at sz
  have HN : Below wn.heap.size wn wn := Below.refl _ _
  go_quiet (((go_at_call 52); exact Calls.quiet_of_same (sz _ hr2)))
  go_wp2_with (first
    | (go_at_call 52; with_reducible refine (sz _ (RU hr2 (by (repeat (first | exact Below.refl _ _ | with_reducible refine bel ?_ | with_reducible refine Below.drew ?_ | with_reducible refine bt3 ?_))))).mono ?_; rintro e wq ⟨rfl, hq⟩; subst wq)
    | (go_at_call 42; with_reducible refine (nought_any m _).mono ?_; rintro e w2 ⟨rfl, hb2⟩; replace HB : Below ((w.alloc ob).alloc oz).heap.size ((w.alloc ob).alloc oz) w2 := bt2 hb2 (by (repeat (first | exact HB | exact Below.refl _ _ | with_reducible refine bel ?_ | with_reducible refine Below.drew ?_ | with_reducible refine bt3 ?_))); obtain ⟨r0, r1, r2, r3, q0, q1, q2, q3⟩ := kA HB))
  refine bodyPost_ret (v := .agg #[.int .u8 3, .bool m, .int .u64 0, .int .i64 (-149)]) (by simp [results, Try.f39, go_sem, r0, r1, r2, r3]) rfl ?_
  exact ⟨by rw [HD.out], kB HB⟩
end Go.Proofs.Ythaipahaaajgoaa
