import Derived.Test.YtjggbdlmghembaaGreatCSNat
namespace Go.Proofs.YtjggbdlmghembaaGreat
open Go.RowKit
set_option maxRecDepth 100000

/-- how many bits -/
def nbits (x : Nat) : Nat := if x = 0 then 0 else x.log2 + 1
theorem nbits_spec (x : Nat) (k : Nat) : nbits x = k ↔ (k = 0 ∧ x = 0) ∨ (∃ j, k = j + 1 ∧ 2 ^ j ≤ x ∧ x < 2 ^ (j + 1)) := by
  unfold nbits
  by_cases h : x = 0
  · subst h
    rw [if_pos rfl]
    constructor
    · intro e; exact Or.inl ⟨e.symm, rfl⟩
    · rintro (⟨e, -⟩ | ⟨j, -, h1, -⟩)
      · exact e.symm
      · have := Nat.two_pow_pos j; omega
  · rw [if_neg h]
    have h1 : 2 ^ x.log2 ≤ x := Nat.log2_self_le h
    have h2 : x < 2 ^ (x.log2 + 1) := Nat.lt_log2_self
    constructor
    · intro e; exact Or.inr ⟨x.log2, e.symm, h1, h2⟩
    · rintro (⟨-, e⟩ | ⟨j, rfl, h3, h4⟩)
      · exact absurd e h
      · have a1 := (Nat.pow_lt_pow_iff_right (a := 2) (by decide)).1 (Nat.lt_of_le_of_lt h1 h4)
        have a2 := (Nat.pow_lt_pow_iff_right (a := 2) (by decide)).1 (Nat.lt_of_le_of_lt h3 h2)
        omega
theorem nbits_high (r t : Nat) (m : Nat) (hr : r < 4294967296 ^ m) (ht : 0 < t) : nbits (r + 4294967296 ^ m * t) = 32 * m + nbits t := by
  have e32 : 4294967296 ^ m = 2 ^ (32 * m) := by rw [Nat.pow_mul]
  rw [e32] at hr ⊢
  obtain ⟨j, hj⟩ : ∃ j, nbits t = j + 1 := by
    unfold nbits; rw [if_neg (by omega)]; exact ⟨_, rfl⟩
  obtain ⟨h1, h2⟩ : 2 ^ j ≤ t ∧ t < 2 ^ (j + 1) := by
    rcases (nbits_spec t (j + 1)).1 hj with ⟨h, -⟩ | ⟨i, h, h1, h2⟩
    · omega
    · obtain rfl : i = j := by omega
      exact ⟨h1, h2⟩
  rw [hj]
  refine (nbits_spec _ _).2 (Or.inr ⟨32 * m + j, by omega, ?_, ?_⟩)
  · rw [Nat.pow_add]
    have := Nat.mul_le_mul_left (2 ^ (32 * m)) h1
    omega
  · rw [show 32 * m + j + 1 = 32 * m + (j + 1) by omega, Nat.pow_add]
    have : 2 ^ (32 * m) * (t + 1) ≤ 2 ^ (32 * m) * 2 ^ (j + 1) := Nat.mul_le_mul_left _ h2
    rw [Nat.mul_add, Nat.mul_one] at this
    omega
theorem nbits_half (c : Nat) (h : 0 < c) : nbits c = nbits (c / 2) + 1 := by
  obtain ⟨j, hj⟩ : ∃ j, nbits c = j + 1 := by
    unfold nbits; rw [if_neg (by omega)]; exact ⟨_, rfl⟩
  obtain ⟨h1, h2⟩ : 2 ^ j ≤ c ∧ c < 2 ^ (j + 1) := by
    rcases (nbits_spec c (j + 1)).1 hj with ⟨h, -⟩ | ⟨i, h, h1, h2⟩
    · omega
    · obtain rfl : i = j := by omega
      exact ⟨h1, h2⟩
  rw [hj]
  congr 1
  symm
  refine (nbits_spec _ _).2 ?_
  cases j with
  | zero => exact Or.inl ⟨rfl, by omega⟩
  | succ i =>
    refine Or.inr ⟨i, rfl, ?_, ?_⟩
    · rw [Nat.pow_succ] at h1; omega
    · rw [Nat.pow_succ] at h2; omega
set_option maxRecDepth 100000 in
set_option maxHeartbeats 1000000 in
theorem size_any (ao : Option Addr) (cap : Nat) (zs : List Nat) (w : World) (hl : zs.length ≤ 1000000) (hr : ReadsU w ao zs w.heap.size) (hW : Words zs) (hN : Norm zs) :
    Calls Tryz.prog 87 #[.slice ao zs.length cap] w fun e w' => e = .returned (.int .i64 (nbits (nv zs))) ∧ w' = w := by
  by_cases h0 : zs.length = 0
  · have hz : zs = [] := List.length_eq_zero_iff.1 h0
    subst hz
    have hb : nbits (nv []) = 0 := by simp [nv, nbits]
    rw [hb]
    go_enter Tryz.func87, Tryz.ntmps87
    go_wp2
    go_ret
    exact ⟨rfl, rfl⟩
  · obtain ⟨m, hm⟩ : ∃ m, zs.length = m + 1 := ⟨zs.length - 1, by omega⟩
    obtain ⟨b, off, rfl, hbl, hc⟩ := hr (by omega)
    have hcm := hc m (by omega)
    have ht0 : zs.getD m 0 ≠ 0 := by
      rcases hN with h | h
      · omega
      · rwa [hm, Nat.add_sub_cancel] at h
    have htw := words_get hW m
    have hnb : nbits (nv zs) = 32 * m + nbits (zs.getD m 0) := by
      have hsp := nv_split zs m (by omega)
      rw [List.drop_eq_nil_of_le (by omega)] at hsp
      simp only [nv, Nat.mul_zero, Nat.add_zero] at hsp
      rw [hsp]
      have h1 := nv_lt (words_take hW m)
      rw [show (zs.take m).length = m by simp; omega] at h1
      exact nbits_high _ _ m h1 (by omega)
    rw [hnb]
    generalize zs.getD m 0 = t at *
    have g0 : ((zs.length : Int) == 0) = false := by simp; intro h; subst h; simp at hm
    have hlI : (zs.length : Int) = (m : Int) + 1 := by omega
    have hm2 : m ≤ 1000000 := by omega
    clear hc hnb hN hW hl h0
    go_enter Tryz.func87, Tryz.ntmps87
    go_wp2
    have HT : Hid (nbits t ≤ 32) := by
      show nbits t ≤ 32
      apply Nat.le_of_not_lt
      intro hlt
      rcases (nbits_spec t (nbits t)).1 rfl with ⟨h, -⟩ | ⟨i, h, h1, -⟩
      · omega
      · have : 2 ^ 32 ≤ 2 ^ i := Nat.pow_le_pow_right (by decide) (by omega)
        omega
    go_loop [3, 4] (fun n top => ∃ j c : Nat, n = .int .i64 (32 * (m : Int) + (j : Int)) ∧ top = .int .u32 (c : Int) ∧ nbits t = j + nbits c ∧ c < 4294967296) (fun _ top => (intOf top).toNat)
    case atStart => exact ⟨0, t, by first | rfl | (simp; done) | (go_num), rfl, by omega, by omega⟩
    case round =>
      obtain ⟨j, c, rfl, rfl, hj, hc4⟩ := hrel
      have hj32 := HT.out
      by_cases hc0 : c = 0
      · subst hc0
        have HJ : Hid (nbits t = j) := by
          show nbits t = j
          rw [hj]; simp [nbits]
        clear hj hj32
        go_wp2
        go_ret
        exact ⟨by rw [HJ.out]; first | rfl | (simp; done), rfl⟩
      · have hh := nbits_half c (by omega)
        have HJ : Hid (nbits t = j + 1 + nbits (c / 2)) := by
          show nbits t = j + 1 + nbits (c / 2)
          omega
        have hjb : j ≤ 32 := by omega
        have g1 : decide ((0 : Int) < (c : Int)) = true := decide_eq_true (by omega)
        have hcI : (0 : Int) < (c : Int) := by omega
        clear hj hj32 hh
        go_wp2
        go_round
        case rel => exact ⟨j + 1, c / 2, by first | go_num | (simp; omega), by first | go_num | (simp; done), HJ.out, by omega⟩
        case measure => simp [intOf]; omega
end Go.Proofs.YtjggbdlmghembaaGreat
namespace Go.Proofs.YtjggbdlmghembaaGreat
open Go.RowKit
set_option maxRecDepth 100000

theorem or64_hi (x y : Nat) (hx : x < 4294967296) (hy : y < 4294967296) : bits .or .u64 (x : Int) ((y : Int) * 4294967296) = ((x + y * 4294967296 : Nat) : Int) := by
  have := u64_or_nat x (y * 4294967296) (by omega) (by omega)
  rw [Nat.or_comm, nat_join 32 (y * 4294967296) x (by omega) (by omega), Nat.add_comm, Int.natCast_mul] at this
  exact this
set_option maxRecDepth 100000 in
set_option maxHeartbeats 1000000 in
theorem low_any (ao : Option Addr) (cap : Nat) (zs : List Nat) (w : World) (hl : zs.length ≤ 1000000) (hr : ReadsU w ao zs w.heap.size) (hW : Words zs) :
    Calls Tryz.prog 71 #[.slice ao zs.length cap] w fun e w' => e = .returned (.int .u64 (nv zs % 18446744073709551616 : Nat)) ∧ w' = w := by
  match zs, hl, hr, hW with
  | [], _, _, _ =>
    have hb : nv [] % 18446744073709551616 = 0 := rfl
    rw [hb]
    go_enter Tryz.func71, Tryz.ntmps71
    go_wp2
    go_ret
    exact ⟨rfl, rfl⟩
  | [z], _, hr, hW =>
    obtain ⟨b, off, rfl, hbl, hc⟩ := hr (by simp)
    have hc0 := hc 0 (by simp)
    have hz := hW z (by simp)
    have hb : nv [z] % 18446744073709551616 = z := by simp only [nv]; omega
    rw [hb]
    simp only [List.getD, List.getElem?_cons_zero, Option.getD_some, Nat.add_zero] at hc0
    clear hc hr hW hb
    go_enter Tryz.func71, Tryz.ntmps71
    go_wp2
    go_ret
    exact ⟨rfl, rfl⟩
  | z :: y :: zs, hl, hr, hW =>
    obtain ⟨b, off, rfl, hbl, hc⟩ := hr (by simp)
    have hc0 := hc 0 (by simp)
    have hc1 := hc 1 (by simp)
    have hz := hW z (by simp)
    have hy := hW y (by simp)
    have hb : nv (z :: y :: zs) % 18446744073709551616 = z + y * 4294967296 := by simp only [nv]; omega
    rw [hb]
    simp only [List.getD, List.getElem?_cons_zero, List.getElem?_cons_succ, Option.getD_some, Nat.add_zero] at hc0 hc1
    have ho := or64_hi z y hz hy
    obtain ⟨n, hn⟩ : ∃ n, (z :: y :: zs).length = n + 2 := ⟨zs.length, rfl⟩
    rw [hn] at hl ⊢
    have g1 : decide ((0 : Int) < (n : Int) + 2) = true := decide_eq_true (by omega)
    have g2 : decide ((1 : Int) < (n : Int) + 2) = true := decide_eq_true (by omega)
    have g3 : (0 : Int) < (n : Int) + 2 := by omega
    have g4 : (1 : Int) < (n : Int) + 2 := by omega
    generalize z + y * 4294967296 = R at *
    clear hc hr hW hb hn
    go_enter Tryz.func71, Tryz.ntmps71
    go_wp2
    go_ret
    exact ⟨rfl, rfl⟩
end Go.Proofs.YtjggbdlmghembaaGreat
namespace Go.Proofs.YtjggbdlmghembaaGreat
open Go.RowKit
set_option maxRecDepth 100000

theorem take_step (zs : List Nat) (k : Nat) : nv (zs.take (k + 1)) = nv (zs.take k) + 4294967296 ^ k * zs.getD k 0 := by
  by_cases hlt : k < zs.length
  · have e1 : zs.take (k + 1) = zs.take k ++ [zs.getD k 0] := by
      rw [List.take_succ_eq_append_getElem hlt]
      simp [List.getD, List.getElem?_eq_getElem hlt]
    rw [e1, nv_append, show (zs.take k).length = k by simp; omega]
    simp [nv]
  · rw [List.take_of_length_le (by omega), List.take_of_length_le (by omega)]
    simp [List.getD, List.getElem?_eq_none (Nat.le_of_not_lt hlt)]
theorem getD_off {zs : List Nat} {k : Nat} (h : ¬ k < zs.length) : zs.getD k 0 = 0 := by
  simp [List.getD, List.getElem?_eq_none (Nat.le_of_not_lt h)]
/-- from an own row to a number that is cut -/
theorem cut_own {w w1 : World} {v' : Value} {ZZ : List Nat} {n x : Nat} (R1 : w1.ownsRow w.heap.size 23 1 v' n (uk ZZ)) (hn : ZZ.length = n) (hlen : n ≤ 1000000) (hx : nv ZZ = x) (hW : Words ZZ) :
    ∃ ao cap, v' = .slice ao n cap ∧ Calls Tryz.prog 91 #[.slice ao n cap] w1 fun e w' => (∃ v, e = .returned v ∧ NatV w1 v x) ∧ w' = w1 := by
  subst hn
  obtain ⟨ao', cap', rfl, hrd⟩ := own_readsU R1
  have hcap := own_cap R1
  refine ⟨ao', cap', rfl, (cut_any ao' cap' ZZ w1 hcap.1 hlen hrd hcap.2).mono ?_⟩
  rintro e wq ⟨⟨nn, hnn, rfl, ht, hN⟩, hq⟩
  have hl3 : (ZZ.take nn).length = nn := by simp; omega
  exact ⟨⟨_, rfl, ao', cap', ZZ.take nn, by rw [hl3], by rw [hl3]; omega, hcap.2, by rw [ht]; exact hx, hN, words_take hW nn, hrd.take nn hnn⟩, hq⟩
set_option maxRecDepth 100000 in
set_option maxHeartbeats 4000000 in
theorem plus_any (ao bo : Option Addr) (ca cb : Nat) (zs ys : List Nat) (w : World) (hl : zs.length ≤ 1000) (hl2 : ys.length ≤ 1000) (hr : ReadsU w ao zs w.heap.size) (hr2 : ReadsU w bo ys w.heap.size) (hW : Words zs) (hW2 : Words ys) :
    Calls Tryz.prog 84 #[.slice ao zs.length ca, .slice bo ys.length cb] w fun e w' => (∃ v, e = .returned v ∧ NatV w' v (nv zs + nv ys)) ∧ Below w.heap.size w w' := by
  obtain ⟨i0, hi, hz0, hz1, hz2⟩ := info_parts Tryz.infoU
  go_enter Tryz.func84, Tryz.ntmps84
  go_wp2
  go_loopw [5, 6, 7] (fun v c i wr => ∃ k cr : Nat, ∃ L : List Nat, (k ≤ zs.length ∨ k ≤ ys.length) ∧ i = .int .i64 k ∧ c = .int .u64 (cr : Int) ∧ cr ≤ 1 ∧ L.length = k ∧ Words L ∧ nv L + 4294967296 ^ k * cr = nv (zs.take k) + nv (ys.take k) ∧ wr.ownsRow w.heap.size 23 1 v k (uk L) ∧ Below w.heap.size w wr)
    (fun _ _ i _ => zs.length + ys.length - (intOf i).toNat)
  case atStart => exact ⟨0, 0, [], Or.inl (Nat.zero_le _), rfl, rfl, by decide, rfl, (fun z hz => by simp at hz), by simp [nv], World.ownsRow_nil _ _ _ _, Below.refl _ _⟩
  case round =>
    obtain ⟨k, cr, L, hk, rfl, rfl, hcr, hLl, hLW, hval, hown, hb⟩ := hrel
    have hB := hb.size
    have st1 := take_step zs k
    have st2 := take_step ys k
    have zw := words_get hW k
    have yw := words_get hW2 k
    have key : ∀ z y X lo hh : Nat, zs.getD k 0 = z → ys.getD k 0 = y → X = cr + z + y → lo = X % 4294967296 → hh = X / 4294967296 → hh ≤ 1 ∧ lo < 4294967296 ∧ Words (L ++ [lo]) ∧ (L ++ [lo]).length = k + 1 ∧ nv (L ++ [lo]) + 4294967296 ^ (k + 1) * hh = nv (zs.take (k + 1)) + nv (ys.take (k + 1)) := by
      intro z y X lo hh e1 e2 e3 e4 e5
      rw [e1] at st1 zw
      rw [e2] at st2 yw
      refine ⟨by omega, by omega, ?_, by simp [hLl], ?_⟩
      · intro u hu
        rcases List.mem_append.1 hu with h | h
        · exact hLW u h
        · simp at h; omega
      · rw [st1, st2, nv_append, hLl, Nat.pow_succ, Nat.mul_assoc, show nv [lo] = lo by simp [nv]]
        have h6 : lo + 4294967296 * hh = cr + z + y := by omega
        have h7 : 4294967296 ^ k * (lo + 4294967296 * hh) = 4294967296 ^ k * cr + 4294967296 ^ k * z + 4294967296 ^ k * y := by rw [h6, Nat.mul_add, Nat.mul_add]
        rw [Nat.mul_add] at h7
        omega
    by_cases h1 : k < zs.length
    · by_cases h2 : k < ys.length
      · obtain ⟨z, hz⟩ : ∃ z, zs.getD k 0 = z := ⟨_, rfl⟩
        obtain ⟨y, hy⟩ : ∃ y, ys.getD k 0 = y := ⟨_, rfl⟩
        rw [hz] at zw
        rw [hy] at yw
        obtain ⟨X, hX⟩ : ∃ X, X = cr + z + y := ⟨_, rfl⟩
        obtain ⟨lo, hlo⟩ : ∃ lo, lo = X % 4294967296 := ⟨_, rfl⟩
        obtain ⟨hh, hhh⟩ : ∃ hh, hh = X / 4294967296 := ⟨_, rfl⟩
        have HK : Hid _ := key z y X lo hh hz hy hX hlo hhh
        obtain ⟨b1, off1, rfl, hbl1, hc1⟩ := (hr.below hb) (by omega)
        have hck1 := hc1 k h1
        rw [hz] at hck1
        have hi1 : (k : Int) < (zs.length : Int) := by omega
        clear hc1
        obtain ⟨b2, off2, rfl, hbl2, hc2⟩ := (hr2.below hb) (by omega)
        have hck2 := hc2 k h2
        rw [hy] at hck2
        have hi2 : (k : Int) < (ys.length : Int) := by omega
        clear hc2
        have e1 : (cr : Int) + (z : Int) + (y : Int) = (X : Int) := by omega
        have e2 : (X : Int) % 4294967296 = (lo : Int) := by omega
        have e2' : IntKind.u32.wrap (X : Int) = (lo : Int) := by rw [IntKind.wrap_u32']; omega
        have e3 : (X : Int) / 4294967296 = (hh : Int) := by omega
        have hkb : k ≤ 1000 := by omega
        have hXb : X < 18446744073709551616 := by omega
        clear key st1 st2 hval hLW hLl hX hlo hhh hz hy
        go_wp2_with (at_builtin; refine wpList_append_own _ rfl _ _ 59 rfl w.heap.size 23 i0 (.int .u32 0) 1 4 Tryz.underlying59 hi hz0 hz1 hz2 rfl (by decide) _ _ _ rfl (hown.alloc _) ⟨_, 0, none⟩ 1 1 [.int .u32 (lo : Int)] rfl rfl ?c1 ?c2 ?c3 ?c4 ?c5 ?_)
        case c1 =>
          intro j u hj
          match j, hj with
          | 0, hj => simp at hj; subst hj; simp [Addr.add]
        case c2 => first | rfl | (intro u hu; simp at hu; subst hu; rfl)
        case c3 => unfold maxLen; omega
        case c4 => omega
        case c5 => first | omega | (simp; omega)
        intro v' w1 hown' hgrow _
        obtain ⟨k1, k2, k3, k4, k5⟩ := HK.out
        have HKK : Hid (hh ≤ 1 ∧ Words (L ++ [lo]) ∧ (L ++ [lo]).length = k + 1 ∧ nv (L ++ [lo]) + 4294967296 ^ (k + 1) * hh = nv (zs.take (k + 1)) + nv (ys.take (k + 1))) := ⟨k1, k3, k4, k5⟩
        have R1 : w1.ownsRow w.heap.size 23 1 v' (k + 1) (uk (L ++ [lo])) := own_snocU hown'
        have R2 := grown_belowU hb hB hown hgrow
        clear hown' hgrow hown k1 k2 k3 k4 k5 HK
        go_wp2
        go_roundw
        case rel => exact ⟨k + 1, hh, L ++ [lo], by omega, by go_num, rfl, HKK.out.1, HKK.out.2.2.1, HKK.out.2.1, HKK.out.2.2.2, R1, R2⟩
        case measure => simp [intOf]; omega
      · obtain ⟨z, hz⟩ : ∃ z, zs.getD k 0 = z := ⟨_, rfl⟩
        obtain ⟨y, hy⟩ : ∃ y, ys.getD k 0 = y := ⟨_, rfl⟩
        rw [hz] at zw
        rw [hy] at yw
        have y0 : y = 0 := by rw [← hy]; exact getD_off h2
        obtain ⟨X, hX⟩ : ∃ X, X = cr + z + y := ⟨_, rfl⟩
        obtain ⟨lo, hlo⟩ : ∃ lo, lo = X % 4294967296 := ⟨_, rfl⟩
        obtain ⟨hh, hhh⟩ : ∃ hh, hh = X / 4294967296 := ⟨_, rfl⟩
        have HK : Hid _ := key z y X lo hh hz hy hX hlo hhh
        obtain ⟨b1, off1, rfl, hbl1, hc1⟩ := (hr.below hb) (by omega)
        have hck1 := hc1 k h1
        rw [hz] at hck1
        have hi1 : (k : Int) < (zs.length : Int) := by omega
        clear hc1
        have hi2 : ¬ (k : Int) < (ys.length : Int) := by omega
        have hi2b : decide ((k : Int) < (ys.length : Int)) = false := decide_eq_false hi2
        have e1 : (cr : Int) + (z : Int) = (X : Int) := by omega
        have e2 : (X : Int) % 4294967296 = (lo : Int) := by omega
        have e2' : IntKind.u32.wrap (X : Int) = (lo : Int) := by rw [IntKind.wrap_u32']; omega
        have e3 : (X : Int) / 4294967296 = (hh : Int) := by omega
        have hkb : k ≤ 1000 := by omega
        have hXb : X < 18446744073709551616 := by omega
        clear key st1 st2 hval hLW hLl hX hlo hhh hz hy
        go_wp2_with (at_builtin; refine wpList_append_own _ rfl _ _ 59 rfl w.heap.size 23 i0 (.int .u32 0) 1 4 Tryz.underlying59 hi hz0 hz1 hz2 rfl (by decide) _ _ _ rfl (hown.alloc _) ⟨_, 0, none⟩ 1 1 [.int .u32 (lo : Int)] rfl rfl ?p1 ?p2 ?p3 ?p4 ?p5 ?_)
        case p2 => first | rfl | (intro u hu; simp at hu; subst hu; rfl)
        case p3 => unfold maxLen; omega
        case p4 => omega
        case p5 => first | omega | (simp; omega)
        intro v' w1 hown' hgrow _
        obtain ⟨k1, k2, k3, k4, k5⟩ := HK.out
        have HKK : Hid (hh ≤ 1 ∧ Words (L ++ [lo]) ∧ (L ++ [lo]).length = k + 1 ∧ nv (L ++ [lo]) + 4294967296 ^ (k + 1) * hh = nv (zs.take (k + 1)) + nv (ys.take (k + 1))) := ⟨k1, k3, k4, k5⟩
        have R1 : w1.ownsRow w.heap.size 23 1 v' (k + 1) (uk (L ++ [lo])) := own_snocU hown'
        have R2 := grown_belowU hb hB hown hgrow
        clear hown' hgrow hown k1 k2 k3 k4 k5 HK
        go_wp2
        go_roundw
        case rel => exact ⟨k + 1, hh, L ++ [lo], by omega, by go_num, rfl, HKK.out.1, HKK.out.2.2.1, HKK.out.2.1, HKK.out.2.2.2, R1, R2⟩
        case measure => simp [intOf]; omega
    · by_cases h2 : k < ys.length
      · obtain ⟨z, hz⟩ : ∃ z, zs.getD k 0 = z := ⟨_, rfl⟩
        obtain ⟨y, hy⟩ : ∃ y, ys.getD k 0 = y := ⟨_, rfl⟩
        rw [hz] at zw
        rw [hy] at yw
        have z0 : z = 0 := by rw [← hz]; exact getD_off h1
        obtain ⟨X, hX⟩ : ∃ X, X = cr + z + y := ⟨_, rfl⟩
        obtain ⟨lo, hlo⟩ : ∃ lo, lo = X % 4294967296 := ⟨_, rfl⟩
        obtain ⟨hh, hhh⟩ : ∃ hh, hh = X / 4294967296 := ⟨_, rfl⟩
        have HK : Hid _ := key z y X lo hh hz hy hX hlo hhh
        have hi1 : ¬ (k : Int) < (zs.length : Int) := by omega
        have hi1b : decide ((k : Int) < (zs.length : Int)) = false := decide_eq_false hi1
        obtain ⟨b2, off2, rfl, hbl2, hc2⟩ := (hr2.below hb) (by omega)
        have hck2 := hc2 k h2
        rw [hy] at hck2
        have hi2 : (k : Int) < (ys.length : Int) := by omega
        clear hc2
        have e1 : (cr : Int) + (y : Int) = (X : Int) := by omega
        have e2 : (X : Int) % 4294967296 = (lo : Int) := by omega
        have e2' : IntKind.u32.wrap (X : Int) = (lo : Int) := by rw [IntKind.wrap_u32']; omega
        have e3 : (X : Int) / 4294967296 = (hh : Int) := by omega
        have hkb : k ≤ 1000 := by omega
        have hXb : X < 18446744073709551616 := by omega
        clear key st1 st2 hval hLW hLl hX hlo hhh hz hy
        go_wp2_with (at_builtin; refine wpList_append_own _ rfl _ _ 59 rfl w.heap.size 23 i0 (.int .u32 0) 1 4 Tryz.underlying59 hi hz0 hz1 hz2 rfl (by decide) _ _ _ rfl (hown.alloc _) ⟨_, 0, none⟩ 1 1 [.int .u32 (lo : Int)] rfl rfl ?q1 ?q2 ?q3 ?q4 ?q5 ?_)
        case q2 => first | rfl | (intro u hu; simp at hu; subst hu; rfl)
        case q3 => unfold maxLen; omega
        case q4 => omega
        case q5 => first | omega | (simp; omega)
        intro v' w1 hown' hgrow _
        obtain ⟨k1, k2, k3, k4, k5⟩ := HK.out
        have HKK : Hid (hh ≤ 1 ∧ Words (L ++ [lo]) ∧ (L ++ [lo]).length = k + 1 ∧ nv (L ++ [lo]) + 4294967296 ^ (k + 1) * hh = nv (zs.take (k + 1)) + nv (ys.take (k + 1))) := ⟨k1, k3, k4, k5⟩
        have R1 : w1.ownsRow w.heap.size 23 1 v' (k + 1) (uk (L ++ [lo])) := own_snocU hown'
        have R2 := grown_belowU hb hB hown hgrow
        clear hown' hgrow hown k1 k2 k3 k4 k5 HK
        go_wp2
        go_roundw
        case rel => exact ⟨k + 1, hh, L ++ [lo], by omega, by go_num, rfl, HKK.out.1, HKK.out.2.2.1, HKK.out.2.1, HKK.out.2.2.2, R1, R2⟩
        case measure => simp [intOf]; omega
      · have hi1b : decide ((k : Int) < (zs.length : Int)) = false := decide_eq_false (by omega)
        have hi2b : decide ((k : Int) < (ys.length : Int)) = false := decide_eq_false (by omega)
        rw [List.take_of_length_le (by omega), List.take_of_length_le (by omega)] at hval
        have HV : Hid (nv (L ++ [cr]) = nv zs + nv ys ∧ Words (L ++ [cr]) ∧ (L ++ [cr]).length = k + 1) := by
          refine ⟨?_, ?_, by simp [hLl]⟩
          · rw [nv_append, hLl, show nv [cr] = cr by simp [nv]]; exact hval
          · intro u hu
            rcases List.mem_append.1 hu with h | h
            · exact hLW u h
            · simp at h; omega
        have e2' : IntKind.u32.wrap (cr : Int) = (cr : Int) := by rw [IntKind.wrap_u32']; omega
        have hkb : k ≤ 1000 := by omega
        clear key st1 st2 hval hLW hLl zw yw
        go_wp2_with (at_builtin; refine wpList_append_own _ rfl _ _ 59 rfl w.heap.size 23 i0 (.int .u32 0) 1 4 Tryz.underlying59 hi hz0 hz1 hz2 rfl (by decide) _ _ _ rfl (hown.alloc _) ⟨_, 0, none⟩ 1 1 [.int .u32 (cr : Int)] rfl rfl ?s1 ?s2 ?s3 ?s4 ?s5 ?_)
        case s1 =>
          intro j u hj
          match j, hj with
          | 0, hj => simp at hj; subst hj; simp [Addr.add]
        case s2 => first | rfl | (intro u hu; simp at hu; subst hu; rfl)
        case s3 => unfold maxLen; omega
        case s4 => omega
        case s5 => first | omega | (simp; omega)
        intro v' w1 hown' hgrow _
        have R1 : w1.ownsRow w.heap.size 23 1 v' (k + 1) (uk (L ++ [cr])) := own_snocU hown'
        have R2 := grown_belowU hb hB hown hgrow
        clear hown' hgrow hown
        obtain ⟨ao', cap', rfl, cc⟩ := cut_own R1 HV.out.2.2 (by omega) HV.out.1 HV.out.2.1
        clear R1
        go_wp2_with (go_at_call 91; refine cc.mono ?_; rintro e wq ⟨⟨vv, rfl, hvv⟩, hq⟩; subst wq)
        go_ret
        exact ⟨⟨_, rfl, hvv⟩, R2⟩
end Go.Proofs.YtjggbdlmghembaaGreat
