import Derived.Test.YtipgpigcpbckgaaDoorLSum
import Derived.Test.YtipgpigcpbckgaaDoorMLiv
import Derived.Laws.AppendOwn
import Derived.Test.YtipgpigcpbckgaaDoorLBase
import Derived.ProofKit
import Derived.OpenShut
import Derived.SizedLaws
import Derived.JoinedCond
import Derived.Test.YtipgpigcpbckgaaDoorCards
import Derived.Test.YtipgpigcpbckgaaDoorTie
import Derived.Lay
import Derived.LaidOnce
import Derived.Lib.LaidU8
import Derived.SevenTiedAt
namespace Go.Proofs.YtipgpigcpbckgaaDoor
open Go.RowKit
set_option maxRecDepth 100000

def tot (L : List Int) : Int := L.foldr (fun a s => a + s) 0
def hh : List Int → Int
  | [] => 0
  | a :: L => ((L.length : Int) + 1) * a + hh L
theorem tot_cons (a : Int) (L : List Int) : tot (a :: L) = a + tot L := rfl
theorem modp {X Y : Int} (t : Int) (h : X = Y + 65521 * t) : X % 65521 = Y % 65521 := by subst h; omega

theorem alg1 (p1 p2 a q q2 H n : Int) : p2 + (p1 + a - 65521 * q) - 65521 * q2 + n * (p1 + a - 65521 * q) + H = p2 + (n + 1) * p1 + ((n + 1) * a + H) + 65521 * -(q + q2 + n * q) := by grind
theorem alg2 (hx lx n H q q2 : Int) : hx + (n + H - 65521 * q) + (n - 65521 * q2) * (lx + 65520) = hx + n * lx + H + 65521 * (-q + n - q2 * (lx + 65520)) := by grind

theorem fold_low (L : List Int) : ∀ p : Int × Int, 0 ≤ p.1 ∧ p.1 ≤ 65520 → (L.foldl stp p).1 = (p.1 + tot L) % 65521 := by
  induction L with
  | nil => intro p h; simp only [List.foldl_nil, tot, List.foldr_nil]; omega
  | cons a L ih =>
    intro p h
    rw [List.foldl_cons, ih _ (stp_range p a).1, tot_cons]
    simp only [stp]
    omega
theorem fold_high (L : List Int) : ∀ p : Int × Int, 0 ≤ p.2 ∧ p.2 ≤ 65520 → (L.foldl stp p).2 = (p.2 + (L.length : Int) * p.1 + hh L) % 65521 := by
  induction L with
  | nil => intro p h; simp only [List.foldl_nil, hh, List.length_nil]; omega
  | cons a L ih =>
    intro p h
    rw [List.foldl_cons, ih _ (stp_range p a).2]
    simp only [stp, hh, List.length_cons]
    obtain ⟨q, hq⟩ : ∃ q, (p.1 + a) % 65521 = p.1 + a - 65521 * q := ⟨(p.1 + a) / 65521, by omega⟩
    obtain ⟨q2, hq2⟩ : ∃ q2, (p.2 + (p.1 + a) % 65521) % 65521 = p.2 + (p.1 + a) % 65521 - 65521 * q2 := ⟨(p.2 + (p.1 + a) % 65521) / 65521, by omega⟩
    rw [hq2, hq]
    exact modp (-(q + q2 + (L.length : Int) * q)) (alg1 _ _ _ _ _ _ _)
theorem st_low (L : List Int) : (st L).1 = (1 + tot L) % 65521 := fold_low L (1, 0) (by decide)
theorem st_high (L : List Int) : (st L).2 = ((L.length : Int) + hh L) % 65521 := by
  have := fold_high L (1, 0) (by decide)
  simp only at this
  rw [st, this]; congr 1; omega

/-- the sum that is joined of two -/
def jn (a b n : Int) : Int :=
  (a / 65536 + b / 65536 + (max n 0) % 65521 * (a % 65536 + 65520)) % 65521 * 65536 + (a % 65536 + b % 65536 + 65520) % 65521

theorem adl_parts (L : List Int) : adl L % 65536 = (st L).1 ∧ adl L / 65536 = (st L).2 := by
  have := st_range L; unfold adl; omega

theorem jn_adl (x y : List Int) : jn (adl x) (adl y) (y.length : Int) = adl (x ++ y) := by
  obtain ⟨x1, x2⟩ := adl_parts x
  obtain ⟨y1, y2⟩ := adl_parts y
  have rx := st_range x
  have e : st (x ++ y) = y.foldl stp (st x) := by simp [st]
  have l1 := fold_low y (st x) rx.1
  have h1 := fold_high y (st x) rx.2
  have l2 := st_low y
  have h2 := st_high y
  simp only [jn, x1, x2, y1, y2, show max (y.length : Int) 0 = y.length by omega]
  rw [show adl (x ++ y) = (st (x ++ y)).2 * 65536 + (st (x ++ y)).1 from rfl, e, l1, h1, l2, h2]
  generalize (y.length : Int) = n
  generalize (st x).1 = lx
  generalize (st x).2 = hx
  generalize tot y = t
  generalize hh y = H
  have hl : (lx + (1 + t) % 65521 + 65520) % 65521 = (lx + t) % 65521 := by omega
  have hhg : (hx + (n + H) % 65521 + n % 65521 * (lx + 65520)) % 65521 = (hx + n * lx + H) % 65521 := by
    obtain ⟨q, hq⟩ : ∃ q, (n + H) % 65521 = n + H - 65521 * q := ⟨(n + H) / 65521, by omega⟩
    obtain ⟨q2, hq2⟩ : ∃ q2, n % 65521 = n - 65521 * q2 := ⟨n / 65521, by omega⟩
    rw [hq, hq2]
    exact modp (-q + n - q2 * (lx + 65520)) (alg2 _ _ _ _ _ _)
  rw [hl, hhg]

theorem jn_range (a b n : Int) : 0 ≤ jn a b n ∧ jn a b n ≤ 4294967295 := by
  unfold jn
  have h1 := Int.emod_nonneg (a / 65536 + b / 65536 + (max n 0) % 65521 * (a % 65536 + 65520)) (show (65521 : Int) ≠ 0 by decide)
  have h2 := Int.emod_lt_of_pos (a / 65536 + b / 65536 + (max n 0) % 65521 * (a % 65536 + 65520)) (show (0 : Int) < 65521 by decide)
  omega

theorem tot_set (L : List Int) : ∀ (k : Nat), k < L.length → ∀ x, tot (L.set k x) = tot L + x - L.getD k 0 := by
  induction L with
  | nil => intro k h; simp at h
  | cons a L ih =>
    intro k h x
    cases k with
    | zero => simp only [List.set_cons_zero, tot_cons, List.getD_cons_zero]; omega
    | succ k =>
      have := ih k (by simpa using h) x
      simp only [List.set_cons_succ, tot_cons, List.getD_cons_succ, this]; omega

theorem turned_ne (L : List Int) (k : Nat) (h : k < L.length) (x : Int) (hx : 0 ≤ x ∧ x ≤ 255) (ho : 0 ≤ L.getD k 0 ∧ L.getD k 0 ≤ 255) (hne : x ≠ L.getD k 0) : adl L ≠ adl (L.set k x) := by
  intro he
  have h1 := (adl_parts L).1
  have h2 := (adl_parts (L.set k x)).1
  rw [← he, h1, st_low, st_low, tot_set L k h x] at h2
  omega
end Go.Proofs.YtipgpigcpbckgaaDoor
namespace Go.Proofs.YtipgpigcpbckgaaDoor
open Go.RowKit Go.WideShapes Go.Sort Go.Lib
set_option maxRecDepth 100000

def pk (x n : Int) : Int := if x.tmod n < 0 then x.tmod n + n else x.tmod n
theorem tmod_bound (x n : Int) (hn : 1 ≤ n) : -n < x.tmod n ∧ x.tmod n < n := by
  have h1 := Int.tmod_lt_of_pos x (show 0 < n by omega)
  have h2 := Int.lt_tmod_of_pos x (show 0 < n by omega)
  omega
theorem pk_range (x n : Int) (hn : 1 ≤ n) : 0 ≤ pk x n ∧ pk x n < n := by
  have := tmod_bound x n hn
  unfold pk; split <;> omega

set_option maxHeartbeats 400000 in
theorem pick_any (x n : Int) (w : World) (_ : -9223372036854775808 ≤ x) (_ : x ≤ 9223372036854775807) (n0 : 1 ≤ n) (n1 : n ≤ 9223372036854775807) :
    Calls Tryd.prog 7 #[.int .i64 x, .int .i64 n] w fun e w' => e = .returned (.int .i64 (pk x n)) ∧ w' = w := by
  have hb := tmod_bound x n n0
  have hd : ¬ n = 0 := by omega
  have hd1 : ¬ n = -1 := by omega
  by_cases hneg : x.tmod n < 0
  · have HP : Hid (pk x n = x.tmod n + n) := by unfold pk; rw [if_pos hneg]; exact rfl
    go_enter Tryd.func7, Tryd.ntmps7
    go_wp2
    go_ret
    exact ⟨by rw [HP.out]; rfl, rfl⟩
  · have HP : Hid (pk x n = x.tmod n) := by unfold pk; rw [if_neg hneg]; exact rfl
    go_enter Tryd.func7, Tryd.ntmps7
    go_wp2
    go_ret
    exact ⟨by rw [HP.out]; rfl, rfl⟩

theorem xor_byte (x y : Int) (x0 : 0 ≤ x) (x1 : x ≤ 255) (y0 : 0 ≤ y) (y1 : y ≤ 255) : (0 ≤ bits .xor .u8 x y ∧ bits .xor .u8 x y ≤ 255) ∧ (y ≠ 0 → bits .xor .u8 x y ≠ x) := by
  obtain ⟨n, rfl⟩ := Int.eq_ofNat_of_zero_le x0
  obtain ⟨m, rfl⟩ := Int.eq_ofNat_of_zero_le y0
  have e := u8_xor_nat n m (by omega) (by omega)
  have hl : n ^^^ m < 2 ^ 8 := Nat.xor_lt_two_pow (by omega) (by omega)
  have hh : m ≠ 0 → n ^^^ m ≠ n := by
    intro hm he
    have h2 : n ^^^ (n ^^^ m) = n ^^^ n := by rw [he]
    rw [← Nat.xor_assoc, Nat.xor_self, Nat.zero_xor] at h2
    exact hm h2
  rw [e]
  refine ⟨by omega, fun hm => ?_⟩
  have := hh (by omega)
  omega

theorem wth_get (zs : List Int) (h : 12 ≤ zs.length) (i : Nat) : (wth 4 zs 8 0)[i]? = if i < 8 then zs[i]? else if i < 12 then some 0 else zs[i]? := by
  have e : nb 4 0 = [0, 0, 0, 0] := by decide
  have hl : (zs.take 8).length = 8 := by rw [List.length_take]; omega
  unfold wth
  rw [e, List.getElem?_append, hl]
  by_cases h1 : i < 8
  · rw [if_pos h1, if_pos h1, List.getElem?_take, if_pos h1]
  · rw [if_neg h1, if_neg h1, List.getElem?_append]
    by_cases h2 : i < 12
    · rw [if_pos h2, if_pos (by simp; omega)]
      have : i - 8 = 0 ∨ i - 8 = 1 ∨ i - 8 = 2 ∨ i - 8 = 3 := by omega
      rcases this with h | h | h | h <;> rw [h] <;> rfl
    · rw [if_neg h2, if_neg (by simp; omega), List.getElem?_drop]
      congr 1; simp; omega
theorem at8 (zs : List Int) (h : 12 ≤ zs.length) : atv 4 zs 8 = num ((zs.drop 8).take 4) := by
  unfold atv; rw [if_pos ⟨by decide, by simp; omega⟩]; rfl
theorem getD_of {L : List Int} {k : Nat} (h : k < L.length) : L[k]? = some (L.getD k 0) := by
  simp [List.getD, List.getElem?_eq_getElem h]
/-- bytes that have their sum have it no more with one byte turned -/
theorem turn_bad (zs : List Int) (k : Nat) (hk : k < zs.length) (h64 : 64 ≤ zs.length) (hwf : ∀ z ∈ zs, 0 ≤ z ∧ z ≤ 255) (x : Int) (hx : 0 ≤ x ∧ x ≤ 255) (hne : x ≠ zs.getD k 0) (he : atv 4 zs 8 = sumV zs) : ¬ atv 4 (zs.set k x) 8 = sumV (zs.set k x) := by
  intro h2
  have hlen : (zs.set k x).length = zs.length := List.length_set ..
  have hwf2 : ∀ z ∈ zs.set k x, 0 ≤ z ∧ z ≤ 255 := fun z hz => by
    rcases List.mem_or_eq_of_mem_set hz with h | h
    · exact hwf z h
    · rw [h]; exact hx
  by_cases hin : 8 ≤ k ∧ k < 12
  · have hw : wth 4 (zs.set k x) 8 0 = wth 4 zs 8 0 := by
      apply List.ext_getElem?
      intro i
      rw [wth_get _ (by omega), wth_get _ (by omega)]
      by_cases h1 : i < 8
      · rw [if_pos h1, if_pos h1, List.getElem?_set_ne (by omega)]
      · rw [if_neg h1, if_neg h1]
        by_cases h3 : i < 12
        · rw [if_pos h3, if_pos h3]
        · rw [if_neg h3, if_neg h3, List.getElem?_set_ne (by omega)]
    rw [sumV, hw, ← sumV, ← he, at8 _ (by omega), at8 _ (by omega)] at h2
    have l1 : (((zs.set k x).drop 8).take 4).length = 4 := by simp; omega
    have l2 : ((zs.drop 8).take 4).length = 4 := by simp; omega
    have n1 := nb_num _ (fun z hz => hwf2 z (List.mem_of_mem_drop (List.mem_of_mem_take hz)) : ∀ z ∈ ((zs.set k x).drop 8).take 4, 0 ≤ z ∧ z ≤ 255)
    have n2 := nb_num _ (fun z hz => hwf z (List.mem_of_mem_drop (List.mem_of_mem_take hz)) : ∀ z ∈ (zs.drop 8).take 4, 0 ≤ z ∧ z ≤ 255)
    rw [l1, h2] at n1
    rw [l2] at n2
    have hq := congrArg (fun L : List Int => L[k - 8]?) (n1.symm.trans n2)
    simp only [List.getElem?_take, if_pos (show k - 8 < 4 by omega), List.getElem?_drop, show 8 + (k - 8) = k by omega] at hq
    rw [List.getElem?_set_self hk, getD_of hk] at hq
    exact hne (Option.some.inj hq)
  · have ha : atv 4 (zs.set k x) 8 = atv 4 zs 8 := by
      rw [at8 _ (by omega), at8 _ (by omega)]
      congr 1
      apply List.ext_getElem?
      intro i
      rw [List.getElem?_take, List.getElem?_take]
      by_cases h1 : i < 4
      · rw [if_pos h1, if_pos h1, List.getElem?_drop, List.getElem?_drop, List.getElem?_set_ne (by omega)]
      · rw [if_neg h1, if_neg h1]
    have hwl : (wth 4 zs 8 0).length = zs.length := wth_len 4 zs 8 0 (by omega)
    have hg : (wth 4 zs 8 0).getD k 0 = zs.getD k 0 := by
      rw [List.getD_eq_getElem?_getD, List.getD_eq_getElem?_getD, wth_get _ (by omega)]
      by_cases h1 : k < 8
      · rw [if_pos h1]
      · rw [if_neg h1, if_neg (by omega)]
    have hw : wth 4 (zs.set k x) 8 0 = (wth 4 zs 8 0).set k x := by
      apply List.ext_getElem?
      intro i
      rw [wth_get _ (by omega)]
      by_cases hik : i = k
      · subst hik
        rw [List.getElem?_set_self (by omega), List.getElem?_set_self (by omega)]
        by_cases h1 : i < 8
        · rw [if_pos h1]
        · rw [if_neg h1, if_neg (by omega)]
      · rw [List.getElem?_set_ne (by omega), List.getElem?_set_ne (by omega), wth_get _ (by omega)]
    have hz : 0 ≤ zs.getD k 0 ∧ zs.getD k 0 ≤ 255 := hwf _ (getD_mem hk)
    refine turned_ne (wth 4 zs 8 0) k (by omega) x hx (by rw [hg]; exact hz) (by rw [hg]; exact hne) ?_
    rw [← hw]
    show sumV zs = sumV (zs.set k x)
    rw [← he, ← h2, ha]

theorem sumV_range (zs : List Int) : 0 ≤ sumV zs ∧ sumV zs < 4294967296 := by
  have := st_range (wth 4 zs 8 0)
  unfold sumV adl; omega
set_option maxHeartbeats 1000000 in
theorem seal_any (ao : Option Addr) (cap : Nat) (zs : List Int) (w : World) (hn : zs.length ≤ 1048576) (h64 : 64 ≤ zs.length) (hwf : ∀ z ∈ zs, 0 ≤ z ∧ z ≤ 255) (hr : Reads w ao zs w.heap.size) :
    Calls Tryd.prog 8 #[.slice ao zs.length cap] w fun e w' => (∃ ao2 cap2, e = .returned (.tuple #[.slice ao2 zs.length cap2, .int .i64 0])) ∧ Below w.heap.size w w' := by
  have hL := lenF_ok ao zs.length cap w h64 hn
  have hS := sumOf_any ao cap zs w (by omega) h64 hwf hr
  have hl : (wth 4 zs (Int.toNat 8) (sumV zs)).length = zs.length := wth_len 4 zs 8 _ (by omega)
  have hW := hidS fun (W : World) (hb : Below w.heap.size w W) => with_u32 ao cap zs 8 (sumV zs) W (by omega) ((hr.below hb).mono hb.size) (by decide) (by decide) (sumV_range zs).1 (sumV_range zs).2 ⟨by decide, by omega⟩
  have HN := hidS hn
  have H6 := hidS h64
  have HL := hidS hl
  clear hr hwf hn h64 hl
  go_enter Tryd.func8, Tryd.ntmps8
  go_wp2_with fail
  with_reducible refine hL.mono ?_
  rintro e wq ⟨rfl, hq⟩
  subst wq
  go_wp2_with fail
  with_reducible refine hS.mono ?_
  rintro e w1 ⟨rfl, b1⟩
  have h2 := hW.out w1 b1
  clear hW hS hL
  generalize sumV zs = sv at *
  go_wp2_with fail
  with_reducible refine h2.mono ?_
  rintro e w2 ⟨v, rfl, own1, b2⟩
  obtain ⟨ao1, cap1, he, hr1⟩ := own_reads (own_lenM own1 HL.out.symm)
  subst he
  rw [HL.out]
  clear h2 hr1 own1
  have b3 := b1.trans (b2.mono b1.size)
  go_wp2_with fail
  refine bodyPost_ret (results_tmp2 rfl _ _ _) rfl ?_
  exact ⟨⟨_, _, rfl⟩, b3⟩
end Go.Proofs.YtipgpigcpbckgaaDoor
namespace Go.Proofs.YtipgpigcpbckgaaDoor
open Go.RowKit Go.WideShapes Go.Sort Go.Lib
set_option maxRecDepth 100000

set_option maxHeartbeats 4000000 in
theorem iturned_any (ao : Option Addr) (ca : Nat) (xs : List Int) (at_ by_ : Int) (w : World) (hx : xs.length ≤ 140737488355328) (hcp : xs.length ≤ ca) (hxw : ∀ z ∈ xs, 0 ≤ z ∧ z ≤ 255) (t0 : -9223372036854775808 ≤ at_) (t1 : at_ ≤ 9223372036854775807) (y0 : 0 ≤ by_) (y1 : by_ ≤ 255)
    (hrx : Reads w ao xs w.heap.size) (hg : Sg w) :
    Calls Tryd.prog 3 #[.slice ao xs.length ca, .int .i64 at_, .int .u8 by_] w fun e w' => e = .returned (.bool true) ∧ Below w.heap.size w w' := by
  obtain ⟨i0, hi, hz0, hz1, hz2⟩ := info_parts Tryd.info5
  have HLv := lives_any w
  have HP := hidS fun (W : World) (hb : Below w.heap.size w W) => parse_any ao ca xs W hcp hxw ((hrx.below hb).mono hb.size) (hg.below hb)
  have HX := hidS hxw
  have HG := hidS hg
  have HC := hidS hcp
  clear hxw hg hcp
  go_enter Tryd.func3, Tryd.ntmps3
  go_wp2_with fail
  with_reducible refine HLv.mono ?_
  rintro e w1 ⟨rfl, b1⟩
  have hP1 := HP.out w1 b1
  clear HLv HP
  go_wp2_with fail
  with_reducible refine hP1.mono ?_
  rintro e w2 ⟨⟨v0, v1, v2, v3, v4, v5, pa, er, rfl, hall, hpost⟩, b2⟩
  have HQ := hidS hpost
  have b3 := btS b1 b2
  have hA4 := heap_alloc_last w2 (.cells #[.slice none 0 0, .slice none 0 0, .slice none 0 0, .int .u32 0, .int .u32 0, .slice none 0 0] 29)
  have b4 : Below w.heap.size w ((w2.alloc (.cells #[.slice none 0 0, .slice none 0 0, .slice none 0 0, .int .u32 0, .int .u32 0, .slice none 0 0] 29)).setRow w2.heap.size #[v0, v1, v2, v3, v4, v5]) := below_setRow (belS b3) b3.size _
  have HALL := hidS hall
  clear hP1 hpost hall
  by_cases her : er = 0
  · by_cases hby : by_ = 0
    · subst her hby
      go_wp2_with (refine wpList_store_row rfl _ _ _ rfl w2.heap.size _ #[v0, v1, v2, v3, v4, v5] rfl rfl hA4 (by rw [infoI6]; rfl) rfl HALL.out ?_; generalize (w2.alloc (.cells #[.slice none 0 0, .slice none 0 0, .slice none 0 0, .int .u32 0, .int .u32 0, .slice none 0 0] 29)).setRow w2.heap.size #[v0, v1, v2, v3, v4, v5] = W5 at *)
      go_ret
      exact ⟨rfl, b4⟩
    · obtain ⟨q64, qhi, qeq⟩ := HQ.out her
      subst her
      clear HQ
      have QE := hidS qeq
      clear qeq
      have d2 : (by_ == 0) = false := by simp [hby]
      go_wp2_with (refine wpList_store_row rfl _ _ _ rfl w2.heap.size _ #[v0, v1, v2, v3, v4, v5] rfl rfl hA4 (by rw [infoI6]; rfl) rfl HALL.out ?_; generalize (w2.alloc (.cells #[.slice none 0 0, .slice none 0 0, .slice none 0 0, .int .u32 0, .int .u32 0, .slice none 0 0] 29)).setRow w2.heap.size #[v0, v1, v2, v3, v4, v5] = W5 at *)
      clear hA4 HALL d2
      go_loopw [10, 11] (fun v i wr => ∃ k : Nat, k ≤ xs.length ∧ i = .int .i64 k ∧ wr.ownsRow w.heap.size 5 1 v k (bv (xs.take k)) ∧ Below w.heap.size w wr)
        (fun _ i _ => xs.length - (intOf i).toNat)
      case atStart => exact ⟨0, Nat.zero_le _, rfl, World.ownsRow_nil _ _ _ _, b4⟩
      case round =>
        obtain ⟨k, hk, rfl, hown, hb⟩ := hrel
        by_cases hlt : k < xs.length
        · obtain ⟨b, off, rfl, hbl, hc⟩ := (hrx.below hb) (by omega)
          have hck := hc k hlt
          have hB := hb.size
          clear hc b4 b3 b2 b1
          have hts := take_snoc xs k hlt
          generalize xs.getD k 0 = c at hck hts
          have HS : Hid (xs.take (k + 1) = xs.take k ++ [c]) := hts
          clear hts
          go_wp2_with (at_builtin; refine wpList_append_own _ rfl _ _ 22 rfl w.heap.size 5 i0 (.int .u8 0) 1 1 Tryd.underlying22 hi hz0 hz1 hz2 rfl (by decide) _ _ _ rfl (hown.alloc _) ⟨wr.heap.size, 0, none⟩ 1 1 [.int .u8 c] rfl rfl ?c1 ?c2 ?c3 ?c4 ?c5 ?_)
          case c1 =>
            intro j u hj
            match j, hj with
            | 0, hj => simp at hj; subst hj; simp [Addr.add]
          case c2 => intro u hu; simp at hu; subst hu; rfl
          case c3 => unfold maxLen; omega
          case c4 => omega
          case c5 => simp; omega
          intro v' w1 hown' hgrow _
          have R1 := own_snoc HS.out hown'
          have R2 := grown_below hb hB hown hgrow
          clear hown' hgrow hown hck
          go_wp2
          go_roundw
          case rel => exact ⟨k + 1, by omega, by go_num, R1, R2⟩
          case measure => simp [intOf]; omega
        · obtain rfl : k = xs.length := by omega
          rw [List.take_length] at hown
          have hB := hb.size
          obtain ⟨g, cap, rfl, hgc⟩ := own_form hown (by omega)
          obtain ⟨p, hp⟩ : ∃ p : Nat, pk at_ xs.length = p := ⟨(pk at_ xs.length).toNat, by have := pk_range at_ xs.length (by omega); omega⟩
          have hpr := pk_range at_ xs.length (by omega)
          rw [hp] at hpr
          have hpl : p < xs.length := by omega
          have HPk : Hid (∀ W : World, Calls Tryd.prog 7 #[.int .i64 at_, .int .i64 (xs.length : Int)] W fun e w' => e = .returned (.int .i64 (p : Int)) ∧ w' = W) := fun W => by
            have := pick_any at_ xs.length W t0 t1 (by omega) (by omega)
            rwa [hp] at this
          have hck := own_get hown (i := p) hpl
          have hfk := hown.frozenAt p
          have hcw := HX.out _ (getD_mem hpl)
          have hxor := xor_byte (xs.getD p 0) by_ hcw.1 hcw.2 y0 y1
          have HN := hidS (turn_bad xs p hpl q64 HX.out _ hxor.1 (hxor.2 hby) QE.out)
          have R := (hown.stored p (.int .u8 (bits .xor .u8 (xs.getD p 0) by_))).1
          have hbv : (bv xs).set p (.int .u8 (bits .xor .u8 (xs.getD p 0) by_)) = bv (xs.set p (bits .xor .u8 (xs.getD p 0) by_)) := by simp [bv, List.map_set]
          rw [hbv] at R
          have hwf2 : ∀ z ∈ xs.set p (bits .xor .u8 (xs.getD p 0) by_), 0 ≤ z ∧ z ≤ 255 := fun z hz => by
            rcases List.mem_or_eq_of_mem_set hz with h | h
            · exact HX.out z h
            · rw [h]; exact hxor.1
          have hlo := (hown.lt g rfl).1
          have hb2 : Below w.heap.size wr _ := (Below.refl w.heap.size wr).setCell (p := ⟨g, p, none⟩) hlo (.int .u8 (bits .xor .u8 (xs.getD p 0) by_))
          have hb3 := hb.trans hb2
          clear hxor hcw hbv hb2 hown b4 b3 b2 b1
          generalize xs.getD p 0 = x at *
          generalize hyy : bits .xor .u8 x by_ = y at *
          obtain ⟨ys, hys⟩ : ∃ ys, ys = xs.set p y := ⟨_, rfl⟩
          have hyl : ys.length = xs.length := by rw [hys, List.length_set]
          rw [← hys] at R hwf2 HN
          obtain ⟨ao2, cap2, hv2, hr2⟩ := own_reads (own_lenM R hyl.symm)
          simp only [Value.slice.injEq] at hv2
          obtain ⟨ha2, hn2, hc2⟩ := hv2
          clear hn2
          subst ha2 hc2
          have hPS := parse_any (some ⟨g, 0, none⟩) cap ys _ (by omega) hwf2 hr2 (HG.out.below hb3)
          have HSl := hidS fun (W : World) (hW : Below (wr.setCell ⟨g, p, none⟩ (.int .u8 y)).heap.size (wr.setCell ⟨g, p, none⟩ (.int .u8 y)) W) => seal_any (some ⟨g, 0, none⟩) cap ys W (by omega) (by omega) hwf2 ((hr2.below hW).mono hW.size)
          rw [hyl] at hPS
          have hplI : (p : Int) < (xs.length : Int) := by omega
          have HYL := hidS hyl
          have Hb3 := hidS hb3
          have hPk := HPk.out wr
          clear hwf2 hr2 R hys hp hpr hyl hgc hb3 HPk hlt hk q64 qhi hB hb hlo HC HX
          go_wp2_with fail
          with_reducible refine hPk.mono ?_
          rintro e wq ⟨rfl, hq⟩
          subst wq
          go_wp2_with fail
          clear hck hfk hPk
          generalize wr.setCell ⟨g, p, none⟩ (.int .u8 y) = S at *
          with_reducible refine hPS.mono ?_
          rintro e w6 ⟨⟨u0, u1, u2, u3, u4, u5, pb, er2, rfl, hall2, hpost2⟩, b6⟩
          have her2 : ¬ er2 = 0 := fun h => HN.out (hpost2 h).2.2
          have d3 : (er2 == 0) = false := by simp [her2]
          have d4 : (er2 != 0) = true := by simp [her2]
          have hA7 := heap_alloc_last w6 (.cells #[.slice none 0 0, .slice none 0 0, .slice none 0 0, .int .u32 0, .int .u32 0, .slice none 0 0] 29)
          have b7 : Below S.heap.size S ((w6.alloc (.cells #[.slice none 0 0, .slice none 0 0, .slice none 0 0, .int .u32 0, .int .u32 0, .slice none 0 0] 29)).setRow w6.heap.size #[u0, u1, u2, u3, u4, u5]) := below_setRow (belS b6) b6.size _
          have hSl := HSl.out _ b7
          have B7 := hidS (btS Hb3.out b7)
          rw [HYL.out] at hSl
          have HALL2 := hidS hall2
          clear hPS hpost2 hall2 her2 HSl b6 b7 Hb3 HN
          go_wp2_with (refine wpList_store_row rfl _ _ _ rfl w6.heap.size _ #[u0, u1, u2, u3, u4, u5] rfl rfl hA7 (by rw [infoI6]; rfl) rfl HALL2.out ?_; generalize (w6.alloc (.cells #[.slice none 0 0, .slice none 0 0, .slice none 0 0, .int .u32 0, .int .u32 0, .slice none 0 0] 29)).setRow w6.heap.size #[u0, u1, u2, u3, u4, u5] = W8 at *)
          clear hA7 HALL2
          with_reducible refine hSl.mono ?_
          rintro e w9 ⟨⟨ao9, cap9, rfl⟩, b9⟩
          clear hSl
          go_wp2_with fail
          go_ret
          exact ⟨rfl, btS B7.out b9⟩
  · have d1 : (er == 0) = false := by simp [her]
    clear HQ her
    go_wp2_with (refine wpList_store_row rfl _ _ _ rfl w2.heap.size _ #[v0, v1, v2, v3, v4, v5] rfl rfl hA4 (by rw [infoI6]; rfl) rfl HALL.out ?_; generalize (w2.alloc (.cells #[.slice none 0 0, .slice none 0 0, .slice none 0 0, .int .u32 0, .int .u32 0, .slice none 0 0] 29)).setRow w2.heap.size #[v0, v1, v2, v3, v4, v5] = W5 at *)
    go_ret
    exact ⟨rfl, b4⟩
end Go.Proofs.YtipgpigcpbckgaaDoor
namespace Go.Proofs.YtipgpigcpbckgaaDoor
open Go.ChangeShapes Go.WideShapes Go.ChangeAt Go.RowKit

theorem Tryd.own : ownKnob Tryd.prog.godebug = none := by kernel_rfl
theorem Tryd.laidOut : laidOutB Tryd.prog = true := by kernel_rfl
theorem Tryd.cells5 : Tryd.prog.cellsOf 5 = 1 := by kernel_rfl
theorem Tryd.bytes5 : Tryd.prog.bytesOf 5 = 1 := by kernel_rfl
theorem int_wf {z : Int} (h : (Lit.int .i64 z).wf = true) : -9223372036854775808 ≤ z ∧ z ≤ 9223372036854775807 := by
  have h1 : IntKind.i64.min = -9223372036854775808 := rfl
  have h2 : IntKind.i64.max = 9223372036854775807 := rfl
  simp only [Lit.wf, Bool.and_eq_true, decide_eq_true_eq] at h
  omega
theorem byte_wf {z : Int} (h : (Lit.int .u8 z).wf = true) : 0 ≤ z ∧ z ≤ 255 := by
  simpa [Lit.wf, IntKind.min, IntKind.max, IntKind.signed, IntKind.bits] using h
theorem bulk_lits {H : Type} (k : IntKind) (zs : List Int) : Rows.uptoBulkAll (lits (H := H) k zs) = zs.length := by
  induction zs with
  | nil => rfl
  | cons z zs ih =>
    have e : lits (H := H) k (z :: zs) = .lit (.int k z) :: lits k zs := rfl
    rw [e]
    simp only [Rows.uptoBulkAll, Rows.uptoBulk, ih, List.length_cons]
    omega

/-- a slice of bytes that is handed in, or lies in what is -/
theorem bytes_cells {H : Type} {enc : TypeId × Value → H} {W : World} {fuel : Nat} {cs : List Value} {d : DataW H} {p : List MemPlace}
    (hf : DataW.trod enc Tryd.prog W 0 (fun _ => true) true fuel 22 cs = some (d, p)) (hlt : ∀ x ∈ p, x.block < W.heap.size) :
    ∃ (a0 : Option Addr) (cap : Nat) (zs : List Int), cs = [.slice a0 zs.length cap] ∧ zs.length ≤ cap ∧ (∀ z ∈ zs, 0 ≤ z ∧ z ≤ 255) ∧ Reads W a0 zs W.heap.size ∧ (d = .nil ∧ zs = [] ∨ ∃ sp, d = .slice (lits .u8 zs) (lits .u8 sp)) := by
  rcases open_ints Tryd.underlying22 Tryd.underlying5 Tryd.cells5 hf with ⟨hcs, hx⟩ | ⟨a, len, cap, zs, hcs, _, hl, hm, hz, hx, hcell, hwz⟩
  · simp only [Prod.mk.injEq] at hx
    exact ⟨none, 0, [], hcs, by simp, by simp, Reads.nil _ _ _, .inl ⟨hx.1, rfl⟩⟩
  · simp only [Prod.mk.injEq] at hx
    obtain ⟨rfl, rfl⟩ := hx
    simp only [if_true] at hz
    have hlz : (zs.take len).length = len := by simp; omega
    refine ⟨some a, cap, zs.take len, by rw [hlz]; exact hcs, by rw [hlz]; exact hl, fun z hz' => byte_wf (hwz z (List.mem_of_mem_take hz')), fun hpos => ?_, .inr ⟨_, rfl⟩⟩
    obtain ⟨b, off, spot⟩ := a
    have hspot : spot = none := by simpa [Addr.add] using World.cell?_spot (hcell 0 (by omega))
    subst hspot
    have hbW : b < W.heap.size := hlt (.cell b off) (MemPlace.mem_row.2 ⟨0, by omega, by simp⟩)
    refine ⟨b, off, rfl, hbW, fun j hj => ?_⟩
    rw [hlz] at hj
    rw [← add_plain, hcell j (by omega)]
    simp [hj]
theorem bytes_open {H : Type} {enc : TypeId × Value → H} {W : World} {a0 : Option Addr} {len cap : Nat} {d : DataW H} {p : List MemPlace}
    (h : DataW.Trod enc Tryd.prog W 0 (fun _ => true) true 22 (.slice a0 len cap) d p) (hlt : ∀ x ∈ p, x.block < W.heap.size) :
    ∃ zs : List Int, zs.length = len ∧ zs.length ≤ cap ∧ (∀ z ∈ zs, 0 ≤ z ∧ z ≤ 255) ∧ Reads W a0 zs W.heap.size ∧ (d = .nil ∧ zs = [] ∨ ∃ sp, d = .slice (lits .u8 zs) (lits .u8 sp)) := by
  obtain ⟨fuel, hf⟩ := h
  obtain ⟨a, c, zs, hcs, hcp, h1, h2, h3⟩ := bytes_cells hf hlt
  simp [Value.cells] at hcs
  obtain ⟨rfl, rfl, rfl⟩ := hcs
  exact ⟨zs, rfl, hcp, h1, h2, h3⟩
theorem quad_wf {z : Int} (h : (Lit.int .u64 z).wf = true) : 0 ≤ z ∧ z < 18446744073709551616 := by
  have h1 : IntKind.u64.min = 0 := rfl
  have h2 : IntKind.u64.max = 18446744073709551615 := rfl
  simp only [Lit.wf, Bool.and_eq_true, decide_eq_true_eq] at h
  omega
theorem word_wf {z : Int} (h : (Lit.int .u32 z).wf = true) : 0 ≤ z ∧ z ≤ 4294967295 := by
  simpa [Lit.wf, IntKind.min, IntKind.max, IntKind.signed, IntKind.bits] using h
theorem weightsAll_mem {H : Type} {P : Program} {e : TypeId} : ∀ {l : List (DataW H)} {d : DataW H}, d ∈ l → ∀ n ∈ d.weights P e, n ∈ DataW.weightsAll P e l
  | d' :: r, d, hd, n, hn => by
    simp only [DataW.weightsAll, List.mem_append]
    rcases List.mem_cons.1 hd with rfl | h
    · exact Or.inl hn
    · exact Or.inr (weightsAll_mem h n hn)
theorem lits_len {H : Type} (k : IntKind) (zs : List Int) : (lits (H := H) k zs).length = zs.length := by simp [lits]
end Go.Proofs.YtipgpigcpbckgaaDoor
namespace Go.Proofs.YtipgpigcpbckgaaDoor
open Go.ChangeShapes Go.WideShapes Go.ChangeAt Go.RowKit

theorem tab_reads {P : Program} {W : World} {name : String} {k : IntKind} {zs : List Int} {g : Nat} {t e : TypeId} {n : Nat}
    (hg : P.globalNamed name = some g) (hty : (P.globals[g]?).map (·.type) = some t) (ht : P.underlying t = some (.array n e)) (he : P.underlying e = some (.int k)) (hce : P.cellsOf e = 1) (hct : P.cellsOf t = n)
    (h : Lib.VarReads P W name (Lib.tabData k zs)) : Lib.TabIs P W name k zs := by
  obtain ⟨g', t', cs, fuel, p, hg', ht', hvar, hd⟩ := h
  obtain rfl := Option.some.inj (hg.symm.trans hg')
  obtain rfl := Option.some.inj (hty.symm.trans ht')
  unfold Lib.TabIs
  rw [hvar, ← Lib.cells_of_tab ht he hce hct hd]
abbrev laid1 : List (String × DataW Unit) := [("playpen/image.segmentPlaces", Rows.laid_playpen_image_segmentPlaces)]
theorem cell_pos {w : World} {i : Nat} {v : Value} (h : w.cell? ⟨0, i, none⟩ = some v) : 0 < w.heap.size := by
  by_cases hp : 0 < w.heap.size
  · exact hp
  · have : w.heap[0]? = none := Array.getElem?_eq_none (by omega)
    simp [World.cell?, this] at h
theorem sg_laid {W : World} (h : laidMetH Tryd.prog laid1 W) : Sg W := by
  rw [MakeChecks.laidMetH_plain _ _ _ (by kernel_rfl)] at h
  have r1 : Lib.VarReads Tryd.prog W "playpen/image.segmentPlaces" (Lib.tabData .i64 [16, 24, 32, 40]) := Lib.laidMet.reads h (.head _)
  have t1 := tab_reads (g := 0) (t := 62) (e := 3) (n := 4) (by kernel_rfl) (by kernel_rfl) Tryd.underlying62 Tryd.underlying3 (by kernel_rfl) (by kernel_rfl) r1
  have c0 := t1.cell (g := 0) (by kernel_rfl) 0 (by decide)
  exact ⟨cell_pos c0, c0, t1.cell (by kernel_rfl) 1 (by decide), t1.cell (by kernel_rfl) 2 (by decide), t1.cell (by kernel_rfl) 3 (by decide)⟩
set_option maxRecDepth 100000 in
theorem iturned_lifted (os : Os) (started : os.Started) (H : Type) (enc : TypeId × Value → H) :
    ReturnsInHanded {} Tryd.checked os 3 .any (fun w args => (Rows.imageTurnedSpec.pre enc Tryd.prog Tryd.f3 [] false w args ∧ laidMetH Tryd.prog laid1 w) ∧ sizedMet enc Tryd.prog Tryd.f3 (OpenSpec.ofChange Rows.imageTurnedSpec) false w args)
      (Rows.imageTurnedSpec.post enc Tryd.prog Tryd.f3 false true false false) := by
  refine returnsInHanded_of_change_and (C := Tryd.checked) (X := fun w _ => laidMetH Tryd.prog laid1 w) (fun _ _ _ hh h => h.of_heap hh) Tryd.own started (by kernel_rfl) Tryd.func3
    (ChangeSpec.witness_shaped (enc := enc) (C := Tryd.checked) (os := os) (X := fun w _ => laidMetH Tryd.prog laid1 w) false (World.laidAll Tryd.prog os laid1) #[.slice none 0 0, .int .i64 0, .int .u8 0] 8 (World.laidAll_os _ _ _)
      (World.shaped_of_ZipB (by kernel_rfl) (by kernel_rfl)) (by kernel_rfl) (by kernel_rfl) (by kernel_rfl)
      (by rw [MakeChecks.laidMetH_plain _ _ _ (by kernel_rfl)]; exact laidMet_laidAll _ (by kernel_rfl) (by kernel_rfl))) ?_
  intro W base args ds gs before hval0 hW _ hsz0 hL _
  have hsz : (DataW.weightsEach Tryd.prog (Tryd.f3.params.toList ++ Rows.imageTurnedSpec.plain.varTypes Tryd.prog) (ds ++ gs)).all (· ≤ reachBytes) = true := hsz0
  clear hsz0
  have hval : ∀ (j : Nat) t v, Tryd.f3.params[j]? = some t → args[j]? = some v → Value.okWide Tryd.prog W .any base t v := hval0
  have hW' := hW
  obtain ⟨p, q, hA0, hV, rfl, _, _⟩ := hW
  have hA : DataW.TrodAll enc Tryd.prog W 0 (fun _ => true) true Tryd.f3.params.toList args.toList ds p := hA0
  rw [Tryd.params3] at hA hval hsz
  obtain ⟨v0, vs0, d0, ds0, p0, q0, hargs, rfl, rfl, h0, r0⟩ := trodAll_cons hA
  obtain ⟨v1, vs1, d1, ds1, p1, q1, rfl, rfl, rfl, h1, r1⟩ := trodAll_cons r0
  obtain ⟨v2, vs2, d2, ds2, p2, q2, rfl, rfl, rfl, h2, r2⟩ := trodAll_cons r1
  obtain ⟨rfl, rfl, rfl⟩ := trodAll_nil r2
  obtain rfl : args = #[v0, v1, v2] := by cases args; simp_all
  obtain ⟨rfl, rfl⟩ := trodVars_none hV
  obtain ⟨a0, len, cap, rfl⟩ := okWide_slice Tryd.underlying22 (hval 0 22 v0 rfl rfl)
  obtain ⟨a1, rfl, rfl, rfl, w1⟩ := open_int Tryd.underlying3 (hval 1 3 v1 rfl rfl) h1
  obtain ⟨a2, rfl, rfl, rfl, w2⟩ := open_int Tryd.underlying5 (hval 2 5 v2 rfl rfl) h2
  clear hA0 hval0
  simp only [List.append_nil] at hW' hsz
  have hlt : ∀ x ∈ p0, x.block < W.heap.size := fun x hx => by simpa using hW'.lt x (by simp [hx])
  obtain ⟨zs, rfl, hcp, hwf, hr, hd⟩ := bytes_open h0 hlt
  have hs : zs.length ≤ 140737488355328 := by
    rcases hd with ⟨_, rfl⟩ | ⟨sp, rfl⟩
    · simp
    · have := sized_slice hsz (j := 0) (t := 22) rfl rfl Tryd.underlying22
      rw [Tryd.bytes5, lits_len, lits_len] at this
      simp only [reachBytes] at this
      omega
  refine (iturned_any a0 cap zs a1 a2 W hs hcp hwf (int_wf w1).1 (int_wf w1).2 (byte_wf w2).1 (byte_wf w2).2 hr (sg_laid hL)).mono fun e W' ⟨he, hnx⟩ => ?_
  subst he
  have hback : DataW.Trod enc Tryd.prog W' 0 (fun b => decide (b < W.heap.size)) true 22 (.slice a0 zs.length cap) d0 p0 :=
    Below.trod Tryd.laidOut (by kernel_rfl) (of_decide_eq_true (by kernel_rfl)) h0 hnx hlt
  refine ⟨_, rfl, _, _, _, [], p0 ++ ([] ++ ([] ++ [])), [], hW', ?_, ?_, rfl, hnx.frame _, fun h => by cases h⟩
  · exact trodAll_cons_mk (shut_bool Tryd.underlying4 _) trodAll_mk0
  · exact trodAll_cons_mk hback (trodAll_cons_mk (shut_int Tryd.underlying3 w1) (trodAll_cons_mk (shut_int Tryd.underlying5 w2) trodAll_mk0))
theorem iturned_row : Rows.ImageTurnedSaid :=
  OpenClaim.holds_of_wide 3 Tryd.f3 rfl rfl rfl rfl rfl rfl rfl ⟨rfl, rfl, rfl, rfl, rfl⟩ rfl rfl rfl rfl rfl (by kernel_rfl) Tryd.func3 (by kernel_rfl)
    (of_decide_eq_true (by kernel_rfl)) (by unfold Func.isWrapper; first | (rw [if_pos (by decide +kernel)]; kernel_rfl) | (rw [if_neg (by decide +kernel)]; exact ⟨rfl, rfl⟩))
    (fun os started H enc _ => iturned_lifted os started H enc)
theorem iturned_holds : Rows.ImageTurnedCardSaid :=
  Claim7.holds_tied_plain_at .later [] [.data] true (true, "0e633bc622baf9315081843d1dfe5fb35e9e748dcd27a0e8f837450ce544a6b3") false
    iturned_row (fun _ h => by cases h) (by kernel_rfl) (fun _ h => by cases h) imageTurned_row_tie rfl ⟨rfl, rfl⟩ (by kernel_rfl) rfl
    (fun f fn hf hfn => by
      obtain rfl : f = 3 := Option.some.inj ((show Tryd.prog.funcNamed "playpen/playpenlaw08.ImageTurned" = some 3 by kernel_rfl).symm.trans hf) |>.symm
      obtain rfl : fn = Tryd.f3 := (Option.some.inj (Tryd.func3.symm.trans hfn)).symm
      exact ⟨by kernel_rfl, fun j t ht => by
        rw [Tryd.params3] at ht
        have hm : t ∈ [22, 3, 5] := by simpa using Array.mem_of_getElem? ht
        have hall : ([22, 3, 5].all fun u => !Tryd.prog.wantsStandIn u) = true := by kernel_rfl
        exact (show Tryd.prog.wantsStandIn t = false by simpa using List.all_eq_true.1 hall t hm)⟩)
    (by kernel_rfl)
end Go.Proofs.YtipgpigcpbckgaaDoor
