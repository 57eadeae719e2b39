import Derived.Test.YtpohapehkfpcaaaDoorEBkM
import Derived.Test.YtpohapehkfpcaaaDoorLSame
namespace Go.Proofs.YtpohapehkfpcaaaDoor
open Go.RowKit Go.WideShapes
set_option maxRecDepth 100000

set_option maxHeartbeats 4000000 in
theorem memback_any (b : Nat) (ao : Option Addr) (cap : Nat) (zs : List Int) (at_ v far n16 : Nat) (w : World) (hT : Tab w) (h1 : 1 < w.heap.size) (hb : b ≤ 255) (hc : zs.length ≤ cap) (hwf : ∀ z ∈ zs, 0 ≤ z ∧ z ≤ 255) (hr : Reads w ao zs w.heap.size) (hat : at_ < 4294967296) (hv : v < 4294967296) (_hf : far < 4294967296) :
    Calls Tryd.prog 5 #[.agg #[.int .u8 b, .slice ao zs.length cap, .int .u32 at_, .int .u32 v, .int .u32 far, .int .u16 n16]] w fun e w' => e = .returned (.bool true) ∧ Below w.heap.size w w' := by
  have hA0 : Below w.heap.size w (w.alloc (.cells #[.int .u8 b, .slice ao zs.length cap, .int .u32 at_, .int .u32 v, .int .u32 far, .int .u16 n16] 46)) := (Below.refl _ _).alloc (Nat.le_refl _) _
  generalize hW0 : w.alloc (.cells #[.int .u8 b, .slice ao zs.length cap, .int .u32 at_, .int .u32 v, .int .u32 far, .int .u16 n16] 46) = W0 at *
  have hB0 : W0.heap.size = w.heap.size + 1 := by rw [← hW0]; simp
  have hobj : W0.heap[w.heap.size]? = some (.cells #[.int .u8 b, .slice ao zs.length cap, .int .u32 at_, .int .u32 v, .int .u32 far, .int .u16 n16] 46) := by rw [← hW0]; exact heap_alloc_new w _
  have XC : Hid (∀ W, Below W0.heap.size W0 W → W.cell? ⟨w.heap.size, 1, none⟩ = some (.slice ao zs.length cap) ∧ W.cell? ⟨w.heap.size, 2, none⟩ = some (.int .u32 at_) ∧ W.cell? ⟨w.heap.size, 3, none⟩ = some (.int .u32 v) ∧ W.cell? ⟨w.heap.size, 4, none⟩ = some (.int .u32 far)) := fun W hW =>
    have h := fun i => (hW.cell (p := ⟨w.heap.size, i, none⟩) (by rw [hB0]; exact Nat.lt_succ_self _)).trans (obj_cell hobj i)
    ⟨(h 1).trans rfl, (h 2).trans rfl, (h 3).trans rfl, (h 4).trans rfl⟩
  have c0 : W0.cell? ⟨w.heap.size, 0, none⟩ = some (.int .u8 b) := (obj_cell hobj 0).trans rfl
  obtain ⟨c1, c2, c3, c4⟩ := XC.out W0 (Below.refl _ _)
  have hMd : Calls Tryd.prog 9 #[.int .u8 b, .slice ao zs.length cap] W0 fun e w' => ∃ a bs, e = .returned (.pointer (some ⟨a, 0, none⟩)) ∧ Hid (Seg W0.heap.size w' a bs ∧ Below W0.heap.size W0 w') := (made_any b ao cap zs W0 hb hwf ((hr.below hA0).mono (by omega))).mono fun e w' ⟨a, bs, he, h⟩ => ⟨a, bs, he, h⟩
  have hAw : Hid (∀ a bs W, Seg W0.heap.size W a bs → Below W0.heap.size W0 W → Calls Tryd.prog 8 #[] W fun e w' => e = .returned (.bool true) ∧ Hid (Seg W0.heap.size w' a bs ∧ Below W0.heap.size W0 w')) := fun a bs W hS hbl =>
    (awake_any W ((hT.below hA0 (by omega)).below hbl (by omega)) (by have := hbl.size; omega)).mono fun e w' ⟨he, h⟩ => ⟨he, hS.below h, hbl.trans (h.mono hbl.size)⟩
  have HT := hidS hT
  have HR := hidS hr
  have HWF := hidS hwf
  have HW0 := hidS hW0
  have HB0 := hidS hB0
  have HA0 := hidS hA0
  clear hobj hT hr hwf hA0 hB0
  go_enter Tryd.func5, Tryd.ntmps5
  go_wp2_with (first
    | (go_at_call 9; with_reducible refine hMd.mono ?_; rintro e w1 ⟨a, bs, rfl, HQ1⟩)
    | (go_at_call 8; with_reducible refine (hAw.out _ _ _ HQ1.out.1 HQ1.out.2).mono ?_; rintro e w2 ⟨rfl, HQ2⟩; obtain ⟨d1, d2, d3, d4⟩ := XC.out w2 HQ2.out.2)
    | fail)
  clear hW0 c0 c1 c2 c3 c4 hMd hAw
  have hp := HQ2.out.1.len
  have hpb := hp.bd
  have hBy : Calls Tryd.prog 21 #[.pointer (some ⟨a, 0, none⟩)] w2 fun e w' => ∃ g c, e = .returned (.slice (some ⟨g, 0, none⟩) bs.length c) ∧ Hid (Seg W0.heap.size w' a bs ∧ Below W0.heap.size W0 w') := (bytes_any _ a bs w2 HQ2.out.1).mono fun e w' ⟨g, c, he, _, h⟩ => ⟨g, c, he, HQ2.out.1.below h, HQ2.out.2.trans (h.mono HQ2.out.2.size)⟩
  have HPW := hidS hp
  clear hp
  go_wp2_with (first
    | (go_at_call 21; with_reducible refine hBy.mono ?_; rintro e w3 ⟨g, c, rfl, HQ3⟩; obtain ⟨f1, f2, f3, f4⟩ := XC.out w3 HQ3.out.2)
    | fail)
  obtain ⟨ag, hag⟩ : ∃ ag : Nat, ((at_ : Int) + (far : Int) * (bs.length : Int) % 4294967296) % 4294967296 = (ag : Int) := ⟨(at_ + far * bs.length % 4294967296) % 4294967296, by omega⟩
  have hagl : ag < 4294967296 := by omega
  have hagN : ag % bs.length = at_ % bs.length := by
    have e : ag = (at_ + far * bs.length % 4294967296) % 4294967296 := by omega
    rw [e, HPW.out.mod, Nat.add_mod, HPW.out.mod, Nat.mul_mod_left, Nat.add_zero, Nat.mod_mod]
  have hz1 : ((at_ + 1) % 4294967296) % bs.length = (at_ + 1) % bs.length := HPW.out.mod _
  have hz2 : ((at_ + 2) % 4294967296) % bs.length = (at_ + 2) % bs.length := HPW.out.mod _
  have hz3 : ((ag + 3) % 4294967296) % bs.length = (at_ + 3) % bs.length := by rw [HPW.out.mod, Nat.add_mod, hagN, ← Nat.add_mod]
  obtain ⟨g0, g1, g2, g3⟩ := bk1 bs at_ v hpb.1
  have hb2 := bk2 bs at_ ag ((at_ + 2) % 4294967296) v (((v : Int) + 1) % 4294967296) (((v : Int) + 2) % 4294967296) hpb.1 hagN hz2
  have hSt : Calls Tryd.prog 22 #[.pointer (some ⟨a, 0, none⟩), .int .u32 at_, .int .u32 v] w3 fun e w' => e = .returned (.tuple #[]) ∧ Hid (Seg W0.heap.size w' a (wrL bs at_ (by4 v)) ∧ Below W0.heap.size W0 w') :=
    (store4_any W0.heap.size a at_ v bs w3 HQ3.out.1 HQ3.out.2.size hat (by omega)).mono fun e w' ⟨he, q1, q2⟩ => ⟨he, q1, HQ3.out.2.trans q2⟩
  have hs2 : Hid (∀ W, Seg W0.heap.size W a (wrL bs at_ (by4 v)) → Below W0.heap.size W0 W → Calls Tryd.prog 24 #[.pointer (some ⟨a, 0, none⟩), .int .u32 ag, .int .u32 (((v : Int) + 1) % 4294967296)] W fun e w' => e = .returned (.tuple #[]) ∧ Hid (Seg W0.heap.size w' a (wrL (wrL bs at_ (by4 v)) ag ((by4 (((v : Int) + 1) % 4294967296)).take 2)) ∧ Below W0.heap.size W0 w')) := fun W hS hbl =>
    (store2_any W0.heap.size a ag (((v : Int) + 1) % 4294967296) _ W hS hbl.size hagl (by omega)).mono fun e w' ⟨he, q1, q2⟩ => ⟨he, q1, hbl.trans q2⟩
  have hs1 : Hid (∀ W, Seg W0.heap.size W a (wrL (wrL bs at_ (by4 v)) ag ((by4 (((v : Int) + 1) % 4294967296)).take 2)) → Below W0.heap.size W0 W → Calls Tryd.prog 14 #[.pointer (some ⟨a, 0, none⟩), .int .u32 (((at_ : Int) + 2) % 4294967296), .int .u32 (((v : Int) + 2) % 4294967296)] W fun e w' => e = .returned (.tuple #[]) ∧ Hid (Seg W0.heap.size w' a (wrL (wrL (wrL bs at_ (by4 v)) ag ((by4 (((v : Int) + 1) % 4294967296)).take 2)) ((at_ + 2) % 4294967296) ((by4 (((v : Int) + 2) % 4294967296)).take 1)) ∧ Below W0.heap.size W0 w')) := fun W hS hbl =>
    (store1_any W0.heap.size a ((at_ + 2) % 4294967296) (((v : Int) + 2) % 4294967296) _ W hS hbl.size (by omega) (by omega)).mono fun e w' ⟨he, q1, q2⟩ => ⟨he, q1, hbl.trans q2⟩
  have hlen1 : (wrL bs at_ (by4 v)).length = bs.length := wrL_len _ _ _
  have hlen3 : (wrL (wrL (wrL bs at_ (by4 v)) ag ((by4 (((v : Int) + 1) % 4294967296)).take 2)) ((at_ + 2) % 4294967296) ((by4 (((v : Int) + 2) % 4294967296)).take 1)).length = bs.length := by rw [wrL_len, wrL_len, wrL_len]
  generalize wrL (wrL (wrL bs at_ (by4 v)) ag ((by4 (((v : Int) + 1) % 4294967296)).take 2)) ((at_ + 2) % 4294967296) ((by4 (((v : Int) + 2) % 4294967296)).take 1) = b3 at *
  generalize wrL (wrL bs at_ (by4 v)) ag ((by4 (((v : Int) + 1) % 4294967296)).take 2) = b2 at *
  generalize wrL bs at_ (by4 v) = b1 at *
  have hl3 : b3.length = bs.length := hlen3
  have m0 : ∀ p q : Nat, p % bs.length = q % bs.length → gt b1 p = gt b1 q := fun p q h => gt_mod b1 p q (by rw [hlen1]; exact h)
  have m1 : ∀ p q i : Nat, p % bs.length = q % bs.length → gt b1 (p + i) = gt b1 (q + i) := fun p q i h => gt_add b1 p q i (by rw [hlen1]; exact h)
  have k1 : Hid (∀ W, Seg W0.heap.size W a b1 → Below W0.heap.size W0 W → Calls Tryd.prog 11 #[.pointer (some ⟨a, 0, none⟩), .int .u32 (ag)] W fun e w' => e = .returned (.int .u32 (v)) ∧ Hid (Seg W0.heap.size w' a b1 ∧ Below W0.heap.size W0 w')) := fun W hS hbl => by
    have h := load4_any W0.heap.size a (ag) _ W hS hbl.size (by omega)
    exact h.mono fun e w' ⟨he, q1, q2⟩ => ⟨by rw [he]; exact ret_int (by rw [n4_4, m0 _ _ hagN, m1 _ _ 1 hagN, m1 _ _ 2 hagN, m1 _ _ 3 hagN, g0, g1, g2, g3]; omega), q1, hbl.trans q2⟩
  have k2 : Hid (∀ W, Seg W0.heap.size W a b1 → Below W0.heap.size W0 W → Calls Tryd.prog 13 #[.pointer (some ⟨a, 0, none⟩), .int .u32 (ag)] W fun e w' => e = .returned (.int .u32 ((v : Int) % 65536)) ∧ Hid (Seg W0.heap.size w' a b1 ∧ Below W0.heap.size W0 w')) := fun W hS hbl => by
    have h := load2_any W0.heap.size a (ag) _ W hS hbl.size (by omega)
    exact h.mono fun e w' ⟨he, q1, q2⟩ => ⟨by rw [he]; exact ret_int (by rw [n4_2, m0 _ _ hagN, m1 _ _ 1 hagN, g0, g1]; omega), q1, hbl.trans q2⟩
  have k3 : Hid (∀ W, Seg W0.heap.size W a b1 → Below W0.heap.size W0 W → Calls Tryd.prog 23 #[.pointer (some ⟨a, 0, none⟩), .int .u32 (ag)] W fun e w' => e = .returned (.int .u32 ((v : Int) % 256)) ∧ Hid (Seg W0.heap.size w' a b1 ∧ Below W0.heap.size W0 w')) := fun W hS hbl => by
    have h := load1_any W0.heap.size a (ag) _ W hS hbl.size (by omega)
    exact h.mono fun e w' ⟨he, q1, q2⟩ => ⟨by rw [he]; exact ret_int (by rw [n4_1, m0 _ _ hagN, g0]), q1, hbl.trans q2⟩
  have k4 : Hid (∀ W, Seg W0.heap.size W a b1 → Below W0.heap.size W0 W → Calls Tryd.prog 23 #[.pointer (some ⟨a, 0, none⟩), .int .u32 (((ag : Int) + 3) % 4294967296)] W fun e w' => e = .returned (.int .u32 ((v : Int) / 16777216)) ∧ Hid (Seg W0.heap.size w' a b1 ∧ Below W0.heap.size W0 w')) := fun W hS hbl => by
    have h := load1_any W0.heap.size a ((ag + 3) % 4294967296) _ W hS hbl.size (by omega)
    exact h.mono fun e w' ⟨he, q1, q2⟩ => ⟨by rw [he]; exact ret_int (by rw [n4_1, m0 _ _ hz3, g3]), q1, hbl.trans q2⟩
  have k5 : Hid (∀ W, Seg W0.heap.size W a b1 → Below W0.heap.size W0 W → Calls Tryd.prog 11 #[.pointer (some ⟨a, 0, none⟩), .int .u32 (at_)] W fun e w' => e = .returned (.int .u32 (v)) ∧ Hid (Seg W0.heap.size w' a b1 ∧ Below W0.heap.size W0 w')) := fun W hS hbl => by
    have h := load4_any W0.heap.size a (at_) _ W hS hbl.size (by omega)
    exact h.mono fun e w' ⟨he, q1, q2⟩ => ⟨by rw [he]; exact ret_int (by rw [n4_4, g0, g1, g2, g3]; omega), q1, hbl.trans q2⟩
  have k6 : Hid (∀ W, Seg W0.heap.size W a b1 → Below W0.heap.size W0 W → Calls Tryd.prog 13 #[.pointer (some ⟨a, 0, none⟩), .int .u32 (at_)] W fun e w' => e = .returned (.int .u32 ((v : Int) % 65536)) ∧ Hid (Seg W0.heap.size w' a b1 ∧ Below W0.heap.size W0 w')) := fun W hS hbl => by
    have h := load2_any W0.heap.size a (at_) _ W hS hbl.size (by omega)
    exact h.mono fun e w' ⟨he, q1, q2⟩ => ⟨by rw [he]; exact ret_int (by rw [n4_2, g0, g1]; omega), q1, hbl.trans q2⟩
  have k7 : Hid (∀ W, Seg W0.heap.size W a b1 → Below W0.heap.size W0 W → Calls Tryd.prog 13 #[.pointer (some ⟨a, 0, none⟩), .int .u32 (((at_ : Int) + 2) % 4294967296)] W fun e w' => e = .returned (.int .u32 ((v : Int) / 65536)) ∧ Hid (Seg W0.heap.size w' a b1 ∧ Below W0.heap.size W0 w')) := fun W hS hbl => by
    have h := load2_any W0.heap.size a ((at_ + 2) % 4294967296) _ W hS hbl.size (by omega)
    exact h.mono fun e w' ⟨he, q1, q2⟩ => ⟨by rw [he]; exact ret_int (by rw [n4_2, m0 _ _ hz2, m1 _ _ 1 hz2, g2, g3]; omega), q1, hbl.trans q2⟩
  have k8 : Hid (∀ W, Seg W0.heap.size W a b1 → Below W0.heap.size W0 W → Calls Tryd.prog 13 #[.pointer (some ⟨a, 0, none⟩), .int .u32 (((at_ : Int) + 1) % 4294967296)] W fun e w' => e = .returned (.int .u32 ((v : Int) / 256 % 65536)) ∧ Hid (Seg W0.heap.size w' a b1 ∧ Below W0.heap.size W0 w')) := fun W hS hbl => by
    have h := load2_any W0.heap.size a ((at_ + 1) % 4294967296) _ W hS hbl.size (by omega)
    exact h.mono fun e w' ⟨he, q1, q2⟩ => ⟨by rw [he]; exact ret_int (by rw [n4_2, m0 _ _ hz1, m1 _ _ 1 hz1, g1, g2]; omega), q1, hbl.trans q2⟩
  have k9 : Hid (∀ W, Seg W0.heap.size W a b1 → Below W0.heap.size W0 W → Calls Tryd.prog 23 #[.pointer (some ⟨a, 0, none⟩), .int .u32 (((at_ : Int) + 1) % 4294967296)] W fun e w' => e = .returned (.int .u32 ((v : Int) / 256 % 256)) ∧ Hid (Seg W0.heap.size w' a b1 ∧ Below W0.heap.size W0 w')) := fun W hS hbl => by
    have h := load1_any W0.heap.size a ((at_ + 1) % 4294967296) _ W hS hbl.size (by omega)
    exact h.mono fun e w' ⟨he, q1, q2⟩ => ⟨by rw [he]; exact ret_int (by rw [n4_1, m0 _ _ hz1, g1]), q1, hbl.trans q2⟩
  have k10 : Hid (∀ W, Seg W0.heap.size W a b1 → Below W0.heap.size W0 W → Calls Tryd.prog 23 #[.pointer (some ⟨a, 0, none⟩), .int .u32 (((at_ : Int) + 2) % 4294967296)] W fun e w' => e = .returned (.int .u32 ((v : Int) / 65536 % 256)) ∧ Hid (Seg W0.heap.size w' a b1 ∧ Below W0.heap.size W0 w')) := fun W hS hbl => by
    have h := load1_any W0.heap.size a ((at_ + 2) % 4294967296) _ W hS hbl.size (by omega)
    exact h.mono fun e w' ⟨he, q1, q2⟩ => ⟨by rw [he]; exact ret_int (by rw [n4_1, m0 _ _ hz2, g2]), q1, hbl.trans q2⟩
  have k11 : Hid (∀ W, Seg W0.heap.size W a b3 → Below W0.heap.size W0 W → Calls Tryd.prog 11 #[.pointer (some ⟨a, 0, none⟩), .int .u32 (at_)] W fun e w' => e = .returned (.int .u32 (((v : Int) + 1) % 65536 + ((v : Int) + 2) % 256 * 65536 + (v : Int) / 16777216 * 16777216)) ∧ Hid (Seg W0.heap.size w' a b3 ∧ Below W0.heap.size W0 w')) := fun W hS hbl => by
    have h := load4_any W0.heap.size a (at_) _ W hS hbl.size (by omega)
    exact h.mono fun e w' ⟨he, q1, q2⟩ => ⟨by rw [he]; exact ret_int (by rw [hb2]; omega), q1, hbl.trans q2⟩
  have e1 : ((v : Int) % 65536 + (v : Int) / 65536 * 65536) % 4294967296 = v := by omega
  have e2 : (v : Int) / 65536 * 65536 % 4294967296 = (v : Int) / 65536 * 65536 := by omega
  have e3 : (v : Int) / 65536 % 256 * 256 % 4294967296 = (v : Int) / 65536 % 256 * 256 := by omega
  have e4 : ((v : Int) / 256 % 256 + (v : Int) / 65536 % 256 * 256) % 4294967296 = (v : Int) / 256 % 65536 := by omega
  generalize hq6 : (v : Int) % 65536 = q6 at k6 e1
  generalize hq7 : (v : Int) / 65536 = q7 at k7 e1 e2
  generalize hq9 : (v : Int) / 256 % 256 = q9 at k9 e4
  generalize hq10 : (v : Int) / 65536 % 256 = q10 at k10 e3 e4
  generalize hq8 : (v : Int) / 256 % 65536 = q8 at k8 e4
  generalize hq11 : ((v : Int) + 1) % 65536 + ((v : Int) + 2) % 256 * 65536 + (v : Int) / 16777216 * 16777216 = q11 at k11
  have hne : (q11 != ((v : Int) + 1) % 65536 + ((v : Int) + 2) % 256 * 65536 + (v : Int) / 16777216 * 16777216) = false := by rw [hq11]; simp
  have HNE := hidS hne
  clear hne hq6 hq7 hq8 hq9 hq10 hq11
  have HWR : Hid (∀ n, n ≤ zs.length → n ≤ 4096 → ∀ W, Seg W0.heap.size W a b3 → Below W0.heap.size W0 W → Calls Tryd.prog 25 #[.pointer (some ⟨a, 0, none⟩), .int .u32 at_, .slice ao n cap] W fun e w' => e = .returned (.int .i64 0) ∧ Hid (Seg W0.heap.size w' a (wrL b3 at_ (zs.take n)) ∧ Below W0.heap.size W0 w')) := fun n hnz hn4 W hS hbl => by
    have hlt : (zs.take n).length = n := by rw [List.length_take]; omega
    have hR0 : Reads W ao zs W0.heap.size := ((HR.out.below HA0.out).mono (by rw [HB0.out]; omega)).below hbl
    have := writes_any W0.heap.size a at_ cap ao b3 (zs.take n) W hS hbl.size hat (by omega) (by omega) (fun z hz => HWF.out z (List.mem_of_mem_take hz)) (fun h0 => by
      obtain ⟨q, off, e, hq, hcl⟩ := hR0 (by omega)
      refine ⟨q, off, e, hq, fun j hj => (hcl j (by omega)).trans ?_⟩
      rw [hlt] at hj
      simp [hj])
    rw [hlt] at this
    exact this.mono fun e w' ⟨he, q1, q2⟩ => ⟨he, q1, hbl.trans q2⟩
  have HRD : Hid (∀ n, n ≤ zs.length → n ≤ 4096 → n ≤ bs.length → ∀ W, Seg W0.heap.size W a (wrL b3 at_ (zs.take n)) → Below W0.heap.size W0 W → Calls Tryd.prog 16 #[.pointer (some ⟨a, 0, none⟩), .int .u32 ag, .int .i64 n] W fun e w' => ∃ gw, e = .returned (.tuple #[.slice (some ⟨gw, 0, none⟩) n n, .int .i64 0]) ∧ Hid (Reads w' (some ⟨gw, 0, none⟩) (zs.take n) w'.heap.size ∧ Below W0.heap.size W0 w')) := fun n hnz hn4 hnb W hS hbl => by
    have hlt : (zs.take n).length = n := by rw [List.length_take]; omega
    refine (reads_any W0.heap.size a ag n _ W hS hbl.size hagl hn4).mono fun e w' ⟨gw, he, q0, _, q2⟩ => ⟨gw, he, ?_, hbl.trans q2⟩
    have e1 : rdL (wrL b3 at_ (zs.take n)) ag n = zs.take n := by
      rw [rdL_mod _ ag at_ n (by rw [wrL_len, hl3]; exact hagN)]
      have := rdL_wrL b3 (zs.take n) at_ (by omega)
      rw [hlt] at this
      exact this
    rw [e1] at q0
    exact q0
  have HSM : Hid (∀ n, n ≤ zs.length → n ≤ 4096 → ∀ gw W, Reads W (some ⟨gw, 0, none⟩) (zs.take n) W.heap.size → Below W0.heap.size W0 W → Calls Tryd.prog 26 #[.slice (some ⟨gw, 0, none⟩) n n, .slice ao n cap] W fun e w' => e = .returned (.bool true) ∧ Hid (Below W0.heap.size W0 w')) := fun n hnz hn4 gw W hq hbl => by
    have hlt : (zs.take n).length = n := by rw [List.length_take]; omega
    have hR0 : Reads W ao zs W0.heap.size := ((HR.out.below HA0.out).mono (by rw [HB0.out]; omega)).below hbl
    have := same_any (some ⟨gw, 0, none⟩) ao n cap (zs.take n) (zs.take n) W (by omega) hq (fun h0 => by
      obtain ⟨q, off, e, hq, hcl⟩ := hR0 (by omega)
      refine ⟨q, off, e, Nat.lt_of_lt_of_le hq hbl.size, fun j hj => (hcl j (by omega)).trans ?_⟩
      rw [hlt] at hj
      simp [hj])
    rw [hlt, decide_eq_true rfl] at this
    exact this.mono fun e w' ⟨he, m, hm⟩ => ⟨he, by rw [hm]; exact below_drewN hbl m⟩
  clear g0 g1 g2 g3 hl3 hlen3 hb2 m0 m1 hlen1 hz1 hz2 hz3 hagN
  rw [hag]
  have HV := hidS hv
  have HAT := hidS hat
  have HAG := hidS hagl
  have HPB := hidS hpb
  have HCC := hidS hc
  clear hag hv hat _hf hagl hpb hc hb h1 hBy d1 d2 d3 d4
  go_wp2_with (first
    | (go_at_call 22; with_reducible refine hSt.mono ?_; rintro e w4 ⟨rfl, HQ⟩)
    | (go_at_call 11; with_reducible refine (k1.out _ HQ.out.1 HQ.out.2).mono ?_; rintro e wq ⟨rfl, HQn⟩; replace HQ := HQn; clear HQn)
    | (go_at_call 13; with_reducible refine (k2.out _ HQ.out.1 HQ.out.2).mono ?_; rintro e wq ⟨rfl, HQn⟩; replace HQ := HQn; clear HQn)
    | (go_at_call 23; with_reducible refine (k3.out _ HQ.out.1 HQ.out.2).mono ?_; rintro e wq ⟨rfl, HQn⟩; replace HQ := HQn; clear HQn)
    | (go_at_call 23; with_reducible refine (k4.out _ HQ.out.1 HQ.out.2).mono ?_; rintro e wq ⟨rfl, HQn⟩; replace HQ := HQn; clear HQn)
    | (go_at_call 11; with_reducible refine (k5.out _ HQ.out.1 HQ.out.2).mono ?_; rintro e wq ⟨rfl, HQn⟩; replace HQ := HQn; clear HQn)
    | (go_at_call 13; with_reducible refine (k6.out _ HQ.out.1 HQ.out.2).mono ?_; rintro e wq ⟨rfl, HQn⟩; replace HQ := HQn; clear HQn)
    | (go_at_call 13; with_reducible refine (k7.out _ HQ.out.1 HQ.out.2).mono ?_; rintro e wq ⟨rfl, HQn⟩; replace HQ := HQn; clear HQn)
    | (go_at_call 13; with_reducible refine (k8.out _ HQ.out.1 HQ.out.2).mono ?_; rintro e wq ⟨rfl, HQn⟩; replace HQ := HQn; clear HQn)
    | (go_at_call 23; with_reducible refine (k9.out _ HQ.out.1 HQ.out.2).mono ?_; rintro e wq ⟨rfl, HQn⟩; replace HQ := HQn; clear HQn)
    | (go_at_call 23; with_reducible refine (k10.out _ HQ.out.1 HQ.out.2).mono ?_; rintro e wq ⟨rfl, HQn⟩; replace HQ := HQn; clear HQn)
    | (go_at_call 24; with_reducible refine (hs2.out _ HQ.out.1 HQ.out.2).mono ?_; rintro e wq ⟨rfl, HQn⟩; replace HQ := HQn; clear HQn)
    | (go_at_call 14; with_reducible refine (hs1.out _ HQ.out.1 HQ.out.2).mono ?_; rintro e wq ⟨rfl, HQn⟩; replace HQ := HQn; clear HQn)
    | fail)
  have hwl : wrap64 (bs.length : Int) = (bs.length : Int) := by have := HPB.out; unfold wrap64; omega
  by_cases hz : (bs.length : Int) < (zs.length : Int)
  · by_cases hz4 : (4096 : Int) < (bs.length : Int)
    · have hz5 : (4096 : Int) ≤ (cap : Int) := by have := HCC.out; omega
      have hW := HWR.out 4096 (by have := HPB.out; omega) (by omega)
      have hR := HRD.out 4096 (by have := HPB.out; omega) (by omega) (by have := HPB.out; omega)
      have hE := HSM.out 4096 (by have := HPB.out; omega) (by omega)
      rw [show ((4096 : Nat) : Int) = 4096 from rfl] at hR
      have hne := HNE.out
      have hne5 : (v : Int) / 16777216 * 16777216 % 4294967296 = (v : Int) / 16777216 * 16777216 := by have := HV.out; omega
      clear e1 e2 e3 e4 k1 k2 k3 k4 k5 k6 k7 k8 k9 k10 hs1 hs2
      have HW := hidS hW
      have HRR := hidS hR
      have HE := hidS hE
      clear hW hR hE HWR HRD HSM
      go_wp2_with (first
        | (go_at_call 11; with_reducible refine (k11.out _ HQ.out.1 HQ.out.2).mono ?_; rintro e wq ⟨rfl, HQn⟩; replace HQ := HQn; clear HQn; obtain ⟨y1, y2, y3, y4⟩ := XC.out _ HQ.out.2)
        | (go_at_call 25; with_reducible refine (HW.out _ HQ.out.1 HQ.out.2).mono ?_; rintro e w8 ⟨rfl, HQ8⟩)
        | (go_at_call 16; with_reducible refine (HRR.out _ HQ8.out.1 HQ8.out.2).mono ?_; rintro e w9 ⟨gw, rfl, HQ9⟩; obtain ⟨z1, z2, z3, z4⟩ := XC.out _ HQ9.out.2)
        | (go_at_call 26; with_reducible refine (HE.out _ _ HQ9.out.1 HQ9.out.2).mono ?_; rintro e w10 ⟨rfl, HQ10⟩)
        | fail)
      go_ret
      exact ⟨rfl, HA0.out.trans (HQ10.out.mono (by rw [HB0.out]; omega))⟩
    · have hz5 : (bs.length : Int) ≤ (cap : Int) := by have := HCC.out; omega
      have hW := HWR.out bs.length (by have := HPB.out; omega) (by omega)
      have hR := HRD.out bs.length (by have := HPB.out; omega) (by omega) (by have := HPB.out; omega)
      have hE := HSM.out bs.length (by have := HPB.out; omega) (by omega)
      have hne := HNE.out
      have hne5 : (v : Int) / 16777216 * 16777216 % 4294967296 = (v : Int) / 16777216 * 16777216 := by have := HV.out; omega
      clear e1 e2 e3 e4 k1 k2 k3 k4 k5 k6 k7 k8 k9 k10 hs1 hs2
      have HW := hidS hW
      have HRR := hidS hR
      have HE := hidS hE
      clear hW hR hE HWR HRD HSM
      go_wp2_with (first
        | (go_at_call 11; with_reducible refine (k11.out _ HQ.out.1 HQ.out.2).mono ?_; rintro e wq ⟨rfl, HQn⟩; replace HQ := HQn; clear HQn; obtain ⟨y1, y2, y3, y4⟩ := XC.out _ HQ.out.2)
        | (go_at_call 25; with_reducible refine (HW.out _ HQ.out.1 HQ.out.2).mono ?_; rintro e w8 ⟨rfl, HQ8⟩)
        | (go_at_call 16; with_reducible refine (HRR.out _ HQ8.out.1 HQ8.out.2).mono ?_; rintro e w9 ⟨gw, rfl, HQ9⟩; obtain ⟨z1, z2, z3, z4⟩ := XC.out _ HQ9.out.2)
        | (go_at_call 26; with_reducible refine (HE.out _ _ HQ9.out.1 HQ9.out.2).mono ?_; rintro e w10 ⟨rfl, HQ10⟩)
        | fail)
      go_ret
      exact ⟨rfl, HA0.out.trans (HQ10.out.mono (by rw [HB0.out]; omega))⟩
  · by_cases hz4 : (4096 : Int) < (zs.length : Int)
    · have hz5 : (4096 : Int) ≤ (cap : Int) := by have := HCC.out; omega
      have hW := HWR.out 4096 (by have := HPB.out; omega) (by omega)
      have hR := HRD.out 4096 (by have := HPB.out; omega) (by omega) (by have := HPB.out; omega)
      have hE := HSM.out 4096 (by have := HPB.out; omega) (by omega)
      rw [show ((4096 : Nat) : Int) = 4096 from rfl] at hR
      have hne := HNE.out
      have hne5 : (v : Int) / 16777216 * 16777216 % 4294967296 = (v : Int) / 16777216 * 16777216 := by have := HV.out; omega
      clear e1 e2 e3 e4 k1 k2 k3 k4 k5 k6 k7 k8 k9 k10 hs1 hs2
      have HW := hidS hW
      have HRR := hidS hR
      have HE := hidS hE
      clear hW hR hE HWR HRD HSM
      go_wp2_with (first
        | (go_at_call 11; with_reducible refine (k11.out _ HQ.out.1 HQ.out.2).mono ?_; rintro e wq ⟨rfl, HQn⟩; replace HQ := HQn; clear HQn; obtain ⟨y1, y2, y3, y4⟩ := XC.out _ HQ.out.2)
        | (go_at_call 25; with_reducible refine (HW.out _ HQ.out.1 HQ.out.2).mono ?_; rintro e w8 ⟨rfl, HQ8⟩)
        | (go_at_call 16; with_reducible refine (HRR.out _ HQ8.out.1 HQ8.out.2).mono ?_; rintro e w9 ⟨gw, rfl, HQ9⟩; obtain ⟨z1, z2, z3, z4⟩ := XC.out _ HQ9.out.2)
        | (go_at_call 26; with_reducible refine (HE.out _ _ HQ9.out.1 HQ9.out.2).mono ?_; rintro e w10 ⟨rfl, HQ10⟩)
        | fail)
      go_ret
      exact ⟨rfl, HA0.out.trans (HQ10.out.mono (by rw [HB0.out]; omega))⟩
    · have hz5 : (zs.length : Int) ≤ (cap : Int) := by have := HCC.out; omega
      have hW := HWR.out zs.length (by have := HPB.out; omega) (by omega)
      have hR := HRD.out zs.length (by have := HPB.out; omega) (by omega) (by have := HPB.out; omega)
      have hE := HSM.out zs.length (by have := HPB.out; omega) (by omega)
      have hne := HNE.out
      have hne5 : (v : Int) / 16777216 * 16777216 % 4294967296 = (v : Int) / 16777216 * 16777216 := by have := HV.out; omega
      clear e1 e2 e3 e4 k1 k2 k3 k4 k5 k6 k7 k8 k9 k10 hs1 hs2
      have HW := hidS hW
      have HRR := hidS hR
      have HE := hidS hE
      clear hW hR hE HWR HRD HSM
      go_wp2_with (first
        | (go_at_call 11; with_reducible refine (k11.out _ HQ.out.1 HQ.out.2).mono ?_; rintro e wq ⟨rfl, HQn⟩; replace HQ := HQn; clear HQn; obtain ⟨y1, y2, y3, y4⟩ := XC.out _ HQ.out.2)
        | (go_at_call 25; with_reducible refine (HW.out _ HQ.out.1 HQ.out.2).mono ?_; rintro e w8 ⟨rfl, HQ8⟩)
        | (go_at_call 16; with_reducible refine (HRR.out _ HQ8.out.1 HQ8.out.2).mono ?_; rintro e w9 ⟨gw, rfl, HQ9⟩; obtain ⟨z1, z2, z3, z4⟩ := XC.out _ HQ9.out.2)
        | (go_at_call 26; with_reducible refine (HE.out _ _ HQ9.out.1 HQ9.out.2).mono ?_; rintro e w10 ⟨rfl, HQ10⟩)
        | fail)
      go_ret
      exact ⟨rfl, HA0.out.trans (HQ10.out.mono (by rw [HB0.out]; omega))⟩
end Go.Proofs.YtpohapehkfpcaaaDoor
