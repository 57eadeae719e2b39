import Derived.Test.YtjggbdlmghembaaGreatCIEnc
import Derived.Test.YtjggbdlmghembaaGreatCDWi
import Derived.ProofKit
import Derived.OpenShut
import Derived.SizedLaws
import Derived.JoinedCond
import Derived.Test.YtjggbdlmghembaaGreatCIRi5
import Derived.Deep.SlicePairs
namespace Go.Proofs.YtjggbdlmghembaaGreat
open Go.RowKit Go.WideShapes
set_option maxRecDepth 100000

theorem crd_left {w : World} {ao : Option Addr} {A Z : List (Nat × Nat)} {B : Nat} (h : CRd w ao (A ++ Z) B) : CRd w ao A B := by
  intro hl
  obtain ⟨b, off, e, hlt, hc⟩ := h (by rw [List.length_append]; omega)
  refine ⟨b, off, e, hlt, fun j hj => ?_⟩
  have := hc j (by rw [List.length_append]; omega)
  rw [List.getD_eq_getElem?_getD, List.getElem?_append_left hj, ← List.getD_eq_getElem?_getD] at this
  exact this
theorem own_g {w : World} {B : Nat} {v : Value} {L : List (Nat × Nat)} (h : w.ownsRow B 34 2 v L.length (cv L)) (h0 : 0 < L.length) : ∃ g c, v = .slice (some ⟨g, 0, none⟩) L.length c ∧ L.length ≤ c ∧ B ≤ g ∧ g < w.heap.size ∧ CRd w (some ⟨g, 0, none⟩) L w.heap.size := by
  rcases h.2 with ⟨rfl, h1⟩ | ⟨g, cap, cur, rfl, hh⟩
  · omega
  · obtain ⟨q1, q2⟩ := h.lt g rfl
    obtain ⟨ao, c, e, hc, hr⟩ := own_crdD h
    cases e
    exact ⟨g, cap, rfl, hc, q1, q2, hr⟩
theorem take_set {M T : List (Nat × Nat)} {k : Nat} (h : M.take k = T.take k) (hm : k < M.length) (ht : k < T.length) : (M.set k (T.getD k (0, 0))).take (k + 1) = T.take (k + 1) := by
  rw [takeP _ _ (by rw [List.length_set]; exact hm), takeP _ _ ht, List.take_set_of_le (Nat.le_refl _), h, List.getD_eq_getElem?_getD (l := M.set k _), List.getElem?_set_self hm]
  rfl
set_option maxHeartbeats 4000000 in
theorem flongest_law (ao : Option Addr) (cap a e : Nat) (L : List (Nat × Nat)) (w : World) (hn : L.length ≤ 17592186044352) (ha : a < 4294967296) (he : e < 4294967296) (hwf : Wfc L) (hr : CRd w ao L w.heap.size) :
    Calls Tryz.prog 3 #[.slice ao L.length cap, .int .u32 (a : Int), .int .u32 (e : Int)] w fun x w' => x = .returned (.bool true) ∧ Below w.heap.size w w' := by
  have HR := dhid hr
  clear hr
  go_enter Tryz.func3, Tryz.ntmps3
  go_wp2_with fail
  refine (lentc_any ao cap L w hn HR.out).mono ?_
  rintro x w1 ⟨v, rfl, own1, B1⟩
  have hlen : (L ++ mksC 64).length = L.length + 64 := by rw [List.length_append, mksC_len]
  rw [← hlen] at own1
  obtain ⟨g, c, rfl, hlc, hg1, hg2, rd1⟩ := own_g own1 (by rw [hlen]; omega)
  rw [hlen] at own1 hlc ⊢
  have hcI : (L.length : Int) ≤ (c : Int) := by omega
  have z1 := B1.size
  replace own1 := dhid own1
  replace B1 := dhid B1
  replace rd1 := dhid rd1
  have F1 := Longest_any (some ⟨g, 0, none⟩) c a e L w1 (by omega) (by omega) ha he hwf (crd_left rd1.out)
  have F2 := dhid (fun w' (hb : Below w.heap.size w w') => rLongest_any ao cap a e L w' (by omega) ha he hwf ((HR.out.below hb).mono hb.size))
  generalize lnE L a e = er at F1 F2
  generalize lnP L a e = q at F1 F2
  obtain ⟨pa, pl, pk, pv⟩ := q
  simp only [pcA] at F1 F2
  go_wp2_with fail
  refine F1.mono ?_
  rintro x w2 ⟨rfl, b2⟩
  have B2 := dhid (B1.out.trans (b2.mono z1))
  have z2 := b2.size
  have F2' := dhid (fun o => F2.out (w2.alloc o) (B2.out.alloc B2.out.size o))
  have K2 := dhid b2
  clear F1 F2 b2
  go_wp2_with fail
  refine (F2'.out _).mono ?_
  rintro x w3 ⟨rfl, b3⟩
  have p3 := (b3.block w2.heap.size (by simp)).trans (heap_alloc_new w2 _)
  have e0 := obj_cell p3 0
  have e1 := obj_cell p3 1
  have e2 := obj_cell p3 2
  have e3 := obj_cell p3 3
  simp only [List.getElem?_toArray, List.getElem?_cons_zero, List.getElem?_cons_succ] at e0 e1 e2 e3
  have hl3 : w2.heap.size < w3.heap.size := (Array.getElem?_eq_some_iff.1 p3).1
  have K3 := dhid (K2.out.trans ((((Below.refl _ w2).alloc (Nat.le_refl _) _).trans (b3.mono (by simp))).mono z2))
  clear F2' K2 b3 p3
  have HK := dhid (fun o => keptc_any ao cap L g c (w3.alloc o) hn ((HR.out.below ((B1.out.trans (K3.out.mono z1)).alloc (Nat.le_trans z1 K3.out.size) o)).mono (by have := K3.out.size; simp; omega)) (((rd1.out.below (K3.out.alloc K3.out.size o)).mono (by have := K3.out.size; simp; omega))))
  go_wp2_with fail
  refine (HK.out _).mono ?_
  rintro x w4 ⟨rfl, b4⟩
  have K4 := dhid ((K3.out.alloc K3.out.size _).trans (b4.mono (by have := K3.out.size; simp; omega)))
  have B4 := dhid (B1.out.trans (K4.out.mono z1))
  have z4 := K4.out.size
  have FT := turn_any ao cap L w4 hn hwf ((HR.out.below B4.out).mono B4.out.size)
  clear HK K3 b4 e0 e1 e2 e3 B2
  go_wp2_with fail
  refine FT.mono ?_
  rintro x w5 ⟨v5, rfl, own5, b5⟩
  have own5L := dhid own5
  rw [← tnL_len L] at own5
  obtain ⟨a5, c5, rfl, hc5, rd5⟩ := own_crdD own5
  have lt5 := own5.lt
  rw [tnL_len] at own5 hc5 ⊢
  have K5 := dhid (K4.out.trans (b5.mono z4))
  have B5 := dhid (B4.out.trans (b5.mono B4.out.size))
  have z5 := b5.size
  have hT := dhid (tnL_wf hwf)
  have own1' : Hid (w5.ownsRow w.heap.size 34 2 (.slice (some ⟨g, 0, none⟩) (L.length + 64) c) (L.length + 64) (cv (L ++ mksC 64))) := dhid ((Kp.ofBelow (S := fun _ => False) K5.out).own own1.out (fun _ _ e => e))
  replace rd5 := dhid rd5
  replace lt5 := dhid lt5
  have hgw : g < w4.heap.size := by omega
  clear own5 own1 rd1 FT b5 K4 K5 own5L
  generalize hTL : tnL L = T at *
  have hTl : T.length = L.length := by rw [← hTL, tnL_len]
  go_wp2_with fail
  go_loopw [13] (fun v wr => ∃ (k : Nat) (N : List (Nat × Nat)), v = .int .i64 k ∧ k ≤ L.length ∧ N.length = L.length + 64 ∧ N.take k = T.take k ∧ wr.ownsRow w.heap.size 34 2 (.slice (some ⟨g, 0, none⟩) (L.length + 64) c) (L.length + 64) (cv N) ∧ w5.grownBy wr (some g) ∧ wr.heap.size = w5.heap.size)
    (fun v _ => L.length - (intOf v).toNat)
  case atStart => exact ⟨0, L ++ mksC 64, rfl, Nat.zero_le _, hlen, rfl, own1'.out, World.grownBy.refl _ _, rfl⟩
  case round =>
    obtain ⟨k, N, rfl, hk, hN, hNT, hown, hgr, hsz⟩ := hrel
    by_cases hlt : k < L.length
    · have hltI : (k : Int) < (L.length : Int) := by omega
      have hltJ : (k : Int) < (L.length : Int) + 64 := by omega
      obtain ⟨b5, o5, rfl, hb5, hc⟩ := rd5.out (by omega)
      obtain ⟨x0, x1⟩ := hc k (by omega)
      obtain ⟨q1, q2⟩ := lt5.out b5 rfl
      have y0 : wr.cell? ⟨b5, o5 + k * 2, none⟩ = _ := (World.cell?_of_block (w := w5) (w' := wr) (a := ⟨b5, o5 + k * 2, none⟩) (hgr.block b5 hb5 (fun e => by cases e; omega))).trans x0
      have y1 : wr.cell? ⟨b5, o5 + k * 2 + 1, none⟩ = _ := (World.cell?_of_block (w := w5) (w' := wr) (a := ⟨b5, o5 + k * 2 + 1, none⟩) (hgr.block b5 hb5 (fun e => by cases e; omega))).trans x1
      have HTS := dhid (take_set hNT (by omega) (show k < T.length by omega))
      generalize T.getD k (0, 0) = y at *
      obtain ⟨op, arg⟩ := y
      simp only at y0 y1
      obtain ⟨e1, e2⟩ := cvD_get N k (by omega)
      have r1 := hown.cells (g := g) rfl _ _ e1
      have r2 := hown.cells (g := g) rfl _ _ e2
      rw [Go.WideShapes.add_plain] at r1 r2
      simp only [Nat.zero_add] at r1 r2
      have f1 := hown.frozenAt (k * 2)
      have f2 := hown.frozenAt (k * 2 + 1)
      have HA := dhid (hown.stored (k * 2) (.int .u8 (op : Int)))
      have HB := dhid (HA.out.1.stored (k * 2 + 1) (.int .u32 (arg : Int)))
      have HG := dhid hgr
      have HZ := dhid hsz
      have HL := dhid hN
      clear hown hgr hsz hN hNT hc x0 x1 e1 e2
      go_wp2_with fail
      go_roundw
      case rel =>
        refine ⟨k + 1, N.set k (op, arg), by go_num, by omega, by simpa using HL.out, HTS.out, ?_, grown_trans (grown_trans HG.out HA.out.2) HB.out.2, by rw [World.size_setCell, World.size_setCell]; exact HZ.out⟩
        rw [cv_set]
        exact HB.out.1
      case measure => simp [intOf]; omega
    · have hltI : ¬ (k : Int) < (L.length : Int) := by omega
      have hNk : N.take L.length = T := by rw [show L.length = k by omega, hNT, show k = T.length by omega, List.take_length]
      have hNs : N = T ++ N.drop L.length := by rw [← hNk, List.take_append_drop]
      have hw5 : Below w.heap.size w wr := B5.out.trans (Kp.below (S := fun k => k = g) (Kp.ofGrown hgr (fun i hi _ => by cases hi; rfl)) (by omega) (fun i hi => by omega))
      have hrow := hown
      rw [← hN] at hrow
      obtain ⟨g', c', eg, -, -, -, rdN⟩ := own_g hrow (by omega)
      cases eg
      rw [hNs] at rdN
      have rdT := dhid (crd_left rdN)
      have rdX : Hid (CRd wr a5 T wr.heap.size) := dhid (fun hl => by
        obtain ⟨b5, o5, e5, hb5, hc⟩ := rd5.out hl
        subst e5
        obtain ⟨q1, q2⟩ := lt5.out b5 rfl
        have hbk := hgr.block b5 hb5 (fun e => by cases e; omega)
        exact ⟨b5, o5, rfl, by omega, fun j hj => ⟨(World.cell?_of_block (w := w5) (w' := wr) (a := ⟨b5, o5 + j * 2, none⟩) hbk).trans (hc j hj).1, (World.cell?_of_block (w := w5) (w' := wr) (a := ⟨b5, o5 + j * 2 + 1, none⟩) hbk).trans (hc j hj).2⟩⟩)
      replace hw5 := dhid hw5
      have zr := hw5.out.size
      have G1 := Longest_any (some ⟨g, 0, none⟩) c a e T wr (by omega) (by omega) ha he hT.out rdT.out
      have G2 := dhid (fun w' (hb : Below wr.heap.size wr w') => rLongest_any a5 c5 a e T w' (by omega) ha he hT.out ((rdX.out.below hb).mono hb.size))
      rw [hTl] at G1 G2
      generalize lnE T a e = er at G1 G2
      generalize lnP T a e = q at G1 G2
      obtain ⟨pa, pl, pk, pv⟩ := q
      simp only [pcA] at G1 G2
      clear hown hgr hsz hN hNT hNk hNs hrow rdN own1' rdT rdX rd5 lt5
      go_wp2_with fail
      refine G1.mono ?_
      rintro x w6 ⟨rfl, b6⟩
      have G2' := dhid (fun o => G2.out (w6.alloc o) (b6.alloc b6.size o))
      have B6 := dhid (hw5.out.trans (b6.mono zr))
      clear G1 G2 b6
      go_wp2_with fail
      refine (G2'.out _).mono ?_
      rintro x w7 ⟨rfl, b7⟩
      have p7 := (b7.block w6.heap.size (by simp)).trans (heap_alloc_new w6 _)
      have e0 := obj_cell p7 0
      have e1 := obj_cell p7 1
      have e2 := obj_cell p7 2
      have e3 := obj_cell p7 3
      simp only [List.getElem?_toArray, List.getElem?_cons_zero, List.getElem?_cons_succ] at e0 e1 e2 e3
      have hl7 : w6.heap.size < w7.heap.size := (Array.getElem?_eq_some_iff.1 p7).1
      have B7 := dhid ((B6.out.alloc B6.out.size _).trans (b7.mono (by have := B6.out.size; simp; omega)))
      have HAW := dhid (fun w' => fawake_any w')
      clear G2' p7 b7
      go_wp2_with (go_at_call 9; refine (HAW.out _).mono ?_; rintro x w8 ⟨rfl, b8⟩; have B8 := dhid ((B7.out.alloc B7.out.size _).trans (b8.mono (by have := B7.out.size; simp; omega))))
      go_ret
      exact ⟨rfl, B8.out⟩
end Go.Proofs.YtjggbdlmghembaaGreat
namespace Go.Proofs.YtjggbdlmghembaaGreat
open Go.ChangeShapes Go.WideShapes Go.ChangeAt Go.RowKit

theorem Tryz.own : ownKnob Tryz.prog.godebug = none := by kernel_rfl
theorem Tryz.laidOut : laidOutB Tryz.prog = true := by kernel_rfl
theorem Tryz.cells5 : Tryz.prog.cellsOf 5 = 1 := by kernel_rfl
theorem Tryz.bytes5 : Tryz.prog.bytesOf 5 = 1 := by kernel_rfl
theorem int_wf {z : Int} (h : (Lit.int .i64 z).wf = true) : -9223372036854775808 ≤ z ∧ z ≤ 9223372036854775807 := by
  have h1 : IntKind.i64.min = -9223372036854775808 := rfl
  have h2 : IntKind.i64.max = 9223372036854775807 := rfl
  simp only [Lit.wf, Bool.and_eq_true, decide_eq_true_eq] at h
  omega
theorem byte_wf {z : Int} (h : (Lit.int .u8 z).wf = true) : 0 ≤ z ∧ z ≤ 255 := by
  simpa [Lit.wf, IntKind.min, IntKind.max, IntKind.signed, IntKind.bits] using h
theorem bulk_lits {H : Type} (k : IntKind) (zs : List Int) : Rows.uptoBulkAll (lits (H := H) k zs) = zs.length := by
  induction zs with
  | nil => rfl
  | cons z zs ih =>
    have e : lits (H := H) k (z :: zs) = .lit (.int k z) :: lits k zs := rfl
    rw [e]
    simp only [Rows.uptoBulkAll, Rows.uptoBulk, ih, List.length_cons]
    omega

theorem quad_wf {z : Int} (h : (Lit.int .u64 z).wf = true) : 0 ≤ z ∧ z < 18446744073709551616 := by
  have h1 : IntKind.u64.min = 0 := rfl
  have h2 : IntKind.u64.max = 18446744073709551615 := rfl
  simp only [Lit.wf, Bool.and_eq_true, decide_eq_true_eq] at h
  omega
theorem word_wf {z : Int} (h : (Lit.int .u32 z).wf = true) : 0 ≤ z ∧ z ≤ 4294967295 := by
  simpa [Lit.wf, IntKind.min, IntKind.max, IntKind.signed, IntKind.bits] using h
theorem weightsAll_mem {H : Type} {P : Program} {e : TypeId} : ∀ {l : List (DataW H)} {d : DataW H}, d ∈ l → ∀ n ∈ d.weights P e, n ∈ DataW.weightsAll P e l
  | d' :: r, d, hd, n, hn => by
    simp only [DataW.weightsAll, List.mem_append]
    rcases List.mem_cons.1 hd with rfl | h
    · exact Or.inl hn
    · exact Or.inr (weightsAll_mem h n hn)
theorem lits_len {H : Type} (k : IntKind) (zs : List Int) : (lits (H := H) k zs).length = zs.length := by simp [lits]
end Go.Proofs.YtjggbdlmghembaaGreat
namespace Go.Proofs.YtjggbdlmghembaaGreat
open Go.ChangeShapes Go.WideShapes Go.ChangeAt Go.RowKit

theorem Tryz.cellsI2 : Tryz.prog.cellsOf 34 = 2 := by kernel_rfl
theorem Tryz.cellsO1 : Tryz.prog.cellsOf 32 = 1 := by kernel_rfl
theorem Tryz.cellsD1 : Tryz.prog.cellsOf 23 = 1 := by kernel_rfl
theorem Tryz.bytesI : Tryz.prog.bytesOf 34 = 8 := by kernel_rfl
theorem bulk_mem {H : Type} : ∀ {l : List (DataW H)} {d : DataW H}, d ∈ l → Rows.uptoBulk d ≤ Rows.uptoBulkAll l
  | d' :: r, d, hd => by
    simp only [Rows.uptoBulkAll]
    rcases List.mem_cons.1 hd with rfl | h
    · omega
    · have := bulk_mem h; omega
theorem bulk_len {H : Type} : ∀ (l : List (DataW H)), (∀ d ∈ l, 1 ≤ Rows.uptoBulk d) → l.length ≤ Rows.uptoBulkAll l
  | [], _ => by simp [Rows.uptoBulkAll]
  | d :: r, h => by
    have h1 := h d (by simp)
    have h2 := bulk_len r (fun x hx => h x (by simp [hx]))
    simp only [Rows.uptoBulkAll, List.length_cons]
    omega
theorem code_open {H : Type} {enc : TypeId × Value → H} {W : World} {a0 : Option Addr} {len cap : Nat} {d : DataW H} {p : List MemPlace}
    (h : DataW.Trod enc Tryz.prog W 0 (fun _ => true) true 22 (.slice a0 len cap) d p) (hlt : ∀ x ∈ p, x.block < W.heap.size) :
    ∃ L : List (Nat × Nat), L.length = len ∧ Wfc L ∧ CRd W a0 L W.heap.size ∧ (d = .nil ∧ L = [] ∨ ∃ l sp, d = .slice l sp ∧ l.length = L.length ∧ ∀ x ∈ l, 1 ≤ Rows.uptoBulk x) := by
  obtain ⟨fuel, hf⟩ := h
  rcases Go.Deep.open_slice_pairs Tryz.underlying22 Tryz.underlying34 Tryz.cellsI2 rfl rfl Tryz.cellsO1 Tryz.cellsD1 hf with ⟨hcs, hx⟩ | ⟨a, len', cap', m, n, V0, V1, D0, D1, P0, P1, hcs, _, hl, hm, hz, hx, hcell⟩
  · simp only [Prod.mk.injEq] at hx
    simp [Value.cells] at hcs
    obtain ⟨rfl, rfl, rfl⟩ := hcs
    exact ⟨[], rfl, fun p hp => by simp at hp, fun hp => by simp at hp, .inl ⟨hx.1, rfl⟩⟩
  · simp only [Prod.mk.injEq] at hx
    obtain ⟨rfl, rfl⟩ := hx
    simp [Value.cells] at hcs
    obtain ⟨rfl, rfl, rfl⟩ := hcs
    simp only [if_true] at hz
    subst hz
    have each : ∀ i, i < len → ∃ q : Nat × Nat, V0 i = .int .u8 q.1 ∧ V1 i = .int .u32 q.2 ∧ q.1 < 256 ∧ q.2 < 4294967296 := by
      intro i hi
      obtain ⟨_, _, g0, g1⟩ := hcell i (by omega)
      obtain ⟨s, e0, _, w0⟩ := DataW.trod_int Tryz.underlying32 g0
      obtain ⟨u, e1, _, w1⟩ := DataW.trod_int Tryz.underlying23 g1
      simp at e0 e1
      have h0 := byte_wf w0
      have h1 := word_wf w1
      exact ⟨(s.toNat, u.toNat), by rw [e0]; simp only []; rw [Int.toNat_of_nonneg h0.1], by rw [e1]; simp only []; rw [Int.toNat_of_nonneg h1.1], by simp only []; omega, by simp only []; omega⟩
    obtain ⟨f, hfx⟩ : ∃ f : Nat → Nat × Nat, ∀ i, i < len → V0 i = .int .u8 (f i).1 ∧ V1 i = .int .u32 (f i).2 ∧ (f i).1 < 256 ∧ (f i).2 < 4294967296 :=
      ⟨fun i => if hi : i < len then (each i hi).choose else (0, 0), fun i hi => by simp only [hi, dite_true]; exact (each i hi).choose_spec⟩
    have hgd : ∀ j, j < len → ((List.range len).map f).getD j (0, 0) = f j := fun j hj => by simp [hj]
    refine ⟨(List.range len).map f, by simp, ?_, ?_, .inr ⟨_, _, rfl, by simp, ?_⟩⟩
    · intro p hp
      obtain ⟨i, hi, rfl⟩ := List.mem_map.1 hp
      exact (hfx i (List.mem_range.1 hi)).2.2
    · intro hpos
      simp at hpos
      obtain ⟨b, off, spot⟩ := a
      have hspot : spot = none := by simpa [Addr.add] using World.cell?_spot (hcell 0 (by omega)).1
      subst hspot
      have hbW : b < W.heap.size := hlt (.cell b off) (List.mem_append_left _ (MemPlace.mem_row.2 ⟨0, by omega, by simp⟩))
      refine ⟨b, off, rfl, hbW, fun j hj => ?_⟩
      simp at hj
      obtain ⟨c0, c1, _, _⟩ := hcell j (by omega)
      obtain ⟨e0, e1, _, _⟩ := hfx j hj
      rw [add_plain] at c0 c1
      rw [hgd j hj]
      exact ⟨by rw [c0, e0], by rw [Nat.add_assoc, c1, e1]⟩
    · intro x hx
      obtain ⟨i, _, rfl⟩ := List.mem_map.1 hx
      simp only [Rows.uptoBulk, Rows.uptoBulkAll]
      omega
end Go.Proofs.YtjggbdlmghembaaGreat
namespace Go.Proofs.YtjggbdlmghembaaGreat
open Go.ChangeShapes Go.WideShapes Go.ChangeAt Go.RowKit

set_option maxRecDepth 100000 in
theorem foldLongest_lifted (os : Os) (started : os.Started) (H : Type) (enc : TypeId × Value → H) :
    ReturnsInHanded {} Tryz.checked os 3 .any (Rows.foldLongestSpec.pre6 enc Tryz.prog Tryz.f3 Rows.foldLongestRow.domain false) (Rows.foldLongestSpec.post enc Tryz.prog Tryz.f3 false true false false) := by
  refine returnsInHanded_of_change_sized (C := Tryz.checked) Tryz.own started (by kernel_rfl) Tryz.func3
    (ChangeSpec.witness6 (enc := enc) (C := Tryz.checked) false ⟨#[], #[.slice none 0 0, .int .u32 0, .int .u32 0], []⟩ 8 (by kernel_rfl) (by kernel_rfl) (by kernel_rfl) (by kernel_rfl)) ?_
  intro W base args ds gs before hval0 hW _ hsz0 _
  have hsz : (DataW.weightsEach Tryz.prog (Tryz.f3.params.toList ++ Rows.foldLongestSpec.plain.varTypes Tryz.prog) (ds ++ gs)).all (· ≤ reachBytes) = true := hsz0
  clear hsz0
  have hval : ∀ (j : Nat) t v, Tryz.f3.params[j]? = some t → args[j]? = some v → Value.okWide Tryz.prog W .any base t v := hval0
  have hW' := hW
  obtain ⟨p, q, hA0, hV, rfl, hfz, hnd⟩ := hW
  have hA : DataW.TrodAll enc Tryz.prog W 0 (fun _ => true) true Tryz.f3.params.toList args.toList ds p := hA0
  rw [Tryz.params3] at hA hval hsz
  obtain ⟨v0, vs0, d0, ds0, p0, q0, hargs, rfl, rfl, h0, r0⟩ := trodAll_cons hA
  obtain ⟨v1, vs1, d1, ds1, p1, q1, rfl, rfl, rfl, h1, r1⟩ := trodAll_cons r0
  obtain ⟨v2, vs2, d2, ds2, p2, q2, rfl, rfl, rfl, h2, r2⟩ := trodAll_cons r1
  obtain ⟨rfl, rfl, rfl⟩ := trodAll_nil r2
  obtain rfl : args = #[v0, v1, v2] := by cases args; simp_all
  obtain ⟨rfl, rfl⟩ := trodVars_none hV
  obtain ⟨a0, len0, cap0, rfl⟩ := okWide_slice Tryz.underlying22 (hval 0 22 v0 rfl rfl)
  obtain ⟨a1, rfl, rfl, rfl, w1⟩ := open_int Tryz.underlying23 (hval 1 23 v1 rfl rfl) h1
  obtain ⟨a2, rfl, rfl, rfl, w2⟩ := open_int Tryz.underlying23 (hval 2 23 v2 rfl rfl) h2
  clear hA0 hval0
  simp only [List.append_nil] at hW' hsz
  have hlt0 : ∀ x ∈ p0, x.block < W.heap.size := fun x hx => by simpa using hW'.lt x (by simp [hx])
  obtain ⟨zs0, rfl, hwf0, hr0, hd0⟩ := code_open h0 hlt0
  have hs0 : zs0.length * 8 ≤ 140737488351232 := by
    rcases hd0 with ⟨_, rfl⟩ | ⟨l, sp, rfl, hl, _⟩
    · simp
    · have := sized_slice hsz (j := 0) (t := 22) rfl rfl Tryz.underlying22
      rw [Tryz.bytesI] at this
      simp only [reachBytes] at this
      omega
  obtain ⟨n1, rfl⟩ : ∃ n : Nat, a1 = (n : Int) := ⟨a1.toNat, by have := word_wf w1; omega⟩
  obtain ⟨n2, rfl⟩ : ∃ n : Nat, a2 = (n : Int) := ⟨a2.toNat, by have := word_wf w2; omega⟩
  have hn1 : n1 < 4294967296 := by have := word_wf w1; omega
  have hn2 : n2 < 4294967296 := by have := word_wf w2; omega
  refine (flongest_law a0 cap0 n1 n2 zs0 W (by omega) hn1 hn2 hwf0 hr0).mono fun e W' ⟨he, hnx⟩ => ?_
  subst he
  have hback0 : DataW.Trod enc Tryz.prog W' 0 (fun b => decide (b < W.heap.size)) true 22 (.slice a0 zs0.length cap0) d0 p0 :=
    Below.trod Tryz.laidOut (by kernel_rfl) (of_decide_eq_true (by kernel_rfl)) h0 hnx hlt0
  refine ⟨_, rfl, _, _, _, [], p0 ++ ([] ++ ([] ++ ([]))), [], hW', ?_, ?_, rfl, hnx.frame _, fun h => by cases h⟩
  · exact trodAll_cons_mk (shut_bool Tryz.underlying4 _) trodAll_mk0
  · exact trodAll_cons_mk hback0 (trodAll_cons_mk (shut_int Tryz.underlying23 w1) (trodAll_cons_mk (shut_int Tryz.underlying23 w2) (trodAll_mk0)))

theorem foldLongest_holds : Rows.FoldLongestSaid :=
  OpenClaim.holds_of_wide 3 Tryz.f3 rfl rfl rfl rfl rfl rfl rfl ⟨rfl, rfl, rfl, rfl, rfl⟩ rfl rfl rfl rfl rfl (by kernel_rfl) Tryz.func3 (by kernel_rfl)
    (of_decide_eq_true (by kernel_rfl)) (by unfold Func.isWrapper; first | (rw [if_pos (by decide +kernel)]; kernel_rfl) | (rw [if_neg (by decide +kernel)]; exact ⟨rfl, rfl⟩))
    (fun os started H enc _ => foldLongest_lifted os started H enc)
end Go.Proofs.YtjggbdlmghembaaGreat
