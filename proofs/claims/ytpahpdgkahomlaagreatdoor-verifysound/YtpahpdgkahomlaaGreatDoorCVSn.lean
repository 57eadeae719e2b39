import Derived.Test.YtpahpdgkahomlaaGreatDoorCVSm
import Derived.Test.YtpahpdgkahomlaaGreatDoorVSo1
import Derived.Test.YtpahpdgkahomlaaGreatDoorVSo2
import Derived.Test.YtpahpdgkahomlaaGreatDoorVSo3
import Derived.Test.YtpahpdgkahomlaaGreatDoorVSo4
import Derived.Test.YtpahpdgkahomlaaGreatDoorVSo5
import Derived.Test.YtpahpdgkahomlaaGreatDoorVSo6
import Derived.Test.YtpahpdgkahomlaaGreatDoorVSo7
import Derived.Test.YtpahpdgkahomlaaGreatDoorVSo8
namespace Go.Proofs.YtpahpdgkahomlaaGreatDoor
open Go.RowKit Go.WideShapes Go.Shelf
set_option maxRecDepth 100000
theorem sound_any {w : World} {B pm : Nat} {L : List (Nat × Nat)} {J : List Nat} {ds : List Int} {z st : Nat} {M : List (ByteArray × Nat)} {D N : List Int} (i : Nat) (hi : i < L.length) (hwf : Wfc L) (h : Mod w B pm L J ds z st M D N) :
    Calls Tryz.prog 10 #[.pointer (some ⟨pm, 0, none⟩), .int .u32 i] w fun e w' => e = .returned (.bool true) ∧ Below w.heap.size w w' := by
  have hl := mlen h
  have hG := h.2.1.fd
  have hDk := h.2.1.dp
  obtain ⟨k, hK⟩ := InK.of (D := D) (N := N) hG hi
  have hw := hwf.at hi
  have hf := hDk.fin k hK.hk
  have hop := hK.op
  unfold isOp at hop
  have hop2 := of_decide_eq_true hop
  have hkd := kind_in (opL L i) (by omega) (by omega)
  have hpe : bAt L (k + 1) ≤ 16384 := Nat.le_trans (bgs_end _) hl
  have HAt : Hid (∀ W, Below w.heap.size w W → Calls Tryz.prog 24 #[.pointer (some ⟨pm, 0, none⟩), .int .u32 i] W fun e w' => e = .returned (.tuple #[.agg #[.int .u8 (opL L i), .int .u32 (argL L i)], .bool true]) ∧ Below W.heap.size W w') := hidS (fun W hW => by
    have := mat_any i (by omega) (h.below hW)
    rw [decide_eq_true hi] at this
    exact this)
  have HPr : Hid (∀ W, Below w.heap.size w W → Calls Tryz.prog 25 #[.pointer (some ⟨pm, 0, none⟩), .int .u32 i] W fun e w' => e = .returned (.tuple #[.agg #[.int .u32 (bAt L k : Nat), .int .u32 (bAt L (k + 1) : Nat), .int .u32 (argL L (bAt L k) : Nat), .int .i64 (N.getD k 0)], .bool true]) ∧ Below W.heap.size W w') := hidS (fun W hW => by
    have := mprocof_any i (h.below hW)
    rw [decide_eq_true hi, hK.pr] at this
    exact this)
  have HIn : Hid (∀ W, Calls Tryz.prog 26 #[.int .u8 (opL L i)] W fun e w' => e = .returned (.tuple #[.agg #[.string (opWd (opL L i)), .int .i64 (opWi (opL L i)), .int .u32 (opMo (opL L i)), .int .i64 (opTa (opL L i)), .int .i64 (opGi (opL L i)), .int .u8 (opKi (opL L i))], .bool true]) ∧ Below W.heap.size W w') := hidS (fun W => by
    have := info_any (opL L i) W hw.1
    rw [hK.op] at this
    exact this)
  have HBe : Hid (∀ W, Below w.heap.size w W → Calls Tryz.prog 27 #[.pointer (some ⟨pm, 0, none⟩), .int .u32 i] W fun e w' => e = .returned (.bool (isEn L i)) ∧ w' = W) := hidS (fun W hW => mbegins_any i (by omega) (h.below hW))
  have HDe : Hid (∀ (j : Nat) W, j < 4294967296 → Below w.heap.size w W → Calls Tryz.prog 8 #[.pointer (some ⟨pm, 0, none⟩), .int .u32 j] W fun e w' => e = .returned (.int .i64 (D.getD j (-1))) ∧ w' = W) := hidS (fun j W hj hW => mdepth_any j hj (h.below hW))
  have HBk : Hid (∀ W, Below w.heap.size w W → Calls Tryz.prog 28 #[.pointer (some ⟨pm, 0, none⟩), .int .u32 ((i : Int) + 1)] W fun e w' => e = .returned (.bool (bkV L D (i + 1))) ∧ Below W.heap.size W w') := hidS (fun W hW => mback_any (i + 1) (by omega) (h.below hW))
  have hE3 : (((opL L i : Nat) : Int) == 3) = isEn L i := by
    rw [op_is hi]
    by_cases q : opL L i = 3
    · rw [q]; simp [opL] at q; simp [q]
    · have : ¬ ((opL L i : Nat) : Int) = 3 := by omega
      rw [beq_eq_false_iff_ne.2 this]
      simp only [opL] at q
      rw [beq_eq_false_iff_ne.2 q]
  have hP3 : ((i : Int) == ((bAt L k : Nat) : Int)) = isEn L i := by
    rw [hK.en]
    by_cases q : i = bAt L k
    · rw [decide_eq_true q, ← q]; simp
    · rw [decide_eq_false q, beq_eq_false_iff_ne]; omega
  have hbk : bkV L D (i + 1) = ((((opL L i : Nat) : Int) == 5) && decide (D.getD i (-1) ≠ -1)) := by
    unfold bkV
    rw [Nat.add_sub_cancel, decide_eq_true ⟨by omega, hi⟩, Bool.true_and]
    congr 1
    by_cases q : opL L i = 5
    · rw [q]; simp only [opL] at q; rw [decide_eq_true q]; rfl
    · have : ¬ ((opL L i : Nat) : Int) = 5 := by omega
      rw [beq_eq_false_iff_ne.2 this]
      simp only [opL] at q
      rw [decide_eq_false q]
  have HL := hidS hK.ls
  have H7 := hidS hK.fr
  have HA := hidS hK.ar
  have HN : Hid (D.getD i (-1) < 0 → bkV L D (i + 1) = false) := hidS (fun q => by
    have := (hf.bd i hK.h1 hK.h2).1
    rw [hbk, decide_eq_false (by omega), Bool.and_false])
  have HP : Hid (0 ≤ D.getD i (-1) → bkV L D (i + 1) = (((opL L i : Nat) : Int) == 5) ∧ D.getD i (-1) ≤ N.getD k 0 ∧ D.getD i (-1) - opTa (opL L i) + opGi (opL L i) ≤ N.getD k 0 ∧ (opTa (opL L i) : Int) ≤ D.getD i (-1) ∧ (opKi (opL L i) = 7 → D.getD i (-1) = 1) ∧ (opKi (opL L i) ≠ 3 → opKi (opL L i) ≠ 4 → opKi (opL L i) ≠ 7 → opKi (opL L i) ≠ 8 → i + 1 < bAt L (k + 1) ∧ D.getD (i + 1) (-1) = D.getD i (-1) - opTa (opL L i) + opGi (opL L i)) ∧ (opKi (opL L i) = 3 ∨ opKi (opL L i) = 2 → D.getD (argL L i) (-1) = D.getD i (-1) - opTa (opL L i) + opGi (opL L i))) := hidS (fun q => ⟨by rw [hbk, decide_eq_true (by omega), Bool.and_true], hK.reach hG hDk q⟩)
  have harg : argL L i < 4294967296 := hw.2
  generalize hkk : opKi (opL L i) = kd at HIn HL H7 HA HP hkd
  rcases hkd with rfl | rfl | rfl | rfl | rfl | rfl | rfl | rfl
  · exact sound_k1 pm i _ _ _ _ _ _ _ _ _ _ _ D _ _ _ w HAt HPr HIn HBe HDe HBk (by omega) harg hpe hK.h1 hK.h2 hE3 hP3 rfl hf.nd HL H7 HA HN HP
  · exact sound_k2 pm i _ _ _ _ _ _ _ _ _ _ _ D _ _ _ w HAt HPr HIn HBe HDe HBk (by omega) harg hpe hK.h1 hK.h2 hE3 hP3 rfl hf.nd HL H7 HA HN HP
  · exact sound_k3 pm i _ _ _ _ _ _ _ _ _ _ _ D _ _ _ w HAt HPr HIn HBe HDe HBk (by omega) harg hpe hK.h1 hK.h2 hE3 hP3 rfl hf.nd HL H7 HA HN HP
  · exact sound_k4 pm i _ _ _ _ _ _ _ _ _ _ _ D _ _ _ w HAt HPr HIn HBe HDe HBk (by omega) harg hpe hK.h1 hK.h2 hE3 hP3 rfl hf.nd HL H7 HA HN HP
  · exact sound_k5 pm i _ _ _ _ _ _ _ _ _ _ _ D _ _ _ w HAt HPr HIn HBe HDe HBk (by omega) harg hpe hK.h1 hK.h2 hE3 hP3 rfl hf.nd HL H7 HA HN HP
  · exact sound_k6 pm i _ _ _ _ _ _ _ _ _ _ _ D _ _ _ w HAt HPr HIn HBe HDe HBk (by omega) harg hpe hK.h1 hK.h2 hE3 hP3 rfl hf.nd HL H7 HA HN HP
  · exact sound_k7 pm i _ _ _ _ _ _ _ _ _ _ _ D _ _ _ w HAt HPr HIn HBe HDe HBk (by omega) harg hpe hK.h1 hK.h2 hE3 hP3 rfl hf.nd HL H7 HA HN HP
  · exact sound_k8 pm i _ _ _ _ _ _ _ _ _ _ _ D _ _ _ w HAt HPr HIn HBe HDe HBk (by omega) harg hpe hK.h1 hK.h2 hE3 hP3 rfl hf.nd HL H7 HA HN HP
end Go.Proofs.YtpahpdgkahomlaaGreatDoor
namespace Go.Proofs.YtpahpdgkahomlaaGreatDoor
open Go.RowKit Go.WideShapes Go.Shelf
set_option maxRecDepth 100000
/-- where a jump of a reached instruction leads -/
theorem jump_to {L : List (Nat × Nat)} {J : List Nat} {M : List (ByteArray × Nat)} {D N : List Int} (hG : FdG L J M) (hD : DpK L J D N (bgs L).length) {i k to : Nat} (h : InK L D N i k) (_hi : i < L.length) (h7 : opL L i = 7) (hr : 0 ≤ D.getD i (-1)) (hto : to ∈ J) :
    (ofL L i == ofL L to) = (decide (bAt L k < to) && decide (to < bAt L (k + 1))) ∧ (bAt L k < to ∧ to < bAt L (k + 1) → D.getD to (-1) = D.getD i (-1) - 1) := by
  have hj := jump_i hG hto
  have hoi := (at_in h.hk h.h1 h.h2).1
  constructor
  · by_cases hin : bAt L k < to ∧ to < bAt L (k + 1)
    · rw [hoi, (at_in h.hk (Nat.le_of_lt hin.1) hin.2).1, decide_eq_true hin.1, decide_eq_true hin.2]
      simp
    · have hne : ofL L i ≠ ofL L to := fun e => by
        rw [hoi] at e
        have hlt : to < L.length := Classical.byContradiction fun q => hj.2 ((ofL_neg hG.fst to).2 q)
        obtain ⟨q, hq, q1, q2⟩ := lies_in hG.fst hlt
        have ho := ofL_in hq q1 q2
        rw [ho] at e
        have hkq : k = q := by omega
        subst hkq
        rw [getD_anyP hq 0 L.length] at q1
        have hen := is_in hq (by rw [getD_anyP hq 0 L.length]; exact q1) q2
        rw [hj.1, getD_anyP hq 0 L.length] at hen
        have hne2 := of_decide_eq_false hen.symm
        exact hin ⟨by unfold bAt at *; omega, q2⟩
      rw [beq_eq_false_iff_ne.2 hne]
      by_cases q : bAt L k < to
      · rw [decide_eq_false (show ¬ to < bAt L (k + 1) from fun q2 => hin ⟨q, q2⟩), Bool.and_false]
      · rw [decide_eq_false q, Bool.false_and]
  · intro hin
    have hok := (hD.fin k h.hk).sol.ok i h.h1 h.h2 hr
    have hm : to ∈ nxt L J i := by
      unfold nxt
      have e4 : opKi (opL L i) = 4 := by rw [h7]; decide
      rw [if_neg (by omega), if_neg (by omega), if_neg (by omega), if_pos e4, hoi, Int.toNat_natCast]
      unfold tgs
      exact mem_rng.2 ⟨⟨Nat.le_of_lt hin.1, hin.2⟩, decide_eq_true hto⟩
    rw [hok.2 to hm, h7]
    unfold restI
    have e1 : opTa 7 = 1 := by decide
    have e2 : opGi 7 = 0 := by decide
    rw [e1, e2]
    omega
set_option maxHeartbeats 8000000 in
theorem jumps_any {w : World} {B pm : Nat} {L : List (Nat × Nat)} {J : List Nat} {ds : List Int} {z st : Nat} {M : List (ByteArray × Nat)} {D N : List Int} (ac aj ad an : Option Addr) (cc cj nd cd z' st' nn cn : Nat) (h : Mod w B pm L J ds z st M D N) (hwf : Wfc L) (hJ : ∀ q ∈ J, q < 4294967296) (hr : CRd w ac L w.heap.size) (hrJ : JRd w aj J w.heap.size) :
    Calls Tryz.prog 11 #[.pointer (some ⟨pm, 0, none⟩), imV ac L.length cc aj J.length cj ad nd cd z' st' an nn cn] w fun e w' => e = .returned (.bool true) ∧ Below w.heap.size w w' := by
  have hl := mlen h
  have hjl : J.length ≤ 16384 := (ckV_0 h.2.1.ck).2.1
  have hG := h.2.1.fd
  have hDk := h.2.1.dp
  obtain ⟨w1, hw1⟩ : ∃ w1, w.alloc (.cells (imC ac L.length cc aj J.length cj ad nd cd z' st' an nn cn) 28) = w1 := ⟨_, rfl⟩
  have hb1 : Below w.heap.size w w1 := by rw [← hw1]; exact (Below.refl w.heap.size w).alloc (Nat.le_refl _) _
  have hs1 : w.heap.size < w1.heap.size := by rw [← hw1]; simp
  have hlast : w1.heap[w.heap.size]? = some (.cells (imC ac L.length cc aj J.length cj ad nd cd z' st' an nn cn) 28) := by rw [← hw1]; exact heap_alloc_last w _
  have HCe : Hid (∀ W, Below w1.heap.size w1 W → W.cell? ⟨w.heap.size, 0, none⟩ = some (.slice ac L.length cc) ∧ W.cell? ⟨w.heap.size, 1, none⟩ = some (.slice aj J.length cj)) := hidS (fun W hW => ⟨(obj_cell ((hW.block _ hs1).trans hlast) 0).trans rfl, (obj_cell ((hW.block _ hs1).trans hlast) 1).trans rfl⟩)
  have HM : Hid (∀ W, Below w1.heap.size w1 W → Mod W B pm L J ds z st M D N) := hidS (fun W hW => h.below (btP hb1 hW))
  have HR : Hid (∀ W, Below w1.heap.size w1 W → CRd W ac L w.heap.size ∧ JRd W aj J w.heap.size) := hidS (fun W hW => ⟨hr.below (btP hb1 hW), hrJ.below (btP hb1 hW)⟩)
  have HK := hidS (And.intro hG (And.intro hDk (And.intro hwf hJ)))
  have HW1 := hidS hw1
  clear h hr hrJ hG hDk hwf hJ hlast hw1
  go_enter Tryz.func11, Tryz.ntmps11
  go_wp2_with fail
  go_loopw [5] (fun u wr => ∃ i : Nat, u = .int .i64 i ∧ i ≤ L.length ∧ Below w1.heap.size w1 wr)
    (fun u _ => L.length - (intOf u).toNat)
  case atStart => exact ⟨0, rfl, Nat.zero_le _, by rw [HW1.out]; exact Below.refl _ _⟩
  case round =>
    obtain ⟨i, rfl, hi, hbw⟩ := hrel
    obtain ⟨c0, c1⟩ := HCe.out wr hbw
    by_cases hlt : i < L.length
    · have hltI : (i : Int) < (L.length : Int) := by omega
      obtain ⟨b, off, rfl, hb, hc⟩ := (HR.out wr hbw).1 (by omega)
      have v0 := (hc i hlt).1
      have hcon : IntKind.u32.wrap (i : Int) = (i : Int) := by rw [IntKind.wrap_u32]; omega
      have hcon2 : (i : Int) % 4294967296 = (i : Int) := by omega
      have hD := mdepth_any i (by omega) (HM.out wr hbw)
      have HBW := hidS hbw
      by_cases h7 : opL L i = 7
      · have v7 : wr.cell? ⟨b, off + i * 2, none⟩ = some (.int .u8 7) := by rw [v0]; simp only [opL] at h7; rw [h7]; rfl
        clear v0 hc
        by_cases hneg : D.getD i (-1) < 0
        · generalize D.getD i (-1) = d at hD hneg
          clear hbw
          go_wp2_with (go_at_call 8; refine hD.mono ?_; rintro e w2 ⟨rfl, hw2⟩; have hw2 := hw2.symm; subst hw2)
          go_roundw
          case rel => exact ⟨i + 1, by go_num, by omega, HBW.out⟩
          case measure => simp [intOf]; omega
        · obtain ⟨k, hK⟩ := InK.of (D := D) (N := N) HK.out.1 hlt
          have hP := mprocof_any i (HM.out wr hbw)
          rw [hK.pr, decide_eq_true hlt] at hP
          have HJt := hidS (fun to hto => jump_to HK.out.1 HK.out.2.1 hK hlt h7 (by omega) (to := to) hto)
          have hpe : bAt L (k + 1) ≤ 16384 := Nat.le_trans (bgs_end _) hl
          have hpb : bAt L k ≤ 16384 := Nat.le_trans (bgs_end _) hl
          have hdb := ((HK.out.2.1.fin k hK.hk).bd i hK.h1 hK.h2).2
          generalize hdd : D.getD i (-1) = d at hD hneg HJt hdb
          have HDD := hidS hdd
          generalize bAt L k = pb at hP HJt hpb
          generalize bAt L (k + 1) = pe at hP HJt hpe
          generalize argL L _ = pf at hP
          generalize N.getD k 0 = nd' at hP
          clear hbw hdd hK
          go_wp2_with (first
            | (go_at_call 8; refine hD.mono ?_; rintro e w2 ⟨rfl, hw2⟩; have hw2 := hw2.symm; subst hw2)
            | (go_at_call 25; refine hP.mono ?_; rintro e w2 ⟨rfl, hb2⟩))
          obtain ⟨W2, hW2⟩ : ∃ W2, w2.alloc (Obj.cells #[.int .u32 (pb : Nat), .int .u32 (pe : Nat), .int .u32 (pf : Nat), .int .i64 nd'] 40) = W2 := ⟨_, rfl⟩
          have hbW2 : Below wr.heap.size wr W2 := by rw [← hW2]; exact belP hb2
          have oW2 : W2.heap[w2.heap.size]? = some (Obj.cells #[.int .u32 (pb : Nat), .int .u32 (pe : Nat), .int .u32 (pf : Nat), .int .i64 nd'] 40) := by rw [← hW2]; exact heap_alloc_last w2 _
          have hb12 := btP HBW.out hbW2
          have HPc : Hid (∀ W, Below W2.heap.size W2 W → W.cell? ⟨w2.heap.size, 0, none⟩ = some (.int .u32 (pb : Nat)) ∧ W.cell? ⟨w2.heap.size, 1, none⟩ = some (.int .u32 (pe : Nat))) := hidS (fun W hW => by
            have q := (hW.block _ (Array.getElem?_eq_some_iff.1 oW2).1).trans oW2
            exact ⟨(obj_cell q 0).trans rfl, (obj_cell q 1).trans rfl⟩)
          have HB2 := hidS hb12
          rw [hW2]
          clear hW2 oW2 hbW2 hb12 hb2 hP v7
          go_loopw [8] (fun u wr => ∃ q : Nat, u = .int .i64 q ∧ q ≤ J.length ∧ Below W2.heap.size W2 wr)
            (fun u _ => J.length - (intOf u).toNat)
          case atStart => exact ⟨0, rfl, Nat.zero_le _, Below.refl _ _⟩
          case round =>
            obtain ⟨q, rfl, hq, hbq⟩ := hrel
            have hb1q := btP HB2.out hbq
            obtain ⟨d0, d1⟩ := HCe.out wr hb1q
            by_cases hqt : q < J.length
            · have hqI : (q : Int) < (J.length : Int) := by omega
              obtain ⟨bj, oj, rfl, hbj, hcj⟩ := (HR.out wr hb1q).2 (by omega)
              have vj := hcj q hqt
              have hmem : J.getD q 0 ∈ J := by simp [List.getD, List.getElem?_eq_getElem hqt]
              have hto := HK.out.2.2.2 _ hmem
              obtain ⟨hj1, hj2⟩ := HJt.out _ hmem
              have hLe := mlegal_any i (J.getD q 0) hto (HM.out wr hb1q)
              rw [decide_eq_true hmem, Bool.true_and, hj1] at hLe
              have HDt : Hid (∀ W, Below w1.heap.size w1 W → Calls Tryz.prog 8 #[.pointer (some ⟨pm, 0, none⟩), .int .u32 (J.getD q 0 : Nat)] W fun e w' => e = .returned (.int .i64 (D.getD (J.getD q 0) (-1))) ∧ w' = W) := hidS (fun W hW => mdepth_any _ hto (HM.out W hW))
              have HDi : Hid (∀ W, Below w1.heap.size w1 W → Calls Tryz.prog 8 #[.pointer (some ⟨pm, 0, none⟩), .int .u32 i] W fun e w' => e = .returned (.int .i64 d) ∧ w' = W) := hidS (fun W hW => by have := mdepth_any i (by omega) (HM.out W hW); rw [HDD.out] at this; exact this)
              generalize D.getD (J.getD q 0) (-1) = dt at HDt hj2
              generalize J.getD q 0 = to at *
              obtain ⟨m0, m1⟩ := HPc.out wr hbq
              have HBQ := hidS (And.intro hbq hb1q)
              clear hcj hmem hbq hb1q hj1
              by_cases hx1 : pb < to
              · have hx1I : (pb : Int) < (to : Int) := by omega
                by_cases hx2 : to < pe
                · have hx2I : (to : Int) < (pe : Int) := by omega
                  have hdt := hj2 ⟨hx1, hx2⟩
                  subst hdt
                  rw [decide_eq_true hx1, decide_eq_true hx2] at hLe
                  have hdw : IntKind.i64.wrap (d - 1) = d - 1 := by rw [IntKind.wrap_i64]; omega
                  clear hj2
                  go_wp2_with (first
                    | (go_at_call 30; with_reducible refine hLe.mono ?_; rintro e w5 ⟨rfl, hb5⟩; have hb15 := btP HBQ.out.2 hb5; have HB5 := hidS (And.intro hb5 hb15); have hDt5 := HDt.out w5 hb15; have hDi5 := HDi.out w5 hb15; clear hb5 hb15)
                    | (go_at_call 8; with_reducible refine hDt5.mono ?_; rintro e w6 ⟨rfl, hw6⟩; have hw6 := hw6.symm; subst hw6)
                    | (go_at_call 8; with_reducible refine hDi5.mono ?_; rintro e w6 ⟨rfl, hw6⟩; have hw6 := hw6.symm; subst hw6))
                  go_roundw
                  case rel => exact ⟨q + 1, by go_num, by omega, btP HBQ.out.1 HB5.out.1⟩
                  case measure => simp [intOf]; omega
                · have hx2I : decide ((to : Int) < (pe : Int)) = false := by simp; omega
                  rw [decide_eq_true hx1, decide_eq_false hx2] at hLe
                  clear hj2
                  go_wp2_with (go_at_call 30; with_reducible refine hLe.mono ?_; rintro e w5 ⟨rfl, hb5⟩; have HB5 := hidS hb5; clear hb5)
                  go_roundw
                  case rel => exact ⟨q + 1, by go_num, by omega, btP HBQ.out.1 HB5.out⟩
                  case measure => simp [intOf]; omega
              · have hx1I : decide ((pb : Int) < (to : Int)) = false := by simp; omega
                rw [decide_eq_false hx1, Bool.false_and] at hLe
                clear hj2
                go_wp2_with (go_at_call 30; with_reducible refine hLe.mono ?_; rintro e w5 ⟨rfl, hb5⟩; have HB5 := hidS hb5; clear hb5)
                go_roundw
                case rel => exact ⟨q + 1, by go_num, by omega, btP HBQ.out.1 HB5.out⟩
                case measure => simp [intOf]; omega
            · have hqI : ¬ (q : Int) < (J.length : Int) := by omega
              have HB5 := hidS hb1q
              clear hbq hb1q
              go_wp2_with fail
              go_roundw
              case rel => exact ⟨i + 1, by go_num, by omega, HB5.out⟩
              case measure => simp [intOf]; omega
      · have h7I : (((L.getD i (0, 0)).1 : Int) == 7) = false := by rw [beq_eq_false_iff_ne]; simp only [opL] at h7; omega
        have h7N : ((L.getD i (0, 0)).1 == 7) = false := by rw [beq_eq_false_iff_ne]; exact h7
        have h7M : ¬ (L.getD i (0, 0)).1 = 7 := h7
        generalize (L.getD i (0, 0)).1 = op at v0 h7I h7N h7M
        have h7J : ¬ (op : Int) = 7 := by omega
        clear hc hbw hD h7
        go_wp2_with fail
        go_roundw
        case rel => exact ⟨i + 1, by go_num, by omega, HBW.out⟩
        case measure => simp [intOf]; omega
    · have hltI : ¬ (i : Int) < (L.length : Int) := by omega
      go_wp2_with fail
      go_ret
      exact ⟨rfl, btP hb1 hbw⟩
end Go.Proofs.YtpahpdgkahomlaaGreatDoor
