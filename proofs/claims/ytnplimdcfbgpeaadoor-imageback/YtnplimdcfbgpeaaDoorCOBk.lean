import Derived.Test.YtnplimdcfbgpeaaDoorOLo
namespace Go.Proofs.YtnplimdcfbgpeaaDoor
open Go.RowKit Go.WideShapes Go.Sort Go.Lib
set_option maxRecDepth 100000

theorem lstF_min : ∀ (f k m : Nat), lstF f k m = k ∨ (k < lstF f k m ∧ 2 ^ (lstF f k m - 1) < m)
  | 0, k, m => .inl rfl
  | f + 1, k, m => by
    unfold lstF
    split
    · exact .inl rfl
    · rename_i h
      rcases lstF_min f (k + 1) m with h1 | h1
      · right
        rw [h1]
        exact ⟨by omega, by rw [Nat.add_sub_cancel]; omega⟩
      · exact .inr ⟨by omega, h1.2⟩
theorem lstK_min (m : Nat) : lstK m = 8 ∨ 2 ^ (lstK m - 1) < m := by
  rcases lstF_min 8 8 m with h | h
  · exact .inl h
  · exact .inr h.2
theorem ibits_I (I : Im) (ac aj ad an : Option Addr) (cc cj cd cn : Nat) (w : World) (hw : ImW I) (hb : ImB I) (hr : ImR w w.heap.size I ac aj ad an cd cn) :
    Calls Tryd.prog 10 #[imV ac I.L.length cc aj I.J.length cj ad I.D.length cd I.z I.st an I.M.length cn] w fun e w' => e = .returned (.tuple #[.int .i64 (if ckI I = 0 then lstK (I.D.length + I.z + I.st) else 0 : Nat), .int .i64 (ckI I : Nat)]) ∧ Below w.heap.size w w' :=
  ibits_any ac aj ad an cc I.J.length cj I.D.length cd I.z I.st cn I.L I.M w hb.l hb.j hb.d hb.m hw.wfc hw.z32 hw.st32 hr.ncap hr.code hr.nam
set_option maxHeartbeats 4000000 in
theorem back_bad (I : Im) (ac aj ad an : Option Addr) (cc cj cd cn : Nat) (w : World) (hw : ImW I) (hb : ImB I) (hr : ImR w w.heap.size I ac aj ad an cd cn) (hg : Sg w) (hk : ¬ ckI I = 0) :
    Calls Tryd.prog 3 #[imV ac I.L.length cc aj I.J.length cj ad I.D.length cd I.z I.st an I.M.length cn] w fun e w' => e = .returned (.bool true) ∧ Below w.heap.size w w' := by
  obtain ⟨W1, hW1⟩ : ∃ W1, w.alloc (.cells (imC ac I.L.length cc aj I.J.length cj ad I.D.length cd I.z I.st an I.M.length cn) 28) = W1 := ⟨_, rfl⟩
  have b1 : Below w.heap.size w W1 := by rw [← hW1]; exact belS (Below.refl _ _)
  have s1 : w.heap.size < W1.heap.size := by rw [← hW1]; simp
  have hl1 : W1.heap[w.heap.size]? = some (.cells (imC ac I.L.length cc aj I.J.length cj ad I.D.length cd I.z I.st an I.M.length cn) 28) := by rw [← hW1]; exact heap_alloc_last w _
  have HX := hidS (fun W (hW : Below W1.heap.size W1 W) => six ((hW.block _ s1).trans hl1))
  have hLv := lives_any W1
  have HC := hidS (fun W (hW : Below W1.heap.size W1 W) => icheck_I I ac aj ad an cc cj cd cn W hw hb ((hr.below (btS b1 hW)).mono (btS b1 hW).size))
  have HE := hidS (fun W (hW : Below W1.heap.size W1 W) => encode_bad I ac aj ad an cc cj cd cn W hw hb ((hr.below (btS b1 hW)).mono (btS b1 hW).size) hk)
  have HS := hidS (fun W (hW : Below W1.heap.size W1 W) => size_told I ac aj ad an cc cj cd cn W hw hb ((hr.below (btS b1 hW)).mono (btS b1 hW).size) (hg.below (btS b1 hW)))
  have HB := hidS (fun W (hW : Below W1.heap.size W1 W) => ibits_I I ac aj ad an cc cj cd cn W hw hb ((hr.below (btS b1 hW)).mono (btS b1 hW).size))
  have HK := hidS hk
  have HW1 := hidS hW1
  rw [if_neg hk] at HS HB
  have HE2 : Hid (∀ W, Below W1.heap.size W1 W → Calls Tryd.prog 8 #[imV ac I.L.length cc aj I.J.length cj ad I.D.length cd I.z I.st an I.M.length cn] W fun e w' => e = .returned (.tuple #[.slice none 0 0, .int .i64 (ckI I : Nat)]) ∧ Below W.heap.size W w') := hidS (fun W hW => (HE.out W hW).mono (by
    rintro e w' ⟨hq, hb'⟩
    rcases hq with ⟨h0, _⟩ | ⟨_, rfl⟩
    · exact absurd h0 HK.out
    · exact ⟨rfl, hb'⟩))
  clear hr hw hg hl1 HE
  generalize ckI I = x at *
  have hxI : ((x : Int) == 0) = false := by rw [beq_eq_false_iff_ne]; omega
  have hxI2 : ¬ (x : Int) = 0 := by omega
  clear hk hW1
  go_enter Tryd.func3, Tryd.ntmps3
  go_wp2_with fail
  rw [HW1.out]
  with_reducible refine hLv.mono ?_
  rintro e w2 ⟨rfl, b2⟩
  obtain ⟨x0, x1, x2, x3, x4, x5⟩ := HX.out w2 b2
  clear hLv
  go_wp2_with fail
  with_reducible refine (HC.out w2 b2).mono ?_
  rintro e w3 ⟨rfl, b3⟩
  have B3 := btS b2 b3
  clear x0 x1 x2 x3 x4 x5
  obtain ⟨x0, x1, x2, x3, x4, x5⟩ := HX.out w3 B3
  go_wp2_with fail
  with_reducible refine (HE2.out w3 B3).mono ?_
  rintro e w4 ⟨rfl, b4⟩
  have B4 := btS B3 b4
  clear x0 x1 x2 x3 x4 x5
  obtain ⟨x0, x1, x2, x3, x4, x5⟩ := HX.out w4 B4
  go_wp2_with fail
  with_reducible refine (HS.out w4 B4).mono ?_
  rintro e w5 ⟨rfl, b5⟩
  have B5 := btS B4 b5
  clear x0 x1 x2 x3 x4 x5
  obtain ⟨x0, x1, x2, x3, x4, x5⟩ := HX.out w5 B5
  go_wp2_with fail
  with_reducible refine (HB.out w5 B5).mono ?_
  rintro e w6 ⟨rfl, b6⟩
  have B6 := btS B5 b6
  clear x0 x1 x2 x3 x4 x5
  go_wp2_with fail
  go_ret
  exact ⟨rfl, btS b1 B6⟩
end Go.Proofs.YtnplimdcfbgpeaaDoor
namespace Go.Proofs.YtnplimdcfbgpeaaDoor
open Go.RowKit Go.WideShapes Go.Sort Go.Lib
set_option maxRecDepth 100000

set_option maxHeartbeats 4000000 in
theorem back_good (I : Im) (ac aj ad an : Option Addr) (cc cj cd cn : Nat) (w : World) (hb : ImB I) (hr : ImR w w.heap.size I ac aj ad an cd cn) (hg : Sg w) (hk : ImK I) :
    Calls Tryd.prog 3 #[imV ac I.L.length cc aj I.J.length cj ad I.D.length cd I.z I.st an I.M.length cn] w fun e w' => e = .returned (.bool true) ∧ Below w.heap.size w w' := by
  have hck : ckI I = 0 := (ckI_0 hk.w).2 hk
  obtain ⟨W1, hW1⟩ : ∃ W1, w.alloc (.cells (imC ac I.L.length cc aj I.J.length cj ad I.D.length cd I.z I.st an I.M.length cn) 28) = W1 := ⟨_, rfl⟩
  have b1 : Below w.heap.size w W1 := by rw [← hW1]; exact belS (Below.refl _ _)
  have s1 : w.heap.size < W1.heap.size := by rw [← hW1]; simp
  have hl1 : W1.heap[w.heap.size]? = some (.cells (imC ac I.L.length cc aj I.J.length cj ad I.D.length cd I.z I.st an I.M.length cn) 28) := by rw [← hW1]; exact heap_alloc_last w _
  have HX := hidS (fun W (hW : Below W1.heap.size W1 W) => six ((hW.block _ s1).trans hl1))
  have hLv := lives_any W1
  have HIR := hidS (fun W (hW : Below W1.heap.size W1 W) => (hr.below (btS b1 hW)).mono (btS b1 hW).size)
  have hC := hidS (fun W (hW : Below W1.heap.size W1 W) => icheck_I I ac aj ad an cc cj cd cn W hk.w hb (HIR.out W hW))
  have hE := hidS (fun W (hW : Below W1.heap.size W1 W) => encode_good I ac aj ad an cc cj cd cn W hb (HIR.out W hW) hk (hg.below (btS b1 hW)))
  have hS := hidS (fun W (hW : Below W1.heap.size W1 W) => size_told I ac aj ad an cc cj cd cn W hk.w hb (HIR.out W hW) (hg.below (btS b1 hW)))
  have hB := hidS (fun W (hW : Below W1.heap.size W1 W) => ibits_I I ac aj ad an cc cj cd cn W hk.w hb (HIR.out W hW))
  rw [hck] at hC hS hB
  rw [if_pos rfl] at hS hB
  have HC : Hid (∀ W, Below W1.heap.size W1 W → Calls Tryd.prog 7 #[imV ac I.L.length cc aj I.J.length cj ad I.D.length cd I.z I.st an I.M.length cn] W fun e w' => e = .returned (.int .i64 0) ∧ Below W.heap.size W w') := hC
  have HS : Hid (∀ W, Below W1.heap.size W1 W → Calls Tryd.prog 9 #[imV ac I.L.length cc aj I.J.length cj ad I.D.length cd I.z I.st an I.M.length cn] W fun e w' => e = .returned (.tuple #[.int .i64 ((encA I).length : Nat), .int .i64 0]) ∧ Below W.heap.size W w') := hS
  have HB : Hid (∀ W, Below W1.heap.size W1 W → Calls Tryd.prog 10 #[imV ac I.L.length cc aj I.J.length cj ad I.D.length cd I.z I.st an I.M.length cn] W fun e w' => e = .returned (.tuple #[.int .i64 (lstK (I.D.length + I.z + I.st) : Nat), .int .i64 0]) ∧ Below W.heap.size W w') := hB
  have HE : Hid (∀ W, Below W1.heap.size W1 W → Calls Tryd.prog 8 #[imV ac I.L.length cc aj I.J.length cj ad I.D.length cd I.z I.st an I.M.length cn] W fun e w' => (∃ a c, e = .returned (.tuple #[.slice a (encA I).length c, .int .i64 0]) ∧ (encA I).length ≤ c ∧ Reads w' a (encA I) w'.heap.size) ∧ Below W.heap.size W w') := hidS (fun W hW => (hE.out W hW).mono (by
    rintro e w' ⟨hq, hb'⟩
    rcases hq with ⟨_, v, rfl, own⟩ | ⟨h0, _⟩
    · obtain ⟨a, c, rfl, hcc⟩ := own_cap2 own
      obtain ⟨a2, c2, he, hrd⟩ := own_reads own
      simp only [Value.slice.injEq, true_and] at he
      obtain ⟨rfl, rfl⟩ := he
      exact ⟨⟨_, _, rfl, hcc, hrd⟩, hb'⟩
    · exact absurd hck h0))
  have HK := hidS hk
  have HG := hidS hg
  have HBB := hidS hb
  have HW1 := hidS hW1
  have HKI := hidS (lstK_in hk.room)
  have HKM := hidS (lstK_min (I.D.length + I.z + I.st))
  have hrm := hk.room
  have hel : (encA I).length ≤ 1048576 := by rw [encA_len]; have := off_le hk 4 (by omega); omega
  have HEL := hidS hel
  have HIW := hidS (encA_wf hk)
  obtain ⟨kb, hkb⟩ : ∃ kb, lstK (I.D.length + I.z + I.st) = kb := ⟨_, rfl⟩
  rw [hkb] at HB HKI HKM
  clear hr hg hl1 hC hE hS hB hk hW1 hck hb hkb hel
  go_enter Tryd.func3, Tryd.ntmps3
  go_wp2_with fail
  rw [HW1.out]
  with_reducible refine hLv.mono ?_
  rintro e w2 ⟨rfl, b2⟩
  obtain ⟨x0, x1, x2, x3, x4, x5⟩ := HX.out w2 b2
  clear hLv
  go_wp2_with fail
  with_reducible refine (HC.out w2 b2).mono ?_
  rintro e w3 ⟨rfl, b3⟩
  have B3 := btS b2 b3
  clear x0 x1 x2 x3 x4 x5
  obtain ⟨x0, x1, x2, x3, x4, x5⟩ := HX.out w3 B3
  go_wp2_with fail
  with_reducible refine (HE.out w3 B3).mono ?_
  rintro e w4 ⟨⟨ar, cr, rfl, hcr, hrd⟩, b4⟩
  have B4 := btS B3 b4
  have HRD := hidS hrd
  have HCR := hidS hcr
  clear x0 x1 x2 x3 x4 x5 hrd hcr
  obtain ⟨x0, x1, x2, x3, x4, x5⟩ := HX.out w4 B4
  go_wp2_with fail
  with_reducible refine (HS.out w4 B4).mono ?_
  rintro e w5 ⟨rfl, b5⟩
  have B5 := btS B4 b5
  clear x0 x1 x2 x3 x4 x5
  obtain ⟨x0, x1, x2, x3, x4, x5⟩ := HX.out w5 B5
  go_wp2_with fail
  with_reducible refine (HB.out w5 B5).mono ?_
  rintro e w6 ⟨rfl, b6⟩
  have B6 := btS B5 b6
  clear x0 x1 x2 x3 x4 x5
  have b46 := btS b5 b6
  have hP := parse_told ar cr (encA I) w6 HCR.out HIW.out ((HRD.out.below b46).mono b46.size) (HG.out.below (btS b1 B6))
  go_wp2_with fail
  with_reducible refine hP.mono ?_
  rintro e w7 ⟨hq, b7⟩
  have B7 := btS B6 b7
  have b47 := btS b46 b7
  clear hP
  rcases hq with ⟨at_, er, rfl, her, hno⟩ | ⟨u0, u1, u2, u5, K, rfl, hpar2, hown2⟩
  · exact absurd (par_enc I HK.out) (hno I)
  · obtain rfl : I = K := par_uniq (par_enc I HK.out) hpar2
    obtain ⟨d0, d1, d2, d5, e0, e1, e2, e5, rfl, rfl, rfl, rfl, hir2⟩ := hown2.form
    have hA7 := heap_alloc_last w7 (.cells im0 28)
    obtain ⟨W7, hW7, bW7, hsW7, hbk7⟩ := laid_im w7 d0 d1 d2 d5 e0 e1 e2 e5 I.L.length I.J.length I.D.length I.M.length I.z I.st
    have BW7 := btS B7 bW7
    obtain ⟨x0, x1, x2, x3, x4, x5⟩ := HX.out W7 BW7
    obtain ⟨y0, y1, y2, y3, y4, y5⟩ := six hbk7
    have hSm := same_true I d0 d1 d2 d5 ac aj ad an e0 e1 e2 e5 cc cj cd cn W7 HBB.out ((hir2.below bW7).mono bW7.size) (HIR.out W7 BW7)
    have HW7 := hidS hW7
    have HCA := hidS (fun W (hW : Below W7.heap.size W7 W) => canon_told ar cr (encA I) W HCR.out HIW.out ((HRD.out.below (btS (btS b47 bW7) hW)).mono (btS (btS b47 bW7) hW).size) (HG.out.below (btS (btS b1 BW7) hW)))
    have z1 : IntKind.i64.wrap (I.z : Int) = (I.z : Int) := by rw [IntKind.wrap_i64]; omega
    have z2 : IntKind.i64.wrap (I.st : Int) = (I.st : Int) := by rw [IntKind.wrap_i64]; omega
    have HPE := hidS (par_enc I HK.out)
    have heI : ((encA I).length : Int) ≤ 1048576 := by have := HEL.out; omega
    have HSEC : Hid (∀ e, CaP (encA I) e → e = .returned (.bool true)) := hidS (fun e h => by
      have := ca_is h HPE.out
      rw [decide_eq_true rfl] at this
      exact this)
    clear hpar2 hown2 hir2 hbk7 hW7
    go_wp2_with (refine wpList_store_row rfl _ _ _ rfl w7.heap.size _ (imC d0 I.L.length e0 d1 I.J.length e1 d2 I.D.length e2 I.z I.st d5 I.M.length e5) rfl rfl hA7 (by rw [infoI6]; rfl) rfl (i6_all rfl rfl rfl rfl rfl rfl) ?_; rw [HW7.out])
    with_reducible refine hSm.mono ?_
    rintro e w8 ⟨rfl, b8⟩
    clear hSm x0 x1 x2 x3 x4 x5 y0 y1 y2 y3 y4 y5 hA7
    go_wp2_with fail
    with_reducible refine (HCA.out w8 b8).mono ?_
    rintro e w9 ⟨hc, b9⟩
    obtain rfl := HSEC.out _ hc
    have B9 := btS (btS (btS b1 BW7) b8) b9
    clear hc HCA
    obtain ⟨k8, k16, kle⟩ := HKI.out
    have hkm := HKM.out
    clear HKI HKM
    generalize (encA I).length = en at *
    obtain ⟨rm, hrmE⟩ : ∃ rm : Nat, (I.D.length : Int) + (I.z : Int) + (I.st : Int) = rm := ⟨I.D.length + I.z + I.st, by push_cast; rfl⟩
    have hrm2 : I.D.length + I.z + I.st = rm := by omega
    rw [hrm2] at kle hkm hrm
    rw [hrmE]
    clear hrmE hrm2
    rcases (show kb = 8 ∨ kb = 9 ∨ kb = 10 ∨ kb = 11 ∨ kb = 12 ∨ kb = 13 ∨ kb = 14 ∨ kb = 15 ∨ kb = 16 by omega) with rfl | rfl | rfl | rfl | rfl | rfl | rfl | rfl | rfl
    · have q1 : (rm : Int) ≤ 256 := by omega
      clear kle hkm k8 k16 hrm
      go_wp2_with fail
      go_ret
      exact ⟨rfl, B9⟩
    · have q1 : (rm : Int) ≤ 512 := by omega
      have q2 : (256 : Int) < (rm : Int) := by omega
      clear kle hkm k8 k16 hrm
      go_wp2_with fail
      go_ret
      exact ⟨rfl, B9⟩
    · have q1 : (rm : Int) ≤ 1024 := by omega
      have q2 : (512 : Int) < (rm : Int) := by omega
      clear kle hkm k8 k16 hrm
      go_wp2_with fail
      go_ret
      exact ⟨rfl, B9⟩
    · have q1 : (rm : Int) ≤ 2048 := by omega
      have q2 : (1024 : Int) < (rm : Int) := by omega
      clear kle hkm k8 k16 hrm
      go_wp2_with fail
      go_ret
      exact ⟨rfl, B9⟩
    · have q1 : (rm : Int) ≤ 4096 := by omega
      have q2 : (2048 : Int) < (rm : Int) := by omega
      clear kle hkm k8 k16 hrm
      go_wp2_with fail
      go_ret
      exact ⟨rfl, B9⟩
    · have q1 : (rm : Int) ≤ 8192 := by omega
      have q2 : (4096 : Int) < (rm : Int) := by omega
      clear kle hkm k8 k16 hrm
      go_wp2_with fail
      go_ret
      exact ⟨rfl, B9⟩
    · have q1 : (rm : Int) ≤ 16384 := by omega
      have q2 : (8192 : Int) < (rm : Int) := by omega
      clear kle hkm k8 k16 hrm
      go_wp2_with fail
      go_ret
      exact ⟨rfl, B9⟩
    · have q1 : (rm : Int) ≤ 32768 := by omega
      have q2 : (16384 : Int) < (rm : Int) := by omega
      clear kle hkm k8 k16 hrm
      go_wp2_with fail
      go_ret
      exact ⟨rfl, B9⟩
    · have q1 : (rm : Int) ≤ 65536 := by omega
      have q2 : (32768 : Int) < (rm : Int) := by omega
      clear kle hkm k8 k16 hrm
      go_wp2_with fail
      go_ret
      exact ⟨rfl, B9⟩
end Go.Proofs.YtnplimdcfbgpeaaDoor
