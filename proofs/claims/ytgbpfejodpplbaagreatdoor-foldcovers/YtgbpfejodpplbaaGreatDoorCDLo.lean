import Derived.Test.YtgbpfejodpplbaaGreatDoorCDPm
import Derived.ScopeJumps
import Derived.WalkMore
import Derived.Deep.LoopGhost
namespace Go.Proofs.YtgbpfejodpplbaaGreatDoor
open Go.RowKit Go.WideShapes
set_option maxRecDepth 100000

theorem lgF_cons {L : List (Nat × Nat)} {k : Nat} (hk : k < L.length) (ws : List Nat) (i : Nat) (c : Nat × Nat × Nat) : lgF (L.drop k) ws i c = lgF ((L.getD k (0, 0)) :: L.drop (k + 1)) ws i c := by
  rw [List.drop_eq_getElem_cons hk]; simp [List.getD, List.getElem?_eq_getElem hk]
theorem lg_er {op arg : Nat} {r : List (Nat × Nat)} {ws : List Nat} {i : Nat} {c : Nat × Nat × Nat} (h : ¬ erV op arg = 0) : lgF ((op, arg) :: r) ws i c = c := by simp [lgF, h]
theorem lg_br {op arg : Nat} {r : List (Nat × Nat)} {ws : List Nat} {i : Nat} {c : Nat × Nat × Nat} (h : brB ws op = false) : lgF ((op, arg) :: r) ws i c = c := by simp [lgF, h]
theorem lg_cmp {op arg : Nat} {r : List (Nat × Nat)} {ws : List Nat} {i : Nat} {c : Nat × Nat × Nat} (h1 : erV op arg = 0) (h2 : brB ws op = true) (h3 : opKi op = 2) : lgF ((op, arg) :: r) ws i c = if ws.length = opTa op then cmpV ws op arg (i + 1) else c := by simp [lgF, h1, h2, h3]
theorem lg_no {op arg : Nat} {r : List (Nat × Nat)} {ws : List Nat} {i : Nat} {c : Nat × Nat × Nat} (h1 : erV op arg = 0) (h2 : brB ws op = true) (h3 : ¬ opKi op = 2) (h4 : plV ws op arg = none) : lgF ((op, arg) :: r) ws i c = c := by simp [lgF, h1, h2, h3, h4]
theorem lg_on {op arg : Nat} {r : List (Nat × Nat)} {ws ws' : List Nat} {i : Nat} {c : Nat × Nat × Nat} (h1 : erV op arg = 0) (h2 : brB ws op = true) (h3 : ¬ opKi op = 2) (h4 : plV ws op arg = some ws') : lgF ((op, arg) :: r) ws i c = lgF r ws' (i + 1) (if 0 < i ∧ ws'.length ≤ 1 then leftV ws' (i + 1) else c) := by simp [lgF, h1, h2, h3, h4]
/-- a row with no word -/
def rwZ : Array Value := Array.replicate 64 (.int .u32 0) ++ #[.int .i64 0]
theorem rwZ_run (w : World) : (zeroValue 127).run Tryz.prog w = .ok (.agg rwZ) w := by kernel_rfl
theorem rwZ_size : rwZ.size = 65 := by decide +kernel
theorem rwZ_last : rwZ[64]? = some (.int .i64 0) := by kernel_rfl
theorem lg_start (w w0 : World) (at' : Nat) (hb0 : Below ((w.alloc (.cells #[.int .u32 0, .int .u32 0, .int .u8 0, .int .u32 0] 40)).alloc (.cells rwZ 127)).heap.size ((w.alloc (.cells #[.int .u32 0, .int .u32 0, .int .u8 0, .int .u32 0] 40)).alloc (.cells rwZ 127)) w0) :
    LgS w w0.heap.size at' [] (1, 1, 0) ((w0.alloc (.cells #[.int .u32 0, .int .u32 0, .int .u8 0, .int .u32 0] 40)).setRow w0.heap.size (pcA at' (1, 1, 0))) := by
  have hz := hb0.size
  simp at hz
  have hb1 : Below w.heap.size w w0 := (((Below.refl w.heap.size w).alloc (Nat.le_refl _) _).alloc (by simp) _).trans (hb0.mono (by simp; omega))
  have hA := Kp.alloc (S := fun _ => False) w0 (.cells #[.int .u32 0, .int .u32 0, .int .u8 0, .int .u32 0] 40)
  have r1 := (hb0.block w.heap.size (by simp; omega)).trans (al2a w _ _)
  have r2 := (hb0.block (w.heap.size + 1) (by simp)).trans (al2b w _ _)
  have e1 : LgR w w0.heap.size at' (0, 0, 0) (w0.alloc (.cells #[.int .u32 0, .int .u32 0, .int .u8 0, .int .u32 0] 40)) ∨ True := .inr trivial
  have hk := KpSetRow (S := fun k => k = w0.heap.size) (w0.alloc (.cells #[.int .u32 0, .int .u32 0, .int .u8 0, .int .u32 0] 40)) w0.heap.size (pcA at' (1, 1, 0)) rfl
  have hAk := hA.trans (S' := fun k => k = w0.heap.size) hk (fun i hi e => by omega)
  refine ⟨⟨hb1.trans (hAk.below hb1.size (fun i e => e.elim)), (hAk.block _ (by omega) (fun e => e)).trans r1, setRow_heap _ _ _ _ _ _ (heap_alloc_new w0 _), by omega⟩, ?_⟩
  exact (ros_new w0 (w.heap.size + 1) rwZ r2 rwZ_size rwZ_last).kept hAk (fun e => e)
set_option maxHeartbeats 8000000 in
theorem longest_any (ao : Option Addr) (cap at' : Nat) (L : List (Nat × Nat)) (w : World) (hL : L.length < 4294967296) (hwf : Wfc L) (hr : CRd w ao L w.heap.size) :
    Calls Tryz.prog 37 #[.slice ao L.length cap, .int .u32 (at' : Int)] w fun e w' => e = .returned (.agg (pcA at' (lgV L))) ∧ Below w.heap.size w w' := by
  have HO := dhid (fun w' => fone_any at' w')
  go_enter Tryz.func37, Tryz.ntmps37
  go_wp2
  refine wp_scope_jumps 0 (fun a' w' => ∃ (g : Nat) (u2 u3 u5 u7 u8 u9 u10 u11 u12 u13 u14 u15 u16 u17 u18 u19 u20 u21 u22 u23 u24 u25 u26 u27 u28 u29 u30 u31 u32 u33 u34 u35 u36 u37 u38 u39 u40 u41 u42 u43 u44 u45 u46 u47 u48 u49 u50 u51 u52 u53 u54 u55 u56 u57 u58 u59 u60 u61 u62 u63 u64 u65 u66 : Value), a' = { tmps := #[.slice ao L.length cap, .int .u32 (at' : Int), u2, u3, .pointer (some ⟨w.heap.size, 0, none⟩), u5, .pointer (some ⟨g, 0, none⟩), u7, u8, u9, u10, u11, u12, u13, u14, u15, u16, u17, u18, u19, u20, u21, u22, u23, u24, u25, u26, u27, u28, u29, u30, u31, u32, u33, u34, u35, u36, u37, u38, u39, u40, u41, u42, u43, u44, u45, u46, u47, u48, u49, u50, u51, u52, u53, u54, u55, u56, u57, u58, u59, u60, u61, u62, u63, u64, u65, u66], defers := [] } ∧ Hid (LgR w g at' (lgV L) w')) (fun _ _ => 0) rfl ?_ ?_
  · have hZ := rwZ_run
    go_wp2_with (first
      | (go_at_call 19; refine (HO.out _).mono ?_; rintro e w0 ⟨rfl, hb0⟩)
      | (refine wpList_store_rowD rfl _ _ _ rfl w0.heap.size #[.int .u32 0, .int .u32 0, .int .u8 0, .int .u32 0] (pcA at' (1, 1, 0)) rfl rfl (heap_alloc_new w0 _) (by rw [sizeDPc]; rfl) rfl (by simp [pcA, Value.oneCell']) ?_))
    have H0 : Hid (LgS w w0.heap.size at' [] (1, 1, 0) ((w0.alloc (.cells #[.int .u32 0, .int .u32 0, .int .u8 0, .int .u32 0] 40)).setRow w0.heap.size (pcA at' (1, 1, 0)))) := dhid (lg_start w w0 at' hb0)
    generalize hg : w0.heap.size = g at *
    go_loopg [16] L.length (fun gk i wr => ∃ (k : Nat) (ws : List Nat) (c : Nat × Nat × Nat), i = .int .i64 k ∧ k ≤ L.length ∧ gk = L.length - k ∧ Hid (LgS w g at' ws c wr) ∧ Hid (lgF (L.drop k) ws k c = lgV L))
    case atStart => exact ⟨0, [], (1, 1, 0), rfl, Nat.zero_le _, rfl, H0, dhid rfl⟩
    case round =>
      obtain ⟨k, ws, c, rfl, hk, rfl, HS, HE⟩ := hrel
      clear H0
      have hgg := HS.out.r.gg
      by_cases hlt : k < L.length
      · have hd : decide ((k : Int) < L.length) = true := by simp; omega
        obtain ⟨bo, off, rfl, hbl, hc⟩ := hr (by omega)
        obtain ⟨hop, harg⟩ := hwf.at hlt
        have x0 := (HS.out.r.bel.cell (p := ⟨bo, off + k * 2, none⟩) hbl).trans (hc k hlt).1
        have x1 := (HS.out.r.bel.cell (p := ⟨bo, off + k * 2 + 1, none⟩) hbl).trans (hc k hlt).2
        have HE' := dhid ((lgF_cons hlt ws k c).symm.trans HE.out)
        generalize L.getD k (0, 0) = pp at *
        obtain ⟨op, arg⟩ := pp
        simp only at x0 x1 hop harg
        have HI := dhid (fun w' => info_any op w' hop)
        have HC := dhid (fun w' => fcheck_any op arg w' hop)
        clear hc hr hwf HO hZ HE
        by_cases her : erV op arg = 0
        · have hE1 : ((erV op arg : Int) != 0) = false := by rw [her]; rfl
          have hE2 : (erV op arg : Int) = 0 := by omega
          cases hbr : brB ws op with
          | false =>
            have HV := dhid ((lg_br hbr).symm.trans HE'.out)
            go_wp2_with (first
            | (go_at_call 40; refine (HI.out _).mono ?_; rintro e w1 ⟨rfl, hb1⟩
               have I1 : InsD w1 wr.heap.size op arg := (hb1.block wr.heap.size (by simp)).trans (heap_alloc_new wr _)
               have S1 := dhid ((HS.out.alloc _).step hb1)
               obtain ⟨c0, c1⟩ := I1.cells
               have hl1 := I1.lt
               replace I1 := dhid I1)
            | (go_at_call 36; refine (HC.out _).mono ?_; rintro e w2 ⟨rfl, hb2⟩
               have I2 := (I1.out.kept (Kp.alloc (S := fun _ => False) w1 _) (fun e => e)).kept (Kp.ofBelow (S := fun _ => False) hb2) (fun e => e)
               have F2 : IfS w2 w1.heap.size op := (hb2.block w1.heap.size (by simp)).trans (heap_alloc_new w1 _)
               have S2 := dhid ((S1.out.alloc _).step hb2)
               obtain ⟨d0, d1⟩ := I2.cells
               obtain ⟨f0, f1, f2, f3, f4, f5⟩ := F2.cells
               replace I2 := dhid I2
               replace F2 := dhid F2)
            | (go_at_call 58; refine (bears_any (w.heap.size + 1) op _ ws hop S2.out.row).mono ?_; rw [hbr]; rintro e w3 ⟨rfl, hb3⟩
               have I3 := I2.out.kept (Kp.ofBelow (S := fun _ => False) hb3) (fun e => e)
               have F3 := F2.out.kept (Kp.ofBelow (S := fun _ => False) hb3) (fun e => e)
               have S3 := dhid (S2.out.step hb3)
               obtain ⟨g0, g1⟩ := I3.cells
               obtain ⟨k0, k1, k2, k3, k4, k5⟩ := F3.cells
               have m64 := S3.out.row.cnt
               replace I3 := trivial
               replace F3 := trivial))
            go_step3
            exact ⟨rfl, g, _, _, _, _, _, _, _, _, _, _, _, _, _, _, _, _, _, _, _, _, _, _, _, _, _, _, _, _, _, _, _, _, _, _, _, _, _, _, _, _, _, _, _, _, _, _, _, _, _, _, _, _, _, _, _, _, _, _, _, _, _, _, _, rfl, dhid (HV.out ▸ S3.out.r)⟩
          | true =>
            by_cases hki : opKi op = 2
            · have hK1 : ((opKi op : Int) == 2) = true := by rw [hki]; rfl
              have hta := ta_cmp op hop hki
              have HV' := dhid ((lg_cmp her hbr hki).symm.trans HE'.out)
              by_cases hln : ws.length = opTa op
              · have h2 : ws.length = 2 := by omega
                have hq : ((ws.length : Int) == (opTa op : Int)) = true := by rw [hln]; simp
                have HV := dhid ((if_pos hln).symm.trans HV'.out)
                replace h2 := dhid h2
                clear hln hta hki
                go_wp2_with (first
            | (go_at_call 40; refine (HI.out _).mono ?_; rintro e w1 ⟨rfl, hb1⟩
               have I1 : InsD w1 wr.heap.size op arg := (hb1.block wr.heap.size (by simp)).trans (heap_alloc_new wr _)
               have S1 := dhid ((HS.out.alloc _).step hb1)
               obtain ⟨c0, c1⟩ := I1.cells
               have hl1 := I1.lt
               replace I1 := dhid I1)
            | (go_at_call 36; refine (HC.out _).mono ?_; rintro e w2 ⟨rfl, hb2⟩
               have I2 := (I1.out.kept (Kp.alloc (S := fun _ => False) w1 _) (fun e => e)).kept (Kp.ofBelow (S := fun _ => False) hb2) (fun e => e)
               have F2 : IfS w2 w1.heap.size op := (hb2.block w1.heap.size (by simp)).trans (heap_alloc_new w1 _)
               have S2 := dhid ((S1.out.alloc _).step hb2)
               obtain ⟨d0, d1⟩ := I2.cells
               obtain ⟨f0, f1, f2, f3, f4, f5⟩ := F2.cells
               replace I2 := dhid I2
               replace F2 := dhid F2)
            | (go_at_call 58; refine (bears_any (w.heap.size + 1) op _ ws hop S2.out.row).mono ?_; rw [hbr]; rintro e w3 ⟨rfl, hb3⟩
               have I3 := I2.out.kept (Kp.ofBelow (S := fun _ => False) hb3) (fun e => e)
               have F3 := F2.out.kept (Kp.ofBelow (S := fun _ => False) hb3) (fun e => e)
               have S3 := dhid (S2.out.step hb3)
               obtain ⟨g0, g1⟩ := I3.cells
               obtain ⟨k0, k1, k2, k3, k4, k5⟩ := F3.cells
               have m64 := S3.out.row.cnt
               replace I3 := trivial
               replace F3 := trivial)
            | (go_at_call 59; refine (compared_any (w.heap.size + 1) op arg at' (k + 1) _ ws S3.out.row h2.out).mono ?_; rintro e w4 ⟨rfl, hk4⟩
               have S4 := dhid (S3.out.r.play hk4))
            | (refine store_cl (cmpV ws op arg (k + 1)) rfl _ _ rfl rfl rfl sizeDPc S4.out ?_; intro w5 S5 hk5; replace S5 := dhid S5))
                go_step3
                exact ⟨rfl, g, _, _, _, _, _, _, _, _, _, _, _, _, _, _, _, _, _, _, _, _, _, _, _, _, _, _, _, _, _, _, _, _, _, _, _, _, _, _, _, _, _, _, _, _, _, _, _, _, _, _, _, _, _, _, _, _, _, _, _, _, _, _, _, rfl, dhid (HV.out ▸ S5.out)⟩
              · have hq : ((ws.length : Int) == (opTa op : Int)) = false := by rw [beq_eq_false_iff_ne]; omega
                have hq' : ¬ (ws.length : Int) = (opTa op : Int) := by omega
                have HV := dhid ((if_neg hln).symm.trans HV'.out)
                clear hln hta hki
                go_wp2_with (first
            | (go_at_call 40; refine (HI.out _).mono ?_; rintro e w1 ⟨rfl, hb1⟩
               have I1 : InsD w1 wr.heap.size op arg := (hb1.block wr.heap.size (by simp)).trans (heap_alloc_new wr _)
               have S1 := dhid ((HS.out.alloc _).step hb1)
               obtain ⟨c0, c1⟩ := I1.cells
               have hl1 := I1.lt
               replace I1 := dhid I1)
            | (go_at_call 36; refine (HC.out _).mono ?_; rintro e w2 ⟨rfl, hb2⟩
               have I2 := (I1.out.kept (Kp.alloc (S := fun _ => False) w1 _) (fun e => e)).kept (Kp.ofBelow (S := fun _ => False) hb2) (fun e => e)
               have F2 : IfS w2 w1.heap.size op := (hb2.block w1.heap.size (by simp)).trans (heap_alloc_new w1 _)
               have S2 := dhid ((S1.out.alloc _).step hb2)
               obtain ⟨d0, d1⟩ := I2.cells
               obtain ⟨f0, f1, f2, f3, f4, f5⟩ := F2.cells
               replace I2 := dhid I2
               replace F2 := dhid F2)
            | (go_at_call 58; refine (bears_any (w.heap.size + 1) op _ ws hop S2.out.row).mono ?_; rw [hbr]; rintro e w3 ⟨rfl, hb3⟩
               have I3 := I2.out.kept (Kp.ofBelow (S := fun _ => False) hb3) (fun e => e)
               have F3 := F2.out.kept (Kp.ofBelow (S := fun _ => False) hb3) (fun e => e)
               have S3 := dhid (S2.out.step hb3)
               obtain ⟨g0, g1⟩ := I3.cells
               obtain ⟨k0, k1, k2, k3, k4, k5⟩ := F3.cells
               have m64 := S3.out.row.cnt
               replace I3 := trivial
               replace F3 := trivial))
                go_step3
                exact ⟨rfl, g, _, _, _, _, _, _, _, _, _, _, _, _, _, _, _, _, _, _, _, _, _, _, _, _, _, _, _, _, _, _, _, _, _, _, _, _, _, _, _, _, _, _, _, _, _, _, _, _, _, _, _, _, _, _, _, _, _, _, _, _, _, _, _, rfl, dhid (HV.out ▸ S3.out.r)⟩
            · have hK1 : ((opKi op : Int) == 2) = false := by rw [beq_eq_false_iff_ne]; omega
              have hK2 : ¬ (opKi op : Int) = 2 := by omega
              cases hpl : plV ws op arg with
              | none =>
                have HV := dhid ((lg_no her hbr hki hpl).symm.trans HE'.out)
                go_wp2_with (first
            | (go_at_call 40; refine (HI.out _).mono ?_; rintro e w1 ⟨rfl, hb1⟩
               have I1 : InsD w1 wr.heap.size op arg := (hb1.block wr.heap.size (by simp)).trans (heap_alloc_new wr _)
               have S1 := dhid ((HS.out.alloc _).step hb1)
               obtain ⟨c0, c1⟩ := I1.cells
               have hl1 := I1.lt
               replace I1 := dhid I1)
            | (go_at_call 36; refine (HC.out _).mono ?_; rintro e w2 ⟨rfl, hb2⟩
               have I2 := (I1.out.kept (Kp.alloc (S := fun _ => False) w1 _) (fun e => e)).kept (Kp.ofBelow (S := fun _ => False) hb2) (fun e => e)
               have F2 : IfS w2 w1.heap.size op := (hb2.block w1.heap.size (by simp)).trans (heap_alloc_new w1 _)
               have S2 := dhid ((S1.out.alloc _).step hb2)
               obtain ⟨d0, d1⟩ := I2.cells
               obtain ⟨f0, f1, f2, f3, f4, f5⟩ := F2.cells
               replace I2 := dhid I2
               replace F2 := dhid F2)
            | (go_at_call 58; refine (bears_any (w.heap.size + 1) op _ ws hop S2.out.row).mono ?_; rw [hbr]; rintro e w3 ⟨rfl, hb3⟩
               have I3 := I2.out.kept (Kp.ofBelow (S := fun _ => False) hb3) (fun e => e)
               have F3 := F2.out.kept (Kp.ofBelow (S := fun _ => False) hb3) (fun e => e)
               have S3 := dhid (S2.out.step hb3)
               obtain ⟨g0, g1⟩ := I3.cells
               obtain ⟨k0, k1, k2, k3, k4, k5⟩ := F3.cells
               have m64 := S3.out.row.cnt
               replace I3 := trivial
               replace F3 := trivial)
            | (go_at_call 60; refine (plays_any (w.heap.size + 1) op arg _ ws hop harg S3.out.row hbr).mono ?_; rw [hpl, Option.isSome_none]; rintro e w4 ⟨rfl, hr4, hk4⟩
               have S4 := dhid (S3.out.r.play hk4)))
                go_step3
                exact ⟨rfl, g, _, _, _, _, _, _, _, _, _, _, _, _, _, _, _, _, _, _, _, _, _, _, _, _, _, _, _, _, _, _, _, _, _, _, _, _, _, _, _, _, _, _, _, _, _, _, _, _, _, _, _, _, _, _, _, _, _, _, _, _, _, _, _, rfl, dhid (HV.out ▸ S4.out)⟩
              | some ws' =>
                have HV' := dhid ((lg_on her hbr hki hpl).symm.trans HE'.out)
                by_cases hk0 : 0 < k
                · have hg1 : decide ((1 : Int) < (k : Int) + 1) = true := by simp; omega
                  by_cases hl1' : ws'.length ≤ 1
                  · have hg2 : decide ((ws'.length : Int) ≤ 1) = true := by simp; omega
                    have HV := dhid ((congrArg _ (if_pos (⟨hk0, hl1'⟩ : 0 < k ∧ ws'.length ≤ 1)).symm).trans HV'.out)
                    go_wp2_with (first
            | (go_at_call 40; refine (HI.out _).mono ?_; rintro e w1 ⟨rfl, hb1⟩
               have I1 : InsD w1 wr.heap.size op arg := (hb1.block wr.heap.size (by simp)).trans (heap_alloc_new wr _)
               have S1 := dhid ((HS.out.alloc _).step hb1)
               obtain ⟨c0, c1⟩ := I1.cells
               have hl1 := I1.lt
               replace I1 := dhid I1)
            | (go_at_call 36; refine (HC.out _).mono ?_; rintro e w2 ⟨rfl, hb2⟩
               have I2 := (I1.out.kept (Kp.alloc (S := fun _ => False) w1 _) (fun e => e)).kept (Kp.ofBelow (S := fun _ => False) hb2) (fun e => e)
               have F2 : IfS w2 w1.heap.size op := (hb2.block w1.heap.size (by simp)).trans (heap_alloc_new w1 _)
               have S2 := dhid ((S1.out.alloc _).step hb2)
               obtain ⟨d0, d1⟩ := I2.cells
               obtain ⟨f0, f1, f2, f3, f4, f5⟩ := F2.cells
               replace I2 := dhid I2
               replace F2 := dhid F2)
            | (go_at_call 58; refine (bears_any (w.heap.size + 1) op _ ws hop S2.out.row).mono ?_; rw [hbr]; rintro e w3 ⟨rfl, hb3⟩
               have I3 := I2.out.kept (Kp.ofBelow (S := fun _ => False) hb3) (fun e => e)
               have F3 := F2.out.kept (Kp.ofBelow (S := fun _ => False) hb3) (fun e => e)
               have S3 := dhid (S2.out.step hb3)
               obtain ⟨g0, g1⟩ := I3.cells
               obtain ⟨k0, k1, k2, k3, k4, k5⟩ := F3.cells
               have m64 := S3.out.row.cnt
               replace I3 := trivial
               replace F3 := trivial)
            | (go_at_call 60; refine (plays_any (w.heap.size + 1) op arg _ ws hop harg S3.out.row hbr).mono ?_; rw [hpl, Option.isSome_some]; rintro e w4 ⟨rfl, hr4, hk4⟩
               have S4 := dhid (S3.out.play hk4 (hr4 _ rfl))
               have n64 := S4.out.row.cnt
               replace hr4 := trivial)
            | (go_at_call 61; refine (left_any (w.heap.size + 1) at' (k + 1) _ ws' S4.out.row).mono ?_; rintro e w5 ⟨rfl, hb5⟩
               have S5 := dhid (S4.out.step hb5))
            | (refine store_cl (leftV ws' (k + 1)) rfl _ _ rfl rfl rfl sizeDPc S5.out.r ?_; intro w6 T6 hk6; have S6 := dhid (S5.out.laid hk6 T6); replace T6 := trivial))
                    go_roundg (L.length - (k + 1))
                    case measure => omega
                    case rel => exact ⟨k + 1, ws', leftV ws' (k + 1), by go_num, hlt, rfl, S6, HV⟩
                  · have hg2 : decide ((ws'.length : Int) ≤ 1) = false := by simp; omega
                    have HV := dhid ((congrArg _ (if_neg (fun e => hl1' e.2 : ¬ (0 < k ∧ ws'.length ≤ 1))).symm).trans HV'.out)
                    go_wp2_with (first
            | (go_at_call 40; refine (HI.out _).mono ?_; rintro e w1 ⟨rfl, hb1⟩
               have I1 : InsD w1 wr.heap.size op arg := (hb1.block wr.heap.size (by simp)).trans (heap_alloc_new wr _)
               have S1 := dhid ((HS.out.alloc _).step hb1)
               obtain ⟨c0, c1⟩ := I1.cells
               have hl1 := I1.lt
               replace I1 := dhid I1)
            | (go_at_call 36; refine (HC.out _).mono ?_; rintro e w2 ⟨rfl, hb2⟩
               have I2 := (I1.out.kept (Kp.alloc (S := fun _ => False) w1 _) (fun e => e)).kept (Kp.ofBelow (S := fun _ => False) hb2) (fun e => e)
               have F2 : IfS w2 w1.heap.size op := (hb2.block w1.heap.size (by simp)).trans (heap_alloc_new w1 _)
               have S2 := dhid ((S1.out.alloc _).step hb2)
               obtain ⟨d0, d1⟩ := I2.cells
               obtain ⟨f0, f1, f2, f3, f4, f5⟩ := F2.cells
               replace I2 := dhid I2
               replace F2 := dhid F2)
            | (go_at_call 58; refine (bears_any (w.heap.size + 1) op _ ws hop S2.out.row).mono ?_; rw [hbr]; rintro e w3 ⟨rfl, hb3⟩
               have I3 := I2.out.kept (Kp.ofBelow (S := fun _ => False) hb3) (fun e => e)
               have F3 := F2.out.kept (Kp.ofBelow (S := fun _ => False) hb3) (fun e => e)
               have S3 := dhid (S2.out.step hb3)
               obtain ⟨g0, g1⟩ := I3.cells
               obtain ⟨k0, k1, k2, k3, k4, k5⟩ := F3.cells
               have m64 := S3.out.row.cnt
               replace I3 := trivial
               replace F3 := trivial)
            | (go_at_call 60; refine (plays_any (w.heap.size + 1) op arg _ ws hop harg S3.out.row hbr).mono ?_; rw [hpl, Option.isSome_some]; rintro e w4 ⟨rfl, hr4, hk4⟩
               have S4 := dhid (S3.out.play hk4 (hr4 _ rfl))
               have n64 := S4.out.row.cnt
               replace hr4 := trivial))
                    go_roundg (L.length - (k + 1))
                    case measure => omega
                    case rel => exact ⟨k + 1, ws', c, by go_num, hlt, rfl, S4, HV⟩
                · have hg1 : decide ((1 : Int) < (k : Int) + 1) = false := by simp; omega
                  have HV := dhid ((congrArg _ (if_neg (fun e => hk0 e.1 : ¬ (0 < k ∧ ws'.length ≤ 1))).symm).trans HV'.out)
                  go_wp2_with (first
            | (go_at_call 40; refine (HI.out _).mono ?_; rintro e w1 ⟨rfl, hb1⟩
               have I1 : InsD w1 wr.heap.size op arg := (hb1.block wr.heap.size (by simp)).trans (heap_alloc_new wr _)
               have S1 := dhid ((HS.out.alloc _).step hb1)
               obtain ⟨c0, c1⟩ := I1.cells
               have hl1 := I1.lt
               replace I1 := dhid I1)
            | (go_at_call 36; refine (HC.out _).mono ?_; rintro e w2 ⟨rfl, hb2⟩
               have I2 := (I1.out.kept (Kp.alloc (S := fun _ => False) w1 _) (fun e => e)).kept (Kp.ofBelow (S := fun _ => False) hb2) (fun e => e)
               have F2 : IfS w2 w1.heap.size op := (hb2.block w1.heap.size (by simp)).trans (heap_alloc_new w1 _)
               have S2 := dhid ((S1.out.alloc _).step hb2)
               obtain ⟨d0, d1⟩ := I2.cells
               obtain ⟨f0, f1, f2, f3, f4, f5⟩ := F2.cells
               replace I2 := dhid I2
               replace F2 := dhid F2)
            | (go_at_call 58; refine (bears_any (w.heap.size + 1) op _ ws hop S2.out.row).mono ?_; rw [hbr]; rintro e w3 ⟨rfl, hb3⟩
               have I3 := I2.out.kept (Kp.ofBelow (S := fun _ => False) hb3) (fun e => e)
               have F3 := F2.out.kept (Kp.ofBelow (S := fun _ => False) hb3) (fun e => e)
               have S3 := dhid (S2.out.step hb3)
               obtain ⟨g0, g1⟩ := I3.cells
               obtain ⟨k0, k1, k2, k3, k4, k5⟩ := F3.cells
               have m64 := S3.out.row.cnt
               replace I3 := trivial
               replace F3 := trivial)
            | (go_at_call 60; refine (plays_any (w.heap.size + 1) op arg _ ws hop harg S3.out.row hbr).mono ?_; rw [hpl, Option.isSome_some]; rintro e w4 ⟨rfl, hr4, hk4⟩
               have S4 := dhid (S3.out.play hk4 (hr4 _ rfl))
               have n64 := S4.out.row.cnt
               replace hr4 := trivial))
                  go_roundg (L.length - (k + 1))
                  case measure => omega
                  case rel => exact ⟨k + 1, ws', c, by go_num, hlt, rfl, S4, HV⟩
        · have hE1 : ((erV op arg : Int) != 0) = true := by simp; omega
          have HV := dhid ((lg_er her).symm.trans HE'.out)
          go_wp2_with (first
            | (go_at_call 40; refine (HI.out _).mono ?_; rintro e w1 ⟨rfl, hb1⟩
               have I1 : InsD w1 wr.heap.size op arg := (hb1.block wr.heap.size (by simp)).trans (heap_alloc_new wr _)
               have S1 := dhid ((HS.out.alloc _).step hb1)
               obtain ⟨c0, c1⟩ := I1.cells
               have hl1 := I1.lt
               replace I1 := dhid I1)
            | (go_at_call 36; refine (HC.out _).mono ?_; rintro e w2 ⟨rfl, hb2⟩
               have I2 := (I1.out.kept (Kp.alloc (S := fun _ => False) w1 _) (fun e => e)).kept (Kp.ofBelow (S := fun _ => False) hb2) (fun e => e)
               have F2 : IfS w2 w1.heap.size op := (hb2.block w1.heap.size (by simp)).trans (heap_alloc_new w1 _)
               have S2 := dhid ((S1.out.alloc _).step hb2)
               obtain ⟨d0, d1⟩ := I2.cells
               obtain ⟨f0, f1, f2, f3, f4, f5⟩ := F2.cells
               replace I2 := dhid I2
               replace F2 := dhid F2))
          go_step3
          exact ⟨rfl, g, _, _, _, _, _, _, _, _, _, _, _, _, _, _, _, _, _, _, _, _, _, _, _, _, _, _, _, _, _, _, _, _, _, _, _, _, _, _, _, _, _, _, _, _, _, _, _, _, _, _, _, _, _, _, _, _, _, _, _, _, _, _, _, rfl, dhid (HV.out ▸ S2.out.r)⟩
      · have hd : decide ((k : Int) < L.length) = false := by simp; omega
        go_wp2
        go_step3
        obtain ⟨q0, q1, q2, q3⟩ := HS.out.r.cells
        go_wp2_with (refine wpList_store_rowD rfl _ _ _ rfl w.heap.size _ (pcA at' c) rfl rfl HS.out.r.res (by rw [sizeDPc]; rfl) rfl (by simp [pcA, Value.oneCell']) ?_)
        simp only [Exit.jump]
        have HV : c = lgV L := by
          have := HE.out
          rw [List.drop_eq_nil_of_le (by omega)] at this
          exact this
        refine bodyPost_ret (resDPc (p := 4) (by kernel_rfl) _ w.heap.size (pcA at' c) rfl (setRow_heap _ _ _ _ _ _ HS.out.r.res) _ rfl) rfl ⟨by rw [HV], HS.out.r.bel.trans ((KpSetRow (S := fun k => k = w.heap.size) _ w.heap.size _ rfl).below HS.out.r.bel.size (fun i e => by omega))⟩
  · rintro a' w' ⟨g, u2, u3, u5, u7, u8, u9, u10, u11, u12, u13, u14, u15, u16, u17, u18, u19, u20, u21, u22, u23, u24, u25, u26, u27, u28, u29, u30, u31, u32, u33, u34, u35, u36, u37, u38, u39, u40, u41, u42, u43, u44, u45, u46, u47, u48, u49, u50, u51, u52, u53, u54, u55, u56, u57, u58, u59, u60, u61, u62, u63, u64, u65, u66, rfl, HS⟩
    have hgg := HS.out.gg
    obtain ⟨q0, q1, q2, q3⟩ := HS.out.cells
    go_wp2_with (refine wpList_store_rowD rfl _ _ _ rfl w.heap.size _ (pcA at' (lgV L)) rfl rfl HS.out.res (by rw [sizeDPc]; rfl) rfl (by simp [pcA, Value.oneCell']) ?_)
    simp only [Exit.jump]
    refine bodyPost_ret (resDPc (p := 4) (by kernel_rfl) _ w.heap.size (pcA at' (lgV L)) rfl (setRow_heap _ _ _ _ _ _ HS.out.res) _ rfl) rfl ⟨rfl, HS.out.bel.trans ((KpSetRow (S := fun k => k = w.heap.size) _ w.heap.size _ rfl).below HS.out.bel.size (fun i e => by omega))⟩
end Go.Proofs.YtgbpfejodpplbaaGreatDoor
