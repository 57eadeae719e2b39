import Derived.Test.YtpohapehkfpcaaaDoorEAk
namespace Go.Proofs.YtpohapehkfpcaaaDoor
open Go.RowKit Go.WideShapes
set_option maxRecDepth 100000

/-- a segment that is none -/
def NotMade (p : Value) (w : World) : Prop := Calls Tryd.prog 30 #[p] w fun e w' => e = .returned (.bool false) ∧ w' = w
theorem nst (p : Value) (x0 : Int) (x1 : Int) (x2 : Int) (w : World) (hM : NotMade p w) : Calls Tryd.prog 34 #[p, (.int .u32 x0), (.int .u32 x1), (.int .i64 x2)] w fun e w' => e = .returned (.tuple #[]) ∧ w' = w := by
  have hI : Calls Tryd.prog 30 #[p] w fun e w' => e = .returned (.bool false) ∧ w' = w := hM
  clear hM
  go_enter Tryd.func34, Tryd.ntmps34
  go_wp2_with (first
    | (go_at_call 30; with_reducible refine hI.mono ?_; rintro e wq ⟨rfl, hq⟩; subst wq)
    | fail)
  refine bodyPost_ret (results_none rfl _ _ _) rfl ?_
  exact ⟨rfl, rfl⟩
theorem nst1 (p : Value) (x0 : Int) (x1 : Int) (w : World) (hM : NotMade p w) : Calls Tryd.prog 14 #[p, (.int .u32 x0), (.int .u32 x1)] w fun e w' => e = .returned (.tuple #[]) ∧ w' = w := by
  have hI := nst p x0 x1 1 w hM
  clear hM
  go_enter Tryd.func14, Tryd.ntmps14
  go_wp2_with (first
    | (go_at_call 34; with_reducible refine hI.mono ?_; rintro e wq ⟨rfl, hq⟩; subst wq)
    | fail)
  go_end0
  exact ⟨rfl, rfl⟩
theorem nst2 (p : Value) (x0 : Int) (x1 : Int) (w : World) (hM : NotMade p w) : Calls Tryd.prog 24 #[p, (.int .u32 x0), (.int .u32 x1)] w fun e w' => e = .returned (.tuple #[]) ∧ w' = w := by
  have hI := nst p x0 x1 2 w hM
  clear hM
  go_enter Tryd.func24, Tryd.ntmps24
  go_wp2_with (first
    | (go_at_call 34; with_reducible refine hI.mono ?_; rintro e wq ⟨rfl, hq⟩; subst wq)
    | fail)
  go_end0
  exact ⟨rfl, rfl⟩
theorem nst4 (p : Value) (x0 : Int) (x1 : Int) (w : World) (hM : NotMade p w) : Calls Tryd.prog 22 #[p, (.int .u32 x0), (.int .u32 x1)] w fun e w' => e = .returned (.tuple #[]) ∧ w' = w := by
  have hI := nst p x0 x1 4 w hM
  clear hM
  go_enter Tryd.func22, Tryd.ntmps22
  go_wp2_with (first
    | (go_at_call 34; with_reducible refine hI.mono ?_; rintro e wq ⟨rfl, hq⟩; subst wq)
    | fail)
  go_end0
  exact ⟨rfl, rfl⟩
theorem nld (p : Value) (x0 : Int) (x1 : Int) (w : World) (hM : NotMade p w) : Calls Tryd.prog 33 #[p, (.int .u32 x0), (.int .i64 x1)] w fun e w' => e = .returned (.int .u32 0) ∧ w' = w := by
  have hI : Calls Tryd.prog 30 #[p] w fun e w' => e = .returned (.bool false) ∧ w' = w := hM
  clear hM
  go_enter Tryd.func33, Tryd.ntmps33
  go_wp2_with (first
    | (go_at_call 30; with_reducible refine hI.mono ?_; rintro e wq ⟨rfl, hq⟩; subst wq)
    | fail)
  go_ret
  exact ⟨rfl, rfl⟩
theorem nld1 (p : Value) (x0 : Int) (w : World) (hM : NotMade p w) : Calls Tryd.prog 23 #[p, (.int .u32 x0)] w fun e w' => e = .returned (.int .u32 0) ∧ w' = w := by
  have hI := nld p x0 1 w hM
  clear hM
  go_enter Tryd.func23, Tryd.ntmps23
  go_wp2_with (first
    | (go_at_call 33; with_reducible refine hI.mono ?_; rintro e wq ⟨rfl, hq⟩; subst wq)
    | fail)
  go_ret
  exact ⟨rfl, rfl⟩
theorem nld2 (p : Value) (x0 : Int) (w : World) (hM : NotMade p w) : Calls Tryd.prog 13 #[p, (.int .u32 x0)] w fun e w' => e = .returned (.int .u32 0) ∧ w' = w := by
  have hI := nld p x0 2 w hM
  clear hM
  go_enter Tryd.func13, Tryd.ntmps13
  go_wp2_with (first
    | (go_at_call 33; with_reducible refine hI.mono ?_; rintro e wq ⟨rfl, hq⟩; subst wq)
    | fail)
  go_ret
  exact ⟨rfl, rfl⟩
theorem nld4 (p : Value) (x0 : Int) (w : World) (hM : NotMade p w) : Calls Tryd.prog 11 #[p, (.int .u32 x0)] w fun e w' => e = .returned (.int .u32 0) ∧ w' = w := by
  have hI := nld p x0 4 w hM
  clear hM
  go_enter Tryd.func11, Tryd.ntmps11
  go_wp2_with (first
    | (go_at_call 33; with_reducible refine hI.mono ?_; rintro e wq ⟨rfl, hq⟩; subst wq)
    | fail)
  go_ret
  exact ⟨rfl, rfl⟩
theorem nbits (p : Value) (w : World) (hM : NotMade p w) : Calls Tryd.prog 29 #[p] w fun e w' => e = .returned (.int .i64 0) ∧ w' = w := by
  have hI : Calls Tryd.prog 30 #[p] w fun e w' => e = .returned (.bool false) ∧ w' = w := hM
  clear hM
  go_enter Tryd.func29, Tryd.ntmps29
  go_wp2_with (first
    | (go_at_call 30; with_reducible refine hI.mono ?_; rintro e wq ⟨rfl, hq⟩; subst wq)
    | fail)
  go_ret
  exact ⟨rfl, rfl⟩
theorem ncopy (p : Value) (x0 : Int) (x1 : Int) (x2 : Int) (w : World) (hM : NotMade p w) : Calls Tryd.prog 10 #[p, (.int .u32 x0), (.int .u32 x1), (.int .u32 x2)] w fun e w' => e = .returned (.int .i64 1) ∧ w' = w := by
  have hI : Calls Tryd.prog 30 #[p] w fun e w' => e = .returned (.bool false) ∧ w' = w := hM
  clear hM
  go_enter Tryd.func10, Tryd.ntmps10
  go_wp2_with (first
    | (go_at_call 30; with_reducible refine hI.mono ?_; rintro e wq ⟨rfl, hq⟩; subst wq)
    | fail)
  go_ret
  exact ⟨rfl, rfl⟩
theorem nread (p : Value) (x0 : Int) (x1 : Int) (w : World) (hM : NotMade p w) : Calls Tryd.prog 16 #[p, (.int .u32 x0), (.int .i64 x1)] w fun e w' => e = .returned (.tuple #[.slice none 0 0, .int .i64 1]) ∧ w' = w := by
  have hI : Calls Tryd.prog 30 #[p] w fun e w' => e = .returned (.bool false) ∧ w' = w := hM
  clear hM
  go_enter Tryd.func16, Tryd.ntmps16
  go_wp2_with (first
    | (go_at_call 30; with_reducible refine hI.mono ?_; rintro e wq ⟨rfl, hq⟩; subst wq)
    | fail)
  go_ret2
  exact ⟨rfl, rfl⟩
theorem nbytes (p : Value) (w : World) (hM : NotMade p w) : Calls Tryd.prog 21 #[p] w fun e w' => e = .returned (.slice none 0 0) ∧ w' = w := by
  have hI : Calls Tryd.prog 30 #[p] w fun e w' => e = .returned (.bool false) ∧ w' = w := hM
  clear hM
  go_enter Tryd.func21, Tryd.ntmps21
  go_wp2_with (first
    | (go_at_call 30; with_reducible refine hI.mono ?_; rintro e wq ⟨rfl, hq⟩; subst wq)
    | fail)
  go_ret
  exact ⟨rfl, rfl⟩
theorem ntouch (p : Value) (w : World) (hM : NotMade p w) : Calls Tryd.prog 15 #[p] w fun e w' => e = .returned (.slice none 0 0) ∧ w' = w := by
  have hI : Calls Tryd.prog 30 #[p] w fun e w' => e = .returned (.bool false) ∧ w' = w := hM
  clear hM
  go_enter Tryd.func15, Tryd.ntmps15
  go_wp2_with (first
    | (go_at_call 30; with_reducible refine hI.mono ?_; rintro e wq ⟨rfl, hq⟩; subst wq)
    | fail)
  go_ret
  exact ⟨rfl, rfl⟩
theorem nclone (p : Value) (w : World) (hM : NotMade p w) : Calls Tryd.prog 28 #[p] w fun e w' => e = .returned (.pointer none) ∧ w' = w := by
  have hI : Calls Tryd.prog 30 #[p] w fun e w' => e = .returned (.bool false) ∧ w' = w := hM
  clear hM
  go_enter Tryd.func28, Tryd.ntmps28
  go_wp2_with (first
    | (go_at_call 30; with_reducible refine hI.mono ?_; rintro e wq ⟨rfl, hq⟩; subst wq)
    | fail)
  go_ret
  exact ⟨rfl, rfl⟩
theorem nwrite (p b : Value) (x0 : Int) (w : World) (hM : NotMade p w) : Calls Tryd.prog 25 #[p, .int .u32 x0, b] w fun e w' => e = .returned (.int .i64 1) ∧ w' = w := by
  have hI : Calls Tryd.prog 30 #[p] w fun e w' => e = .returned (.bool false) ∧ w' = w := hM
  clear hM
  go_enter Tryd.func25, Tryd.ntmps25
  go_wp2_with (first
    | (go_at_call 30; with_reducible refine hI.mono ?_; rintro e wq ⟨rfl, hq⟩; subst wq)
    | fail)
  go_ret
  exact ⟨rfl, rfl⟩
theorem nlog (p : Value) (b : Bool) (w : World) (hM : NotMade p w) : Calls Tryd.prog 12 #[p, .bool b] w fun e w' => e = .returned (.tuple #[]) ∧ w' = w := by
  have hI : Calls Tryd.prog 30 #[p] w fun e w' => e = .returned (.bool false) ∧ w' = w := hM
  clear hM
  go_enter Tryd.func12, Tryd.ntmps12
  go_wp2_with (first
    | (go_at_call 30; with_reducible refine hI.mono ?_; rintro e wq ⟨rfl, hq⟩; subst wq)
    | fail)
  refine bodyPost_ret (results_none rfl _ _ _) rfl ?_
  exact ⟨rfl, rfl⟩
theorem nsame (p q : Value) (w : World) (hM : ∀ W : World, W.heap = w.heap → NotMade p W) : Calls Tryd.prog 20 #[p, q] w fun e w' => e = .returned (.bool false) ∧ ∃ n, w' = w.drewN n := by
  have hI : ∀ n, Calls Tryd.prog 30 #[p] (w.drewN n) fun e w' => e = .returned (.bool false) ∧ w' = w.drewN n := fun n => hM (w.drewN n) rfl
  have HI := hidS hI
  clear hM hI
  go_enter Tryd.func20, Tryd.ntmps20
  go_wp2_with fail
  go_quiet (with_reducible refine Calls.quiet_of_same (HI.out _))
  go_wp2_with fail
  go_ret
  exact ⟨rfl, _, rfl⟩
set_option maxHeartbeats 2000000 in
theorem nothing_any (p : Option Addr) (w : World) (hA : ∀ W : World, W.heap = w.heap → NotMade (.pointer p) W) : Calls Tryd.prog 19 #[.pointer p] w fun e w' => e = .returned (.bool true) ∧ ∃ n, w' = w.drewN n := by
  have hM := hA w rfl
  have s1 := nst1 (.pointer p) 1 2 w hM
  have s2 := nst2 (.pointer p) 1 2 w hM
  have s4 := nst4 (.pointer p) 1 2 w hM
  have lg := nlog (.pointer p) true w hM
  have bi := nbits (.pointer p) w hM
  have l1 := nld1 (.pointer p) 1 w hM
  have l2 := nld2 (.pointer p) 1 w hM
  have l4 := nld4 (.pointer p) 1 w hM
  have k1 := ncopy (.pointer p) 1 2 3 w hM
  have k2 := ncopy (.pointer p) 1 2 5000 w hM
  have rd := nread (.pointer p) 1 (-2) w hM
  have wr := nwrite (.pointer p) (.slice none 0 0) 1 w hM
  have yt := nbytes (.pointer p) w hM
  have to := ntouch (.pointer p) w hM
  have cl := nclone (.pointer p) w hM
  have m1 := nsame (.pointer p) (.pointer p) w hA
  have m2 := fun n => nsame (.pointer p) (.pointer none) (w.drewN n) (fun W hW => hA W hW)
  clear hM hA
  have Hs1 := hidS s1
  have Hs2 := hidS s2
  have Hs4 := hidS s4
  have Hlg := hidS lg
  have Hbi := hidS bi
  have Hl1 := hidS l1
  have Hl2 := hidS l2
  have Hl4 := hidS l4
  have Hk1 := hidS k1
  have Hk2 := hidS k2
  have Hrd := hidS rd
  have Hwr := hidS wr
  have Hyt := hidS yt
  have Hto := hidS to
  have Hcl := hidS cl
  have Hm1 := hidS m1
  have Hm2 := hidS m2
  clear s1 s2 s4 lg bi l1 l2 l4 k1 k2 rd wr yt to cl m1 m2
  go_enter Tryd.func19, Tryd.ntmps19
  go_wp2_with (first
    | (go_at_call 14; with_reducible refine Hs1.out.mono ?_; rintro e wq ⟨rfl, hq⟩; subst wq)
    | (go_at_call 24; with_reducible refine Hs2.out.mono ?_; rintro e wq ⟨rfl, hq⟩; subst wq)
    | (go_at_call 22; with_reducible refine Hs4.out.mono ?_; rintro e wq ⟨rfl, hq⟩; subst wq)
    | (go_at_call 12; with_reducible refine Hlg.out.mono ?_; rintro e wq ⟨rfl, hq⟩; subst wq)
    | (go_at_call 29; with_reducible refine Hbi.out.mono ?_; rintro e wq ⟨rfl, hq⟩; subst wq)
    | (go_at_call 23; with_reducible refine Hl1.out.mono ?_; rintro e wq ⟨rfl, hq⟩; subst wq)
    | (go_at_call 13; with_reducible refine Hl2.out.mono ?_; rintro e wq ⟨rfl, hq⟩; subst wq)
    | (go_at_call 11; with_reducible refine Hl4.out.mono ?_; rintro e wq ⟨rfl, hq⟩; subst wq)
    | (go_at_call 10; with_reducible refine Hk1.out.mono ?_; rintro e wq ⟨rfl, hq⟩; subst wq)
    | (go_at_call 10; with_reducible refine Hk2.out.mono ?_; rintro e wq ⟨rfl, hq⟩; subst wq)
    | (go_at_call 16; with_reducible refine Hrd.out.mono ?_; rintro e wq ⟨rfl, hq⟩; subst wq)
    | (go_at_call 25; with_reducible refine Hwr.out.mono ?_; rintro e wq ⟨rfl, hq⟩; subst wq)
    | (go_at_call 21; with_reducible refine Hyt.out.mono ?_; rintro e wq ⟨rfl, hq⟩; subst wq)
    | (go_at_call 15; with_reducible refine Hto.out.mono ?_; rintro e wq ⟨rfl, hq⟩; subst wq)
    | (go_at_call 28; with_reducible refine Hcl.out.mono ?_; rintro e wq ⟨rfl, hq⟩; subst wq)
    | (go_at_call 20; with_reducible refine Hm1.out.mono ?_; rintro e wq ⟨rfl, n1, hq⟩; subst wq)
    | (go_at_call 20; with_reducible refine (Hm2.out _).mono ?_; rintro e wq ⟨rfl, n2, hq⟩; subst wq)
    | fail)
  go_ret
  exact ⟨rfl, _, rfl⟩
end Go.Proofs.YtpohapehkfpcaaaDoor
