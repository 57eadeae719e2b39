import Derived.Test.YtelddclhoojjmaaLKept
import Derived.Test.YtelddclhoojjmaaLRefSum
namespace Go.Proofs.Ytelddclhoojjmaa
open Go.RowKit

structure SOp where
  J : Bool
  ao : Option Addr
  cap : Nat
  zs : List Int
  A : Int
  B : Int
  N : Int

structure SOp.At (x : SOp) (w : World) (b o : Nat) : Prop where
  c0 : w.cell? ⟨b, o, none⟩ = some (.bool x.J)
  c1 : w.cell? ⟨b, o + 1, none⟩ = some (.slice x.ao x.zs.length x.cap)
  c2 : w.cell? ⟨b, o + 2, none⟩ = some (.int .u32 x.A)
  c3 : w.cell? ⟨b, o + 3, none⟩ = some (.int .u32 x.B)
  c4 : w.cell? ⟨b, o + 4, none⟩ = some (.int .i64 x.N)
structure SOp.Ok (x : SOp) (w : World) : Prop where
  len : x.zs.length ≤ 140737488351232
  wf : ∀ z ∈ x.zs, 0 ≤ z ∧ z ≤ 255
  rd : Reads w x.ao x.zs w.heap.size
  a : 0 ≤ x.A ∧ x.A ≤ 4294967295
  b : 0 ≤ x.B ∧ x.B ≤ 4294967295
  n : -9223372036854775808 ≤ x.N ∧ x.N ≤ 9223372036854775807

def Script (w : World) (ao : Option Addr) (n : Nat) (S : Nat → SOp) : Prop :=
  ∀ i, i < n → ∃ b off, ao = some ⟨b, off, none⟩ ∧ b < w.heap.size ∧ (S i).At w b (off + i * 5) ∧ (S i).Ok w

theorem sum_n (n : Nat) (ao : Option Addr) (cap : Nat) (zs : List Int) (w : World) (hz : zs.length = n) (hn : n ≤ 140737488355328) (hwf : ∀ z ∈ zs, 0 ≤ z ∧ z ≤ 255) (hr : Reads w ao zs w.heap.size) :
    Calls Try.prog 6 #[.slice ao n cap] w fun e w' => e = .returned (.int .u32 (adl zs)) ∧ w' = w := by
  subst hz; exact sum_any ao cap zs w hn hwf hr
theorem rsum_n (n : Nat) (ao : Option Addr) (cap : Nat) (zs : List Int) (w : World) (hz : zs.length = n) (hn : n ≤ 140737488355328) (hwf : ∀ z ∈ zs, 0 ≤ z ∧ z ≤ 255) (hr : Reads w ao zs w.heap.size) :
    Calls Try.prog 10 #[.slice ao n cap] w fun e w' => e = .returned (.int .u32 (adl zs)) ∧ w' = w := by
  subst hz; exact rsum_any ao cap zs w hn hwf hr

set_option maxRecDepth 100000 in
set_option maxHeartbeats 2000000 in
theorem sums_any (ao : Option Addr) (n cap : Nat) (S : Nat → SOp) (w : World) (hn : n ≤ 140737488355328) (hS : Script w ao n S) :
    Calls Try.prog 3 #[.slice ao n cap] w fun e w' => e = .returned (.bool true) ∧ Below w.heap.size w w' := by
  have own0 := World.ownsRow_lit (size := 1) w (e := 5) #[.int .u8 97, .int .u8 98, .int .u8 99] 3 (Nat.le_refl _) (by decide) rfl
  have HS0 := sum_n 3 (some ⟨w.heap.size, 0, none⟩) 3 [97, 98, 99] _ rfl (by omega) (by decide) (reads_own (zs := [97, 98, 99]) (L := [97, 98, 99]) own0 (by decide))
  rw [show adl [97, 98, 99] = 38600999 by decide] at HS0
  have hb0 : Below w.heap.size w (w.alloc (.cells #[.int .u8 97, .int .u8 98, .int .u8 99] 5)) := (Below.refl w.heap.size w).alloc (Nat.le_refl _) _
  clear own0
  go_enter Try.func3, Try.ntmps3
  go_wp2_with (go_at_call 6; refine HS0.mono ?_; rintro e _ ⟨rfl, rfl⟩)
  go_loopw [3] (fun i wr => ∃ k : Nat, k ≤ n ∧ i = .int .i64 k ∧ Below w.heap.size w wr)
    (fun i _ => n - (intOf i).toNat)
  case atStart => exact ⟨0, Nat.zero_le _, rfl, hb0⟩
  case round =>
    clear HS0 hb0
    obtain ⟨k, hk, rfl, hb⟩ := hrel
    by_cases hlt : k < n
    · obtain ⟨b, off, rfl, hbl, hAt, hOk⟩ := hS k hlt
      generalize S k = x at hAt hOk
      obtain ⟨J, oo, oc, zs, A, B, N⟩ := x
      have c0 : wr.cell? ⟨b, off + k * 5, none⟩ = some (.bool J) := (hb.cell (p := ⟨b, off + k * 5, none⟩) hbl).trans hAt.c0
      have c1 : wr.cell? ⟨b, off + k * 5 + 1, none⟩ = some (.slice oo zs.length oc) := (hb.cell (p := ⟨b, off + k * 5 + 1, none⟩) hbl).trans hAt.c1
      have c2 : wr.cell? ⟨b, off + k * 5 + 2, none⟩ = some (.int .u32 A) := (hb.cell (p := ⟨b, off + k * 5 + 2, none⟩) hbl).trans hAt.c2
      have c3 : wr.cell? ⟨b, off + k * 5 + 3, none⟩ = some (.int .u32 B) := (hb.cell (p := ⟨b, off + k * 5 + 3, none⟩) hbl).trans hAt.c3
      have c4 : wr.cell? ⟨b, off + k * 5 + 4, none⟩ = some (.int .i64 N) := (hb.cell (p := ⟨b, off + k * 5 + 4, none⟩) hbl).trans hAt.c4
      obtain ⟨hlen, hwf, hrd, hA, hB, hN⟩ := hOk
      simp only at hlen hwf hrd hA hB hN
      have HW : Hid (∀ z ∈ zs, 0 ≤ z ∧ z ≤ 255) := hwf
      clear hAt hwf
      have hB0 := hb.size
      cases J
      · have hb1 := hb.alloc hB0 (.cells #[.bool false, .slice oo zs.length oc, .int .u32 A, .int .u32 B, .int .i64 N] 27)
        go_wp2_with fail
        have hr1 := (hrd.below hb1).mono hb1.size
        refine (lent_any oo oc zs _ hlen hr1).mono ?_
        rintro e w1 ⟨v, rfl, own1, hbb⟩
        obtain ⟨g, cf, rfl, hcf⟩ := own_form own1 (by omega)
        have hz1 := hbb.size
        have hgl := own1.lt g rfl
        have hcf' : (zs.length : Int) ≤ (cf : Int) := by omega
        have co : w1.cell? ⟨wr.heap.size, 1, none⟩ = some (.slice oo zs.length oc) := (hbb.cell (p := ⟨wr.heap.size, 1, none⟩) (by simp)).trans (by simp)
        have hb2 := hb1.trans (hbb.mono hb1.size)
        have hcl : ∀ i, i < zs.length + 64 → w1.cell? ⟨g, i, none⟩ = some (.int .u8 ((zs ++ marks 0 64).getD i 0)) := fun i hi => own_get own1 (by simpa [marks_len] using hi)
        have hr2 : Reads w1 oo zs w1.heap.size := (hrd.below hb2).mono hb2.size
        have hr3 : Reads w1 (some ⟨g, 0, none⟩) zs w1.heap.size := reads_own own1 (by simp)
        have HC : Hid (∀ i, i < zs.length + 64 → w1.cell? ⟨g, i, none⟩ = some (.int .u8 ((zs ++ marks 0 64).getD i 0))) := hcl
        have HR2 : Hid (Reads w1 oo zs w1.heap.size) := hr2
        have HR3 : Hid (Reads w1 (some ⟨g, 0, none⟩) zs w1.heap.size) := hr3
        clear hcl hr2 hr3 hr1 hrd
        go_wp2_with fail
        go_quiet (first | (go_at_call 6; exact Calls.quiet_of_same (sum_any _ _ zs _ (by omega) HW.out (HR3.out.drewN _))) | (go_at_call 10; exact Calls.quiet_of_same (rsum_any _ _ zs _ (by omega) HW.out (HR2.out.drewN _))) | (go_at_call 11; exact Calls.quiet_of (kept_any _ _ zs g _ _ hlen (HR2.out.drewN _) HC.out)))
        go_wp2_with fail
        have own2 : (w1.drewN nq).ownsRow _ 5 1 _ _ _ := own_below own1 (below_drewN (Below.refl _ _) nq)
        refine (over_any g cf zs.length (zs.length + 64) _ (zs ++ marks 0 64) _ (by omega) (by omega) (by simp [marks_len]) own2).mono ?_
        rintro e w2 ⟨rfl, own3, hb3, hs3, _⟩
        have hb4 := (below_drewN hb2 nq).trans (hb3.mono (by simp; omega))
        have HR4 : Hid (Reads w2 (some ⟨g, 0, none⟩) (marks (-1) zs.length) w2.heap.size) := reads_own own3 (by simp [marks_len])
        clear own1 own2 own3 HC HR2 HR3 hb2 hb3
        have hml := marks_len (-1) zs.length
        go_wp2_with (first | (go_at_call 6; refine (sum_n _ _ _ (marks (-1) zs.length) _ hml (by omega) (marks_wf _ _) HR4.out).mono ?_; rintro e _ ⟨rfl, rfl⟩) | (go_at_call 10; refine (rsum_n _ _ _ (marks (-1) zs.length) _ hml (by omega) (marks_wf _ _) HR4.out).mono ?_; rintro e _ ⟨rfl, rfl⟩))
        go_roundw
        case rel => exact ⟨k + 1, by omega, by go_num, hb4⟩
        case measure => simp [intOf]; omega
      · have hb1 := hb.alloc hB0 (.cells #[.bool true, .slice oo zs.length oc, .int .u32 A, .int .u32 B, .int .i64 N] 27)
        go_wp2_with fail
        go_quiet (first | (go_at_call 7; exact Calls.quiet_of_same (join_any _ _ _ _ hA.1 hA.2 hB.1 hB.2 hN.1 hN.2)) | (go_at_call 8; exact Calls.quiet_of_same (rjoin_any _ _ _ _ hA.1 hA.2 hB.1 hB.2 hN.1 hN.2)))
        go_wp2_with fail
        go_roundw
        case rel => exact ⟨k + 1, by omega, by go_num, below_drewN hb1 _⟩
        case measure => simp [intOf]; omega
    · go_wp2
      go_ret
      exact ⟨rfl, hb⟩
end Go.Proofs.Ytelddclhoojjmaa
