import Derived.Test.YtagflmjiajjkcaaDoorELg
namespace Go.Proofs.YtagflmjiajjkcaaDoor
open Go.RowKit Go.WideShapes
set_option maxRecDepth 100000

/-- bytes that count up -/
def ramp (n : Nat) : List Int := (List.range n).map fun i : Nat => (i : Int) % 256
theorem ramp_len (n : Nat) : (ramp n).length = n := by simp [ramp]
theorem ramp_succ (n : Nat) : ramp (n + 1) = ramp n ++ [(n : Int) % 256] := by simp [ramp, List.range_succ]
theorem ramp_wf (n : Nat) : ∀ z ∈ ramp n, 0 ≤ z ∧ z ≤ 255 := by
  intro z hz
  simp only [ramp, List.mem_map] at hz
  obtain ⟨i, _, rfl⟩ := hz
  omega
set_option maxHeartbeats 1000000 in
theorem made0_any (w : World) :
    Calls Tryd.prog 9 #[.int .u8 0, .slice none 0 0] w fun e w' => ∃ a, e = .returned (.pointer (some ⟨a, 0, none⟩)) ∧ Seg w.heap.size w' a (ramp 256) ∧ Below w.heap.size w w' := by
  have hF := fun ao cap W hr => from_any ao cap (ramp 256) W (by rw [ramp_len]; exact .inl rfl) (ramp_wf 256) hr
  rw [ramp_len] at hF
  have HF := hidS hF
  obtain ⟨i0, hi, hz0, hz1, hz2⟩ := info_parts Tryd.info5
  clear hF
  go_enter Tryd.func9, Tryd.ntmps9
  go_wp2_with fail
  go_loopw [6, 7] (fun v i wr => ∃ (k : Nat), k ≤ 256 ∧ i = .int .i64 k ∧ wr.ownsRow w.heap.size 5 1 v k (bv (ramp k)) ∧ Below w.heap.size w wr)
    (fun _ i _ => 256 - (intOf i).toNat)
  case atStart => exact ⟨0, Nat.zero_le _, rfl, by simpa [ramp, bv] using World.ownsRow_nil w w.heap.size 5 1, Below.refl _ _⟩
  case round =>
    obtain ⟨k, hk, rfl, hown, hbw⟩ := hrel
    by_cases hlt : k < 256
    · have hltI : (k : Int) < 256 := by omega
      have hB := hbw.size
      have HBW := hidS hbw
      have hrk : ramp (k + 1) = ramp k ++ [(k : Int)] := by rw [ramp_succ]; congr 2; omega
      have HCC := hidS hrk
      clear hrk hbw
      go_wp2_with (at_builtin; refine wpList_append_own _ rfl _ _ 35 rfl w.heap.size 5 i0 (.int .u8 0) 1 1 Tryd.underlying35 hi hz0 hz1 hz2 rfl (by decide) _ _ _ rfl (hown.alloc _) ⟨wr.heap.size, 0, none⟩ 1 1 [.int .u8 k] rfl rfl ?d1 ?d2 ?d3 ?d4 ?d5 ?_)
      case d1 =>
        intro j u hj
        match j, hj with
        | 0, hj => simp at hj; subst hj; simp [Addr.add]
      case d2 => intro u hu; simp at hu; subst hu; rfl
      case d3 => first | (unfold maxLen; omega) | omega
      case d4 => omega
      case d5 => first | omega | (simp; omega)
      intro v' w1 hown' hgrow _
      have R1 := own_snoc (M := ramp (k + 1)) HCC.out hown'
      have R2 := grown_below HBW.out hB hown hgrow
      clear hown' hgrow hown
      go_wp2
      go_roundw
      case rel => exact ⟨k + 1, by omega, by go_num, R1, R2⟩
      case measure => simp [intOf]; omega
    · obtain rfl : k = 256 := by omega
      obtain ⟨g, c, rfl, _⟩ := own_form hown (by omega)
      have HBW := hidS hbw
      have hcl : Calls Tryd.prog 17 #[.slice (some ⟨g, 0, none⟩) 256 c] wr fun e w' => ∃ a, e = .returned (.tuple #[.pointer (some ⟨a, 0, none⟩), .int .i64 0]) ∧ Hid (Seg w.heap.size w' a (ramp 256) ∧ Below w.heap.size w w') :=
        (HF.out (some ⟨g, 0, none⟩) c wr (reads_own hown (by simp))).mono fun e w' ⟨a, he, ⟨g2, cp, tv, ts, q1, q2, q3, q4⟩, q5⟩ => ⟨a, he, ⟨g2, cp, tv, ts, q1, Nat.le_trans HBW.out.size q2, Nat.le_trans HBW.out.size q3, fun k hk => Nat.le_trans HBW.out.size (q4 k hk)⟩, HBW.out.trans (q5.mono HBW.out.size)⟩
      clear hbw hown
      go_wp2_with (first
        | (go_at_call 17; with_reducible refine hcl.mono ?_; rintro e w1 ⟨a, rfl, HQ⟩)
        | fail)
      go_ret
      exact ⟨a, rfl, HQ.out.1, HQ.out.2⟩
end Go.Proofs.YtagflmjiajjkcaaDoor
