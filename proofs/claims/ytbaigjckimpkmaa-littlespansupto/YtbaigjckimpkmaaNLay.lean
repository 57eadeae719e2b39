import Derived.Test.YtbaigjckimpkmaaNAm
import Derived.Test.YtbaigjckimpkmaaLNum
import Derived.Laws.AppendOwn
import Derived.Laws.MakeOwn
namespace Go.Proofs.Ytbaigjckimpkmaa
open Go.RowKit Go.WideShapes Go.Sort Go.Lib
set_option maxRecDepth 100000

def layS (f : Nat) : List Nat → List (Nat × Nat)
  | [] => []
  | z :: r => (f, z) :: layS (f + z) r
def sumS (f : Nat) (zs : List Nat) : Nat := f + zs.sum
theorem layS_len (zs : List Nat) : ∀ f, (layS f zs).length = zs.length := by
  induction zs with
  | nil => intro f; rfl
  | cons z r ih => intro f; simp [layS, ih]
theorem layS_snoc (zs : List Nat) (z : Nat) : ∀ f, layS f (zs ++ [z]) = layS f zs ++ [(f + zs.sum, z)] := by
  induction zs with
  | nil => intro f; simp [layS]
  | cons a r ih => intro f; simp [layS, ih, Nat.add_assoc]
theorem sumS_snoc (f : Nat) (zs : List Nat) (z : Nat) : sumS f (zs ++ [z]) = sumS f zs + z := by simp [sumS]; omega
theorem sumS_take (f : Nat) (zs : List Nat) (k : Nat) : sumS f (zs.take k) ≤ sumS f zs := by
  have : (zs.take k).sum + (zs.drop k).sum = zs.sum := by rw [← List.sum_append, List.take_append_drop]
  unfold sumS; omega
theorem layS_ge (zs : List Nat) : ∀ f, ∀ p ∈ layS f zs, f ≤ p.1 ∧ p.1 + p.2 ≤ sumS f zs := by
  induction zs with
  | nil => intro f p hp; simp [layS] at hp
  | cons z r ih =>
    intro f p hp
    rw [layS] at hp
    rcases List.mem_cons.1 hp with rfl | hp
    · simp [sumS]
    · have := ih (f + z) p hp
      simp [sumS] at this ⊢; omega
theorem layS_ap (zs : List Nat) : ∀ f, Ap (layS f zs) := by
  induction zs with
  | nil => intro f; exact List.Pairwise.nil
  | cons z r ih =>
    intro f
    refine List.Pairwise.cons (fun p hp => ?_) (ih (f + z))
    have := (layS_ge r (f + z) p hp).1
    have h : ¬ p.1 < f + z := by omega
    simp [lapB, h]
theorem layS_wf (zs : List Nat) (f : Nat) (h : sumS f zs ≤ 4294967295) : Wfs (layS f zs) := by
  intro p hp
  have := (layS_ge zs f p hp).2
  omega
theorem layS_get (zs : List Nat) : ∀ f k, k < zs.length → ((layS f zs).getD k (0, 0)).2 = zs.getD k 0 := by
  induction zs with
  | nil => intro f k hk; simp at hk
  | cons z r ih =>
    intro f k hk
    cases k with
    | zero => rfl
    | succ k => simpa [layS] using ih (f + z) k (by simpa using hk)
def nz (zs : List Int) : List Nat := zs.map Int.toNat
theorem nz_len (zs : List Int) : (nz zs).length = zs.length := by simp [nz]
theorem nz_get {zs : List Int} (hw : ∀ z ∈ zs, 0 ≤ z ∧ z < 4294967296) {k : Nat} (hk : k < zs.length) : zs.getD k 0 = (((nz zs).getD k 0 : Nat) : Int) ∧ (nz zs).getD k 0 < 4294967296 := by
  have e : zs.getD k 0 = zs[k] := by simp [List.getD_eq_getElem?_getD, hk]
  have e2 : (nz zs).getD k 0 = zs[k].toNat := by simp [nz, List.getD_eq_getElem?_getD, hk]
  have := hw _ (List.getElem_mem hk)
  rw [e, e2]; omega
def okB (f : Nat) (zs : List Int) : Bool := decide (sumS f (nz zs) ≤ 4294967295)
def LayPost (f : Nat) (zs : List Int) (w : World) (e : Ending) (w' : World) : Prop :=
  (okB f zs = true ∧ ∃ v, e = .returned (.tuple #[v, .int .i64 0]) ∧ w'.ownsRow w.heap.size 27 2 v zs.length (sv (layS f (nz zs)))) ∨ (okB f zs = false ∧ e = .returned (.tuple #[.slice none 0 0, .int .i64 20]))
set_option maxHeartbeats 1000000 in
theorem lay_any (f : Nat) (ao : Option Addr) (cap : Nat) (zs : List Int) (w : World) (hf : f < 4294967296) (hn : zs.length ≤ 1048576) (hw : ∀ z ∈ zs, 0 ≤ z ∧ z < 4294967296) (hr : ReadsK w .u32 ao zs w.heap.size) :
    Calls Try.prog 13 #[.int .u32 f, .slice ao zs.length cap] w fun e w' => LayPost f zs w e w' ∧ Below w.heap.size w w' := by
  obtain ⟨i0, hi, hz0, hz1, hz2⟩ := info_parts Try.infoS
  obtain ⟨w1, hmk, hown0, hg0⟩ := run_make_own (P := Try.prog) w w.heap.size 30 27 i0 (.agg #[.int .u32 0, .int .u32 0]) 2 Try.underlying30 hi hz0 hz1 .i64 .i64 zs.length (by rw [hz2]; omega) (by unfold maxLen; omega) (Nat.le_refl _)
  have hb0 : Below w.heap.size w w1 := (Below.refl w.heap.size w).grown hg0 (Nat.le_refl _) (fun k e => by simp at e)
  have HW := hidS hw
  have HR := hidS hr
  have hfI : (f : Int) < 4294967296 := by omega
  clear hg0 hw hr
  go_enter Try.func13, Try.ntmps13
  go_wp2_with fail
  go_loopw [6, 7, 17] (fun v x i wr => ∃ k : Nat, k ≤ zs.length ∧ i = .int .i64 k ∧ x = .int .u64 ((sumS f ((nz zs).take k) : Nat) : Int) ∧ wr.ownsRow w.heap.size 27 2 v k (sv (layS f ((nz zs).take k))) ∧ sumS f ((nz zs).take k) ≤ 4294967295 ∧ Below w.heap.size w wr)
    (fun _ _ i _ => zs.length - (intOf i).toNat)
  case atStart => exact ⟨0, Nat.zero_le _, rfl, by simp [sumS], by simpa [layS, sv] using hown0, by simp [sumS]; omega, hb0⟩
  case round =>
    clear hown0 hb0 hmk
    obtain ⟨k, hk, rfl, rfl, hown, hsum, hb⟩ := hrel
    by_cases hlt : k < zs.length
    · have hltI : (k : Int) < (zs.length : Int) := by omega
      obtain ⟨b, off, rfl, hbl, hc⟩ := (HR.out.below hb) (by omega)
      have hck := hc k hlt
      obtain ⟨ez, hzl⟩ := nz_get HW.out hlt
      rw [ez] at hck
      have hts := ptakeS 0 (nz zs) k (by rw [nz_len]; exact hlt)
      have HS1 := hidS (layS_snoc ((nz zs).take k) ((nz zs).getD k 0) f)
      have HS2 := hidS (sumS_snoc f ((nz zs).take k) ((nz zs).getD k 0))
      rw [← hts] at HS1 HS2
      have HLE := hidS (sumS_take f (nz zs) (k + 1))
      have hE : f + ((nz zs).take k).sum = sumS f ((nz zs).take k) := rfl
      rw [hE] at HS1
      clear hc hts ez hE
      generalize sumS f ((nz zs).take k) = S at *
      generalize (nz zs).getD k 0 = z at *
      have hw1 : IntKind.u32.wrap (S : Int) = (S : Int) := by rw [IntKind.wrap_u32]; omega
      have hw2 : IntKind.u64.wrap (z : Int) = (z : Int) := by rw [IntKind.wrap_u64]; omega
      have hw3 : IntKind.u64.wrap ((S : Int) + (z : Int)) = (S : Int) + (z : Int) := by rw [IntKind.wrap_u64]; omega
      have hBs := hb.size
      go_wp2_with (at_builtin; refine wpList_append_own _ rfl _ _ 30 rfl w.heap.size 27 i0 (.agg #[.int .u32 0, .int .u32 0]) 2 8 Try.underlying30 hi hz0 hz1 hz2 rfl (by decide) _ _ _ rfl (hown.alloc _) ⟨_, 0, none⟩ 1 1 [.int .u32 (S : Int), .int .u32 (z : Int)] rfl rfl ?c1 ?c2 ?c3 ?c4 ?c5 ?_)
      case c1 =>
        intro j u hj
        match j, hj with
        | 0, hj => simp at hj; subst hj; simp [Addr.add]
        | 1, hj => simp at hj; subst hj; simp [Addr.add]
      case c2 => intro u hu; simp at hu; rcases hu with rfl | rfl <;> rfl
      case c3 => unfold maxLen; omega
      case c4 => omega
      case c5 => simp; omega
      intro v' w5 hown' hgrow _
      have R1 : w5.ownsRow w.heap.size 27 2 v' (k + 1) (sv (layS f ((nz zs).take (k + 1)))) := by rw [HS1.out, sv_append]; exact hown'
      have R2 : Below w.heap.size w w5 := (hb.alloc hBs _).grown hgrow (by simp; omega) (fun j e => (hown.lt j e).1)
      clear hown' hgrow hown hck
      by_cases hov : 4294967295 < S + z
      · have hovI : (4294967295 : Int) < (S : Int) + (z : Int) := by omega
        have HOV := hidS hov
        have HSU := hidS hsum
        clear hov hsum hzl
        go_wp2_with fail
        refine bodyPost_ret (results_tmp2 rfl _ _ _) rfl ?_
        refine ⟨?_, R2⟩
        have := HLE.out
        rw [HS2.out] at this
        have h8 := HOV.out
        have hng : okB f zs = false := decide_eq_false (by omega)
        exact .inr ⟨hng, rfl⟩
      · have hovI : ¬ (4294967295 : Int) < (S : Int) + (z : Int) := by omega
        have HOV := hidS hov
        clear hov hsum hzl
        go_wp2_with fail
        go_roundw
        case rel => exact ⟨k + 1, by omega, by go_num, by rw [HS2.out]; go_num, R1, by rw [HS2.out]; have := HOV.out; omega, R2⟩
        case measure => simp [intOf]; omega
    · obtain rfl : k = zs.length := by omega
      have hltI : ¬ (zs.length : Int) < (zs.length : Int) := by omega
      have hfull : (nz zs).take zs.length = nz zs := by rw [← nz_len, List.take_length]
      rw [hfull] at hown hsum
      have HSM : Hid (okB f zs = true) := decide_eq_true hsum
      go_wp2_with fail
      refine bodyPost_ret (results_tmp2 rfl _ _ _) rfl ?_
      exact ⟨by exact .inl ⟨HSM.out, _, rfl, hown⟩, hb⟩
end Go.Proofs.Ytbaigjckimpkmaa
