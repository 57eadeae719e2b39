import Derived.Test.YtbaigjckimpkmaaNLs
import Derived.Test.YtbaigjckimpkmaaNApt
namespace Go.Proofs.Ytbaigjckimpkmaa
open Go.RowKit Go.WideShapes Go.Sort
set_option maxRecDepth 100000
/-- the spans that apart lays over the list -/
def ovL (r : Nat) (n : Nat) : List (Nat × Nat) := (List.range n).map fun i => (i, r)
theorem ovL_len (r n : Nat) : (ovL r n).length = n := by simp [ovL]
theorem ovL_succ (r n : Nat) : ovL r (n + 1) = ovL r n ++ [(n, r)] := by simp [ovL, List.range_succ]
theorem ovL_wf (r n : Nat) (hn : n ≤ 1048576) (hr : r < 4294967296) : Wfs (ovL r n) := by
  intro p hp
  simp [ovL] at hp
  obtain ⟨a, ha, rfl⟩ := hp
  exact ⟨by show a < _; omega, hr⟩
theorem sv_set2 (r : Nat) (M T : List (Nat × Nat)) (i : Nat) (h : i < M.length) : sv (ovL r (i + 1) ++ M.drop (i + 1) ++ T) = ((sv (ovL r i ++ M.drop i ++ T)).set (i * 2) (.int .u32 (i : Nat))).set (i * 2 + 1) (.int .u32 (r : Nat)) := by
  have hl : (sv (ovL r i)).length = i * 2 := by rw [sv_len, ovL_len]
  rw [ovL_succ, List.drop_eq_getElem_cons h]
  simp only [sv_append, List.append_assoc, List.cons_append, List.nil_append]
  rw [List.set_append_right _ _ (by omega), List.set_append_right _ _ (by omega), hl]
  simp
  rfl
theorem srd_of {w : World} {B g n cf : Nat} {L : List (Nat × Nat)} (h : w.ownsRow B 27 2 (.slice (some ⟨g, 0, none⟩) n cf) n (sv L)) : SRd w (some ⟨g, 0, none⟩) L w.heap.size := fun _ => by
  refine ⟨g, 0, rfl, (h.lt g rfl).2, fun j hj => ?_⟩
  obtain ⟨e0, e1⟩ := sv_get L j hj
  have x0 := h.cells (g := g) rfl _ _ e0
  have x1 := h.cells (g := g) rfl _ _ e1
  rw [add_plain] at x0 x1
  exact ⟨x0, by rw [← x1]; congr 2⟩
theorem aparts_c (cap : Nat) (L : List (Nat × Nat)) (w : World) (hn : L.length ≤ 1048576) (hcap : L.length ≤ cap) (hw : Wfs L) (ao : Option Addr) (hr : SRd w ao L w.heap.size) :
    ∃ i j : Nat, ∃ ok : Bool, (∀ W, Below w.heap.size w W → Calls Try.prog 37 #[.slice ao L.length cap] W fun e w' => e = .returned (.tuple #[.int .i64 i, .int .i64 j, .bool ok]) ∧ Below W.heap.size W w') ∧
      (∀ W, Below w.heap.size w W → Calls Try.prog 38 #[.slice ao L.length cap] W fun e w' => e = .returned (.tuple #[.int .i64 i, .int .i64 j, .bool ok]) ∧ Below W.heap.size W w') := by
  rcases ap_or L with h | ⟨i, j, h⟩
  · refine ⟨0, 0, true, fun W hW => ?_, fun W hW => apt_ok ao cap L W hn hcap hw ((hr.below hW).mono hW.size) h⟩
    exact dapart_any ao cap L W hn hw ((hr.below hW).mono hW.size) (fun e => e = .returned (.tuple #[.int .i64 ((0 : Nat) : Int), .int .i64 ((0 : Nat) : Int), .bool true])) (fun _ => rfl) (fun i j h' => absurd h h'.notAp)
  · refine ⟨i, j, false, fun W hW => ?_, fun W hW => apt_bad ao cap L i j W hn hcap hw ((hr.below hW).mono hW.size) h⟩
    exact dapart_any ao cap L W hn hw ((hr.below hW).mono hW.size) (fun e => e = .returned (.tuple #[.int .i64 i, .int .i64 j, .bool false])) (fun h' => absurd h' h.notAp) (fun i' j' h' => by obtain ⟨rfl, rfl⟩ := h.uniq h'; rfl)
set_option maxHeartbeats 4000000 in
theorem apartL_any (ao : Option Addr) (cap : Nat) (L : List (Nat × Nat)) (w : World) (hn : L.length ≤ 1048576) (hw : Wfs L) (hr : SRd w ao L w.heap.size) :
    Calls Try.prog 10 #[.slice ao L.length cap] w fun e w' => e = .returned (.bool true) ∧ Below w.heap.size w w' := by
  have HL := hidS (lentS_any ao cap L w hn hr)
  have HR := hidS hr
  have HW := hidS hw
  clear hr hw
  go_enter Try.func10, Try.ntmps10
  go_wp2_with fail
  with_reducible refine HL.out.mono ?_
  rintro e w1 ⟨v, rfl, ho, hb1⟩
  clear HL
  obtain ⟨g, cf, rfl, hcf⟩ := own_form ho (by omega)
  have hcfI : (L.length : Int) ≤ (cf : Int) := by omega
  have HO := hidS ho
  have HB1 := hidS hb1
  clear ho hb1
  go_wp2_with fail
  go_loopw [5] (fun i wr => ∃ (r : Nat) (M : List (Nat × Nat)), r ≤ 3 ∧ i = .int .i64 r ∧ M.length = L.length ∧ Wfs M ∧ (r = 0 → M = L) ∧ wr.ownsRow w.heap.size 27 2 (.slice (some ⟨g, 0, none⟩) (L.length + 64) cf) (L.length + 64) (sv (M ++ mkr L.length 64)) ∧ Below w.heap.size w wr) (fun i _ => 3 - (intOf i).toNat)
  case atStart => exact ⟨0, L, by omega, rfl, rfl, HW.out, fun _ => rfl, HO.out, HB1.out⟩
  case round =>
    clear HO HB1 HW
    obtain ⟨r, M, hr3, rfl, hML, hMw, hM0, hown, hb⟩ := hrel
    have HB := hidS hb
    have HOW := hidS hown
    have HML := hidS hML
    have HMW := hidS hMw
    have HM0 := hidS hM0
    by_cases hlt : r < 3
    · have hltI : (r : Int) < 3 := by omega
      have hrd : SRd wr (some ⟨g, 0, none⟩) M wr.heap.size := by
        have := (srd_of hown).take M.length
        rwa [List.take_append_of_le_length (Nat.le_refl _), List.take_length] at this
      obtain ⟨ii, jj, ok, HD, HP⟩ := aparts_c cf M wr (by omega) (by omega) hMw (some ⟨g, 0, none⟩) hrd
      rw [hML] at HD HP
      have HDD := hidS HD
      have HPP := hidS HP
      have hg1 := (hown.lt g rfl)
      clear HD HP hown hb hML hMw hM0 hrd
      go_wp2_with fail
      with_reducible refine (HDD.out _ (Below.refl _ _)).mono ?_
      rintro e w2 ⟨rfl, hb2⟩
      have HB2 := hidS hb2
      clear hb2
      go_wp2_with fail
      with_reducible refine (HPP.out _ HB2.out).mono ?_
      rintro e w3 ⟨rfl, hb3⟩
      have HB3 := hidS (btS HB2.out hb3)
      have HKp : Hid (r = 0 → Calls Try.prog 39 #[.slice (some ⟨g, 0, none⟩) (L.length + 64) cf, .slice ao L.length cap] w3 fun e w' => e = .returned (.bool true) ∧ Below w3.heap.size w3 w') := fun h0 => by
        have hML := HM0.out h0
        have hW3 := btS HB.out HB3.out
        have h2 := own_below HOW.out HB3.out
        rw [hML] at h2
        exact keptS_any ao (some ⟨g, 0, none⟩) cap cf L w3 hn ((HR.out.below hW3).mono hW3.size) (srd_of h2)
      clear HDD HPP hb3
      by_cases h0 : r = 0
      · have HKq := hidS (HKp.out h0)
        subst h0
        go_wp2_with (go_at_call 39; with_reducible refine HKq.out.mono ?_; rintro e w4 ⟨rfl, hb4⟩; have HB4 := hidS (btS HB3.out hb4); clear hb4)
        clear HKq HKp HM0
        have HWb := hidS (btS HB.out HB4.out)
        have HOv := hidS (own_below HOW.out HB4.out)
        clear HB4 HOW HB
        go_loopw [12] (fun i wi => ∃ e : Nat, e ≤ L.length ∧ i = .int .i64 e ∧ wi.ownsRow w.heap.size 27 2 (.slice (some ⟨g, 0, none⟩) (L.length + 64) cf) (L.length + 64) (sv (ovL 0 e ++ M.drop e ++ mkr L.length 64)) ∧ Below w.heap.size w wi) (fun i _ => L.length - (intOf i).toNat)
        case atStart => exact ⟨0, Nat.zero_le _, rfl, by simpa [ovL] using HOv.out, HWb.out⟩
        case round =>
          clear HOv HWb
          obtain ⟨e, he, rfl, hown, hb⟩ := hrel
          by_cases hlt2 : e < L.length
          · have hln : e < (ovL 0 e ++ M.drop e ++ mkr L.length 64).length := by simp [ovL_len, mkr_len] <;> omega
            obtain ⟨c0, c1⟩ := sv_get (ovL 0 e ++ M.drop e ++ mkr L.length 64) e hln
            have hset := sv_set2 0 M (mkr L.length 64) e (by rw [HML.out]; exact hlt2)
            have x0 := hown.cells (g := g) rfl _ _ c0
            have x1 := hown.cells (g := g) rfl _ _ c1
            rw [Go.WideShapes.add_plain, Nat.zero_add] at x0 x1
            have y0 := hown.frozenAt (e * 2)
            have y1 := hown.frozenAt (e * 2 + 1)
            obtain ⟨R1, G1⟩ := hown.stored (e * 2) (.int .u32 (e : Nat))
            have hx1 : ((sv (ovL 0 e ++ M.drop e ++ mkr L.length 64)).set (e * 2) (.int .u32 (e : Nat)))[e * 2 + 1]? = some (.int .u32 ((ovL 0 e ++ M.drop e ++ mkr L.length 64).getD e (0, 0)).2) := by
              rw [List.getElem?_set_ne (by omega)]; exact c1
            have x2 := R1.cells (g := g) rfl _ _ hx1
            rw [Go.WideShapes.add_plain, Nat.zero_add] at x2
            have y2 := R1.frozenAt (e * 2 + 1)
            obtain ⟨R2, G2⟩ := R1.stored (e * 2 + 1) (.int .u32 (0 : Nat))
            rw [← hset] at R2
            have HR2 := hidS (And.intro R2 ((hb.grown G1 hb.size (fun q e' => (hown.lt q e').1)).grown G2 (by have := hb.size; have := G1.size; omega) (fun q e' => (R1.lt q e').1)))
            have hgw : g < wr.heap.size := (hown.lt g rfl).2
            generalize ((ovL 0 e ++ M.drop e ++ mkr L.length 64).getD e (0, 0)).1 = q0 at x0
            generalize ((ovL 0 e ++ M.drop e ++ mkr L.length 64).getD e (0, 0)).2 = q1 at x1 x2
            have hltI2 : (e : Int) < (L.length : Int) := by omega
            have hwe : IntKind.u32.wrap (e : Int) = (e : Int) := by rw [IntKind.wrap_u32]; omega
            clear hown R1 R2 G1 G2 hx1 c0 c1 hset hln hb
            go_wp2_with fail
            go_roundw
            case rel => exact ⟨e + 1, by omega, by go_num, HR2.out.1, HR2.out.2⟩
            case measure => simp [intOf] <;> omega
          · have hee : e = L.length := by omega
            subst hee
            have hltI2 : ¬ (L.length : Int) < (L.length : Int) := by omega
            have hdr : M.drop L.length = [] := List.drop_of_length_le (by rw [HML.out]; exact Nat.le_refl _)
            rw [hdr, List.append_nil] at hown
            have HF := hidS (And.intro hown hb)
            clear hown hb
            go_wp2_with fail
            go_roundw
            case rel => exact ⟨0 + 1, ovL 0 L.length, by omega, by go_num, ovL_len _ _, ovL_wf _ _ hn (by omega), fun h => absurd h (by omega), HF.out.1, HF.out.2⟩
            case measure => simp [intOf] <;> omega
      · have h0b : ((r : Int) == 0) = false := by rw [beq_eq_false_iff_ne]; omega
        have h0i : ¬ (r : Int) = 0 := by omega
        clear HKp HM0 HB2
        have hwr : IntKind.u32.wrap (r : Int) = (r : Int) := by rw [IntKind.wrap_u32]; omega
        go_wp2_with fail
        have HWb := hidS (btS HB.out HB3.out)
        have HOv := hidS (own_below HOW.out HB3.out)
        clear HB3 HOW HB
        go_loopw [12] (fun i wi => ∃ e : Nat, e ≤ L.length ∧ i = .int .i64 e ∧ wi.ownsRow w.heap.size 27 2 (.slice (some ⟨g, 0, none⟩) (L.length + 64) cf) (L.length + 64) (sv (ovL r e ++ M.drop e ++ mkr L.length 64)) ∧ Below w.heap.size w wi) (fun i _ => L.length - (intOf i).toNat)
        case atStart => exact ⟨0, Nat.zero_le _, rfl, by simpa [ovL] using HOv.out, HWb.out⟩
        case round =>
          clear HOv HWb
          obtain ⟨e, he, rfl, hown, hb⟩ := hrel
          by_cases hlt2 : e < L.length
          · have hln : e < (ovL r e ++ M.drop e ++ mkr L.length 64).length := by simp [ovL_len, mkr_len] <;> omega
            obtain ⟨c0, c1⟩ := sv_get (ovL r e ++ M.drop e ++ mkr L.length 64) e hln
            have hset := sv_set2 r M (mkr L.length 64) e (by rw [HML.out]; exact hlt2)
            have x0 := hown.cells (g := g) rfl _ _ c0
            have x1 := hown.cells (g := g) rfl _ _ c1
            rw [Go.WideShapes.add_plain, Nat.zero_add] at x0 x1
            have y0 := hown.frozenAt (e * 2)
            have y1 := hown.frozenAt (e * 2 + 1)
            obtain ⟨R1, G1⟩ := hown.stored (e * 2) (.int .u32 (e : Nat))
            have hx1 : ((sv (ovL r e ++ M.drop e ++ mkr L.length 64)).set (e * 2) (.int .u32 (e : Nat)))[e * 2 + 1]? = some (.int .u32 ((ovL r e ++ M.drop e ++ mkr L.length 64).getD e (0, 0)).2) := by
              rw [List.getElem?_set_ne (by omega)]; exact c1
            have x2 := R1.cells (g := g) rfl _ _ hx1
            rw [Go.WideShapes.add_plain, Nat.zero_add] at x2
            have y2 := R1.frozenAt (e * 2 + 1)
            obtain ⟨R2, G2⟩ := R1.stored (e * 2 + 1) (.int .u32 (r : Nat))
            rw [← hset] at R2
            have HR2 := hidS (And.intro R2 ((hb.grown G1 hb.size (fun q e' => (hown.lt q e').1)).grown G2 (by have := hb.size; have := G1.size; omega) (fun q e' => (R1.lt q e').1)))
            have hgw : g < wr.heap.size := (hown.lt g rfl).2
            generalize ((ovL r e ++ M.drop e ++ mkr L.length 64).getD e (0, 0)).1 = q0 at x0
            generalize ((ovL r e ++ M.drop e ++ mkr L.length 64).getD e (0, 0)).2 = q1 at x1 x2
            have hltI2 : (e : Int) < (L.length : Int) := by omega
            have hwe : IntKind.u32.wrap (e : Int) = (e : Int) := by rw [IntKind.wrap_u32]; omega
            clear hown R1 R2 G1 G2 hx1 c0 c1 hset hln hb
            go_wp2_with fail
            go_roundw
            case rel => exact ⟨e + 1, by omega, by go_num, HR2.out.1, HR2.out.2⟩
            case measure => simp [intOf] <;> omega
          · have hee : e = L.length := by omega
            subst hee
            have hltI2 : ¬ (L.length : Int) < (L.length : Int) := by omega
            have hdr : M.drop L.length = [] := List.drop_of_length_le (by rw [HML.out]; exact Nat.le_refl _)
            rw [hdr, List.append_nil] at hown
            have HF := hidS (And.intro hown hb)
            clear hown hb
            go_wp2_with fail
            go_roundw
            case rel => exact ⟨r + 1, ovL r L.length, by omega, by go_num, ovL_len _ _, ovL_wf _ _ hn (by omega), fun h => absurd h (by omega), HF.out.1, HF.out.2⟩
            case measure => simp [intOf] <;> omega
    · have h3 : r = 3 := by omega
      subst h3
      go_wp2_with fail
      go_ret
      exact ⟨rfl, HB.out⟩
end Go.Proofs.Ytbaigjckimpkmaa
