import Derived.Test.YtopdbopmkdggiaaLRuns
import Derived.Test.YtopdbopmkdggiaaLLivesE
namespace Go.Proofs.Ytopdbopmkdggiaa
open Go.RowKit

theorem runsE_any (ao bo : Option Addr) (ca cb n m : Nat) (w : World) (hne : ¬ n = m) :
    Calls Try.prog 12 #[.slice ao n ca, .slice bo m cb] w fun e w' => e = .returned (.tuple #[.slice none 0 0, .int .i64 22]) ∧ w' = w := by
  have hI : ¬ (n : Int) = (m : Int) := by omega
  go_enter Try.func12, Try.ntmps12
  go_wp2
  go_step3
  go_wp2
  try rw [Exit.noGoto_ret]
  go_ret2
  exact ⟨rfl, rfl⟩

theorem tcells_get (T : List Tr) : ∀ (i : Nat), i < T.length → (tcells T)[i * 2]? = some (.int .u32 ((T.getD i (0, .slice none 0 0, [])).1 : Int)) ∧ (tcells T)[i * 2 + 1]? = some (T.getD i (0, .slice none 0 0, [])).2.1 := by
  induction T with
  | nil => intro i hi; simp at hi
  | cons t T ih =>
    intro i hi
    have e : tcells (t :: T) = .int .u32 (t.1 : Int) :: t.2.1 :: tcells T := rfl
    cases i with
    | zero => rw [e]; simp
    | succ i =>
      have := ih i (by simpa using hi)
      rw [e, show (i + 1) * 2 = i * 2 + 1 + 1 by omega]
      simpa using this
theorem own_runsR {w : World} {B : Nat} {v : Value} {T : List Tr} (h : OwnRuns w B v T) : ∃ ao cap, v = .slice ao T.length cap ∧ RunsR w ao (T.map trun) w.heap.size := by
  have hlt := h.row.lt
  rcases h.row.2 with ⟨rfl, hz⟩ | ⟨g, cap, cur, rfl, _⟩
  · exact ⟨none, 0, by rw [hz], fun hp => by rw [List.length_map] at hp; omega⟩
  · refine ⟨_, cap, rfl, fun _ => ⟨g, 0, rfl, (hlt g rfl).2, fun i hi => ?_⟩⟩
    rw [List.length_map] at hi
    obtain ⟨c0, c1⟩ := tcells_get T i hi
    have k0 := h.row.cells (g := g) rfl _ _ c0
    have k1 := h.row.cells (g := g) rfl _ _ c1
    rw [Go.WideShapes.add_plain] at k0 k1
    have hg : (T.map trun).getD i (0, []) = trun (T.getD i (0, .slice none 0 0, [])) := by
      simp [List.getD, List.getElem?_eq_getElem hi]
    rw [hg]
    have hm : T.getD i (0, .slice none 0 0, []) ∈ T := by simp [List.getD, List.getElem?_eq_getElem hi]
    generalize T.getD i (0, .slice none 0 0, []) = t at k0 k1 hm
    have ho := h.each t hm
    refine ⟨k0, ?_⟩
    obtain ⟨a2, c2, hv, hrd⟩ := own_reads ho
    have hcap : t.2.2.length ≤ c2 ∧ (a2 = none → t.2.2 = []) := by
      rcases ho.2 with ⟨e, hz⟩ | ⟨g2, cap2, cur2, e, _, _, hc, _⟩
      · exact ⟨by omega, fun _ => List.eq_nil_of_length_eq_zero hz⟩
      · rw [hv] at e
        simp only [Value.slice.injEq] at e
        obtain ⟨rfl, _, rfl⟩ := e
        exact ⟨hc, fun h => by cases h⟩
    exact ⟨a2, c2, by rw [hv, ← Nat.add_assoc] at k1; exact k1, hcap.1, hcap.2, hrd⟩

theorem rnx_nil2 (k : Nat) (xs : List Int) : rnx k xs [] = [] := by
  cases xs with
  | nil => exact rnx_nil k []
  | cons x xs => rfl
theorem rnx_bound (n : Nat) : ∀ (k : Nat) (xs ys : List Int), xs.length = n → ∀ r ∈ rnx k xs ys, r.1 ≤ k + n ∧ r.2.length ≤ ys.length := by
  induction n using Nat.strongRecOn with
  | _ n ih =>
    intro k xs ys hn r hr
    cases xs with
    | nil => rw [rnx_nil] at hr; simp at hr
    | cons x xs =>
      cases ys with
      | nil => rw [rnx_nil2] at hr; simp at hr
      | cons y ys =>
        simp only [List.length_cons] at hn
        by_cases h : x = y
        · subst h
          rw [rnx_eq] at hr
          have := ih xs.length (by omega) _ _ _ rfl r hr
          simp only [List.length_cons]; omega
        · have hp := dif_pos (xs := xs) (ys := ys) h
          have hd := dif_le (x :: xs) (y :: ys)
          rw [rnx_ne _ _ _ _ _ h] at hr
          simp only [List.length_cons] at hd ⊢
          generalize dif (x :: xs) (y :: ys) = d at *
          rcases List.mem_cons.1 hr with rfl | hr
          · simp only [List.length_take, List.length_cons]; omega
          · have := ih ((x :: xs).drop d).length (by simp; omega) _ _ _ rfl r hr
            simp only [List.length_drop, List.length_cons] at this
            omega

set_option maxRecDepth 100000 in
set_option maxHeartbeats 4000000 in
theorem mends_law (ao bo co : Option Addr) (ca cb cc : Nat) (xs ys : List Int) (R : List Rn) (w : World) (hx : xs.length ≤ 1048576) (hR : R.length ≤ 1048576) (hwR : wgt R ≤ 1048576)
    (hcb : ys.length ≤ cb) (hnil : ao = none → xs = [])
    (hb0 : ∀ r ∈ R, r.1 ≤ 4294967295 ∧ r.2.length ≤ 140737488355328)
    (hrx : Reads w ao xs w.heap.size) (hry : Reads w bo ys w.heap.size) (hrR : RunsR w co R w.heap.size) :
    Calls Try.prog 4 #[.slice ao xs.length ca, .slice bo ys.length cb, .slice co R.length cc] w fun e w' => e = .returned (.bool true) ∧ Below w.heap.size w w' := by
  go_enter Try.func4, Try.ntmps4
  go_wp2_with fail
  refine (lives_any w).mono ?_
  rintro e w1 ⟨rfl, hb1⟩
  have hz1 := hb1.size
  have hrx1 := (hrx.below hb1).mono hz1
  have hry1 := (hry.below hb1).mono hz1
  by_cases hl : xs.length = ys.length
  · have hru := runs_any ao bo ca cb xs ys w1 ys.length hl rfl (by omega) hcb hrx1 hry1
    have hlz : ys.length = xs.length := hl.symm
    rw [hlz] at hru
    have HL : Hid (ys.length = xs.length) := hlz
    have hcb2 : xs.length ≤ cb := by omega
    rw [hlz]
    clear hl hlz hcb
    go_wp2_with fail
    with_reducible refine hru.mono ?_
    rintro e w2 ⟨v, T, rfl, hO, hT, hTn, hb2⟩
    obtain ⟨lo, lc, rfl, hlR⟩ := own_runsR hO
    have hz2 := hb2.size
    have hb12 := hb1.trans (hb2.mono hz1)
    have hz12 := hb12.size
    have hris := rnx_ris xs.length 0 0 xs.length xs ys rfl HL.out.symm (Nat.le_refl _) (by omega)
    have hmnd := rnx_mnd xs.length xs ys [] rfl HL.out.symm
    have hwl := rnx_wgt xs.length 0 xs ys rfl HL.out.symm
    have hbd := rnx_bound xs.length 0 xs ys rfl
    rw [HL.out] at hbd
    rw [List.nil_append, List.nil_append, List.length_nil] at hmnd
    have HTl : Hid (T.length = (rnx 0 xs ys).length) := by rw [← hT, List.length_map]; exact rfl
    have hTb : (rnx 0 xs ys).length ≤ 1048576 := by rw [← HTl.out]; omega
    rw [hT] at hlR
    have hme := mend_any ao lo ca lc xs (rnx 0 xs ys) w2 (by omega) (by omega) hnil ((hrx.below hb12).mono hz12) hlR (fun r hr => by have := hbd r hr; omega) hris
    rw [hmnd, ← HTl.out] at hme
    have HT : Hid (T.map trun = rnx 0 xs ys) := hT
    have HO2 : Hid (OwnRuns w2 w1.heap.size (.slice lo T.length lc) T) := hO
    have HLR : Hid (RunsR w2 lo (rnx 0 xs ys) w2.heap.size) := hlR
    clear hT hO hlR hris hmnd hru hrx1 hry1 hb2 hb1
    go_wp2_with fail
    with_reducible refine hme.mono ?_
    rintro e w3 ⟨v, rfl, own3, hb3⟩
    have hz3 := hb3.size
    have hb13 := hb12.trans (hb3.mono hz12)
    have hz13 := hb13.size
    have own3' : w3.ownsRow w2.heap.size 5 1 v ys.length (bv ys) := by rw [HL.out]; exact own3
    obtain ⟨o3, c3, rfl, hr3⟩ := own_reads own3'
    rw [HL.out]
    have hs3 := same_n xs.length xs.length o3 bo c3 cb ys ys w3 HL.out HL.out (by omega) hr3 ((hry.below hb13).mono hz13)
    rw [decide_eq_true rfl] at hs3
    clear hme own3 own3' hr3
    go_wp2_with fail
    with_reducible refine hs3.mono ?_
    rintro e w4 ⟨rfl, m4, hq4⟩
    have hb34 : Below w3.heap.size w3 w4 := by rw [hq4]; exact below_drewN (Below.refl _ _) _
    have hb14 := hb13.trans (hb34.mono hz13)
    have hz14 := hb14.size
    have hb24 : Below w2.heap.size w2 w4 := hb3.trans (hb34.mono hz3)
    clear hs3 hq4
    have hrR4 := (hrR.below hb14).mono hz14
    have hrx4 := (hrx.below hb14).mono hz14
    by_cases hS : ris xs.length 0 R = true
    · have hme2 := mend_any ao co ca cc xs R w4 (by omega) (by omega) hnil hrx4 hrR4 hb0 hS
      obtain ⟨hml, hmh⟩ := mnd_facts R xs xs 0 rfl hS
      rw [ham_self, Nat.zero_add] at hmh
      go_wp2_with fail
      with_reducible refine hme2.mono ?_
      rintro e w5 ⟨v, rfl, own5, hb5⟩
      have hz5 := hb5.size
      have hb15 := hb14.trans (hb5.mono hz14)
      have hz15 := hb15.size
      generalize mnd xs R = zs at *
      have own5' : w5.ownsRow w4.heap.size 5 1 v zs.length (bv zs) := by rw [hml]; exact own5
      have hform : ∃ a2 c2, v = .slice a2 xs.length c2 ∧ xs.length ≤ c2 := by
        rcases own5.2 with ⟨rfl, hz⟩ | ⟨g, cap, cur, rfl, _, _, hc, _⟩
        · exact ⟨none, 0, by rw [hz], by omega⟩
        · exact ⟨_, _, rfl, hc⟩
      obtain ⟨o5, c5, rfl, hc5⟩ := hform
      obtain ⟨o5', c5', he5, hr5⟩ := own_reads own5'
      rw [hml] at he5
      simp only [Value.slice.injEq, true_and] at he5
      obtain ⟨rfl, rfl⟩ := he5
      have hru2 := runs_any ao o5 ca c5 xs zs w5 xs.length rfl hml (by omega) hc5 ((hrx.below hb15).mono hz15) hr5
      have hwk := rnx_wgt xs.length 0 xs zs rfl hml.symm
      clear hme2 own5 own5' hrx4 hrR4
      go_wp2_with fail
      with_reducible refine hru2.mono ?_
      rintro e w6 ⟨v, T6, rfl, hO6, hT6, hTn6, hb6⟩
      have hz6 := hb6.size
      obtain ⟨ko, kc, rfl, hkR⟩ := own_runsR hO6
      have hb16 := hb15.trans (hb6.mono hz15)
      have hz16 := hb16.size
      rw [hT6] at hkR
      have HT6l : Hid ((rnx 0 xs zs).length = T6.length) := by rw [← hT6, List.length_map]; exact rfl
      have hTb6 : (rnx 0 xs zs).length ≤ 1048576 := by rw [HT6l.out]; omega
      have hhl := ham_le xs zs
      have hhl2 := ham_le xs ys
      have hwe1 := weight_any ko kc (rnx 0 xs zs) w6 (by omega) (by omega) hkR
      have hwe2 := weight_any co cc R w6 (by omega) (by omega) ((hrR.below hb16).mono hz16)
      have hb26 : Below w2.heap.size w2 w6 := hb24.trans ((hb5.trans (hb6.mono hz5)).mono hb24.size)
      have hsm := same_n xs.length xs.length o5 bo c5 cb zs ys w6 hml HL.out (by omega) ((hr5.below hb6).mono hz6) ((hry.below hb16).mono hz16)
      rw [HT6l.out, hwk] at hwe1
      have hle : ham xs zs ≤ wgt R := hmh
      have dle : decide ((ham xs zs : Int) ≤ (wgt R : Int)) = true := by simp; omega
      have hleI : (ham xs zs : Int) ≤ (wgt R : Int) := by omega
      clear hru2 hO6 hT6 hkR hwk
      by_cases hzy : zs = ys
      · have hdl : ham xs ys ≤ wgt R := by rw [← hzy]; exact hle
        rw [decide_eq_true hzy] at hsm
        have hdlI : (ham xs ys : Int) ≤ (wgt R : Int) := by omega
        have HWL : Hid (∀ q, Calls Try.prog 19 #[.slice lo T.length lc] (w6.drewN q) fun e w' => e = .returned (.int .i64 (ham xs ys : Nat)) ∧ w' = w6.drewN q) := fun q => by
          have := weight_any lo lc (rnx 0 xs ys) (w6.drewN q) (by omega) (by omega) ((HLR.out.below (below_drewN hb26 q)).mono hb26.size)
          rwa [← HTl.out, hwl] at this
        have HW2 : Hid (∀ q, Calls Try.prog 19 #[.slice co R.length cc] (w6.drewN q) fun e w' => e = .returned (.int .i64 (wgt R : Nat)) ∧ w' = w6.drewN q) := fun q =>
          weight_any co cc R (w6.drewN q) (by omega) (by omega) ((hrR.below (below_drewN hb16 q)).mono hz16)
        clear hzy
        go_wp2_with fail
        with_reducible refine hwe1.mono ?_
        rintro e wq ⟨rfl, hq⟩
        subst wq
        go_wp2_with fail
        with_reducible refine hwe2.mono ?_
        rintro e wq ⟨rfl, hq⟩
        subst wq
        go_wp2_with fail
        with_reducible refine hsm.mono ?_
        rintro e w7 ⟨rfl, m7, hq7⟩
        subst w7
        go_wp2_with fail
        with_reducible refine (HWL.out _).mono ?_
        rintro e wq ⟨rfl, hq⟩
        subst wq
        go_wp2_with fail
        with_reducible refine (HW2.out _).mono ?_
        rintro e wq ⟨rfl, hq⟩
        subst wq
        go_wp2_with fail
        go_ret
        exact ⟨rfl, below_drewN hb16 _⟩
      · rw [decide_eq_false hzy] at hsm
        clear hzy
        go_wp2_with fail
        with_reducible refine hwe1.mono ?_
        rintro e wq ⟨rfl, hq⟩
        subst wq
        go_wp2_with fail
        with_reducible refine hwe2.mono ?_
        rintro e wq ⟨rfl, hq⟩
        subst wq
        go_wp2_with fail
        with_reducible refine hsm.mono ?_
        rintro e w7 ⟨rfl, m7, hq7⟩
        subst w7
        go_wp2_with fail
        go_ret
        exact ⟨rfl, below_drewN hb16 _⟩
    · have hS' : ris xs.length 0 R = false := by simpa using hS
      have hme2 := mendE_any ao co xs.length ca cc R w4 (by omega) (by omega) hrR4 hb0 hS'
      clear hS hS'
      go_wp2_with fail
      with_reducible refine hme2.mono ?_
      rintro e w5 ⟨rfl, hb5⟩
      have hb15 := hb14.trans (hb5.mono hz14)
      clear hme2
      go_wp2_with fail
      go_ret
      exact ⟨rfl, hb15⟩
  · have hru := runsE_any ao bo ca cb xs.length ys.length w1 hl
    have hlI : ¬ (xs.length : Int) = (ys.length : Int) := by omega
    have hlB : ((xs.length : Int) == (ys.length : Int)) = false := by simpa using hlI
    go_wp2_with (go_at_call 12; refine hru.mono ?_; rintro e wq ⟨rfl, hq⟩; subst wq)
    go_ret
    exact ⟨rfl, hb1⟩
end Go.Proofs.Ytopdbopmkdggiaa
