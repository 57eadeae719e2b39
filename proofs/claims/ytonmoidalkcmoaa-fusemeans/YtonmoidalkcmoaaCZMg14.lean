import Derived.Test.YtonmoidalkcmoaaCZMg
namespace Go.Proofs.Ytonmoidalkcmoaa
open Go.RowKit Go.WideShapes
set_option maxRecDepth 100000
set_option linter.unusedVariables false
set_option linter.unusedSimpArgs false
set_option maxHeartbeats 8000000 in
theorem xthing_14 {W : World} {M : Col → Pc} {x pm sp : Nat} {m : Pm} (h : Hid (PlO W M x pm sp m)) (hx : x ≠ 9) (hM : ∀ k, M (9, k) = noP) (hB : Bd m) (at_ len op a b : Nat) (hop : op < 256) (h2 : 2 ≤ m.ops.length) (hl : m.ops.length ≤ 35184372088800) :
    Calls Try.prog 10 #[.pointer (some ⟨pm, 0, none⟩), .agg (fzA ⟨at_, len, 14, op, a, b⟩)] W fun e w' => e = .returned (.tuple #[]) ∧ ∃ M', Hid (PlO w' M' x pm sp (thV sp ⟨at_, len, 14, op, a, b⟩ m)) ∧ Kx x M M' := by
  rw [thV_14]
  show Calls Try.prog 10 #[.pointer (some ⟨pm, 0, none⟩), .agg (fzI at_ len 14 op a b)] W _
  have X1 := XS.new0 (p := objP W.heap.size (fzI at_ len 14 op a b) 30) (XS.begin h hM) hx ((Below.refl _ _).alloc (Nat.le_refl _) (.cells (fzI at_ len 14 op a b) 30)) ⟨heap_alloc_new _ _, Nat.le_refl _⟩
  obtain ⟨mo, md, mp, mb⟩ := m
  simp only at *
  obtain ⟨n, hn⟩ : ∃ n, (at_ + len) % 4294967296 = n := ⟨_, rfl⟩
  have hn2 : ((at_ : Int) + (len : Int)) % 4294967296 = (n : Int) := by omega
  rw [hn]
  obtain ⟨c1, f1, _, _⟩ := X1.mcells
  have X4 := dhid (X1.setpc hx n)
  have HG := dhid X4.out.gwf
  obtain ⟨g0, g1, g2, g3, g4⟩ := HG.out _ (Below.refl _ _)
  obtain ⟨c258, f258, c259, f259⟩ := X4.out.mcells
  have HF := dhid (fun w' m' (h : XS w' M x pm sp m' (objP W.heap.size (fzI at_ len 14 op a b) 30) noP) => XS.fin h hx hM)
  have l0 : 0 < mo.length := by omega
  have l1 : mo.dropLast.length ≤ 35184372088800 := by rw [List.length_dropLast]; omega
  obtain ⟨q, hq0⟩ : ∃ q, mo.getLastD 0 = q := ⟨_, rfl⟩
  have ql : q < 4294967296 := by rw [← hq0]; exact hB.last
  have hdat := dhid hB.dat
  rw [hq0]
  have HQ0 := dhid hq0
  obtain ⟨s, hs⟩ : ∃ s, (sp + a) % 4294967296 = s := ⟨_, rfl⟩
  have hs1 : IntKind.u32.wrap ((sp : Int) + (a : Int)) = (s : Int) := by rw [IntKind.wrap_u32]; omega
  have hs2 : ((sp : Int) + (a : Int)) % 4294967296 = (s : Int) := by omega
  have sl : s < 4294967296 := by omega
  rw [hs]
  clear hs
  obtain ⟨v, hv⟩ : ∃ v, ldV md s 4 = v := ⟨_, rfl⟩
  have vl : v < 4294967296 := by rw [← hv]; exact ldV_lt _ _ _
  rw [hv]
  have HV := dhid hv
  clear hv
  obtain ⟨hh, hhe⟩ : ∃ hh, hoV op q v = hh := ⟨_, rfl⟩
  rw [hhe]
  have HH := dhid hhe
  clear hhe
  clear X1 h hn hq0 hB
  simp only [fzI] at *
  go_enter Try.func10, Try.ntmps10
  go_wp2_with fail
  generalize ((W.alloc (.cells #[.int .u32 (at_ : Int), .int .u32 (len : Int), .int .u8 14, .int .u8 (op : Int), .int .u32 (a : Int), .int .u32 (b : Int)] 30)).setCell ⟨pm, 258, none⟩ (.int .u32 (n : Int))) = W3 at *
  have HBb : Below W3.heap.size W3 W3 := Below.refl _ _
  have gW := HG.out
  clear c1 f1 g0 g1 g2 g3 g4 c258 f258 c259 f259
  have HL := dhid (fun W' (hb' : Below W3.heap.size W3 W') => show Calls Try.prog 18 #[.pointer (some ⟨pm, 0, none⟩), .int .u32 (s : Int), .int .i64 4] W' (fun e w' => e = .returned (.int .u32 (v : Int)) ∧ Below W3.heap.size W3 w') from ((X4.out.below hb').loadB s 4 hdat.out (by decide)).mono fun e w' ⟨he, hq⟩ => ⟨by rw [he, HV.out], hb'.trans (hq.mono hb'.size)⟩)
  go_region_held3 (fun w' => w'.cell? ⟨pm, 0, none⟩ = some (.int .u32 (sp : Int)) ∧ w'.cell? ⟨W.heap.size, 2, none⟩ = some (.int .u8 14) ∧ w'.cell? ⟨W.heap.size, 3, none⟩ = some (.int .u8 (op : Int)) ∧ w'.cell? ⟨W.heap.size, 4, none⟩ = some (.int .u32 (a : Int)) ∧ w'.cell? ⟨W.heap.size, 5, none⟩ = some (.int .u32 (b : Int))) ((refine gW _ ?_; (repeat (first | exact HBb | exact Below.refl _ _ | with_reducible refine Below.drew ?_)))) (first
      | (go_at_call 18; with_reducible refine (HL.out _ (by (repeat (first | exact HBb | exact Below.refl _ _ | with_reducible refine Below.drew ?_)))).mono ?_; rintro e wq ⟨rfl, HBn⟩; replace HBb := HBn))
  go_wp2_with fail
  replace X4 := dhid (X4.out.below HBb)
  refine (XS.pop (XS.below X4.out (by apply_rules [Below.refl, Below.drew])) hx l0 hl).mono ?_
  rintro e W5 ⟨rfl, X5⟩
  rw [HQ0.out]
  obtain ⟨g0, g1, g2, g3, g4⟩ := X5.out.gwf _ (Below.refl _ _)
  obtain ⟨c258, f258, c259, f259⟩ := X5.out.mcells
  go_wp2_with fail
  refine (ho_any op q v _ ql (by omega)).mono ?_
  rintro e wq ⟨rfl, hq⟩
  subst wq
  rw [HH.out]
  cases hh
  · go_wp2_with fail
    first | go_end0 | refine bodyPost_ret (results_none rfl _ _ _) rfl ?_
    exact ⟨rfl, HF.out _ _ X5.out⟩
  · go_wp2_with fail
    first | go_end0 | refine bodyPost_ret (results_none rfl _ _ _) rfl ?_
    exact ⟨rfl, HF.out _ _ (X5.out.setpc hx b)⟩
end Go.Proofs.Ytonmoidalkcmoaa
