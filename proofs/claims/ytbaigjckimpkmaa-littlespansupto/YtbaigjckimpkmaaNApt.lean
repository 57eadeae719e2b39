import Derived.Test.YtbaigjckimpkmaaNAy
namespace Go.Proofs.Ytbaigjckimpkmaa
open Go.RowKit Go.WideShapes Go.Sort Go.Lib
set_option maxRecDepth 100000

theorem anyLap_n (ad : Addr) (cap n : Nat) (L : List (Nat × Nat)) (w : World) (hl : L.length = n) (hn : L.length ≤ 1048576) (hpos : 0 < L.length) (hw : Wfs L) (hr : SRd w (some ad) L w.heap.size) :
    Calls Try.prog 51 #[.slice (some ad) n cap] w fun e w' => AnyPost L e ∧ Below w.heap.size w w' := by
  subst hl; exact anyLap_any ad cap L w hn hpos hw hr
set_option maxHeartbeats 1000000 in
theorem clo1_any (Bs : Nat) (ad : Addr) (cap : Nat) (L : List (Nat × Nat)) (h : Nat) (w : World) (hh : h < L.length) (hn : L.length ≤ 1048576) (hcap : L.length ≤ cap) (hw : Wfs L) (hr : SRd w (some ad) L w.heap.size)
    (hb : w.cell? ⟨Bs, 0, none⟩ = some (.slice (some ad) L.length cap)) :
    Calls Try.prog 50 #[.int .i64 (h : Int), .pointer (some ⟨Bs, 0, none⟩)] w fun e w' => AnyPost (L.take (h + 1)) e ∧ Below w.heap.size w w' := by
  have hl : (L.take (h + 1)).length = h + 1 := by rw [List.length_take]; omega
  have hC := anyLap_n ad cap (h + 1) (L.take (h + 1)) w hl (by omega) (by omega) (hw.take _) (hr.take _)
  have h1 : (h : Int) + 1 ≤ (cap : Int) := by omega
  have h2 : (h : Int) + 1 ≤ (L.length : Int) := by omega
  clear hr hw hl
  go_enter Try.func50, Try.ntmps50
  go_wp2_with fail
  with_reducible refine hC.mono ?_
  rintro e wq ⟨⟨r, rfl, hrr⟩, hq⟩
  have HRR := hidS hrr
  clear hrr
  go_wp2_with fail
  go_ret
  exact ⟨⟨r, rfl, HRR.out⟩, hq⟩
set_option maxHeartbeats 1000000 in
theorem clo2_any (Bs Bi : Nat) (ad : Addr) (cap : Nat) (L : List (Nat × Nat)) (i : Nat) (p : Nat × Nat) (w : World) (hi : i < L.length) (hn : L.length ≤ 1048576) (hp : p.1 < 4294967296 ∧ p.2 < 4294967296) (hw : Wfs L) (hr : SRd w (some ad) L w.heap.size)
    (hb : w.cell? ⟨Bs, 0, none⟩ = some (.slice (some ad) L.length cap)) (hb2 : w.cell? ⟨Bi, 0, none⟩ = some (.int .i64 (i : Int))) (hs : Bs < w.heap.size) (hs2 : Bi < w.heap.size) :
    Calls Try.prog 53 #[.agg #[.int .u32 p.1, .int .u32 p.2], .pointer (some ⟨Bs, 0, none⟩), .pointer (some ⟨Bi, 0, none⟩)] w fun e w' => e = .returned (.bool (lapB p (L.getD i (0, 0)))) ∧ Below w.heap.size w w' := by
  obtain ⟨b, off, e, hbl, hc⟩ := hr (by omega)
  cases e
  obtain ⟨c0, c1⟩ := hc i hi
  have hwf := hw _ (getD_memS hi)
  have hL := fun W => lap_any p (L.getD i (0, 0)) W hp hwf
  generalize lapB p (L.getD i (0, 0)) = r at *
  generalize L.getD i (0, 0) = q at *
  have hiI : (i : Int) < (L.length : Int) := by omega
  have mixed : Try.prog.follows .mixedOrders = true := by kernel_rfl
  clear hc hr hw hwf hp
  go_enter Try.func53, Try.ntmps53
  go_wp2_with fail
  have hgr : ∀ (b j : Nat) (v : Value), b < (w.alloc (.cells #[.int .u32 (p.1 : Int), .int .u32 (p.2 : Int)] 27)).heap.size → (w.alloc (.cells #[.int .u32 (p.1 : Int), .int .u32 (p.2 : Int)] 27)).cell? ⟨b, j, none⟩ = some v → ∀ n os, (grow ((w.alloc (.cells #[.int .u32 (p.1 : Int), .int .u32 (p.2 : Int)] 27)).drewN n) os).cell? ⟨b, j, none⟩ = some v := fun b j v hb hv n os => cell_grown (a := ⟨b, j, none⟩) hb hv n os
  have hal : ∀ (b j : Nat) (v : Value), b < w.heap.size → w.cell? ⟨b, j, none⟩ = some v → (w.alloc (.cells #[.int .u32 (p.1 : Int), .int .u32 (p.2 : Int)] 27)).cell? ⟨b, j, none⟩ = some v := fun b j v hb hv => ((belS (o := .cells #[.int .u32 (p.1 : Int), .int .u32 (p.2 : Int)] 27) (Below.refl w.heap.size w)).cell (p := ⟨b, j, none⟩) hb).trans hv
  have hlast := heap_alloc_last w (.cells #[.int .u32 (p.1 : Int), .int .u32 (p.2 : Int)] 27)
  have n0 : (w.alloc (.cells #[.int .u32 (p.1 : Int), .int .u32 (p.2 : Int)] 27)).cell? ⟨w.heap.size, 0, none⟩ = some (.int .u32 p.1) := by unfold World.cell?; simp only [hlast]; rfl
  have n1 : (w.alloc (.cells #[.int .u32 (p.1 : Int), .int .u32 (p.2 : Int)] 27)).cell? ⟨w.heap.size, 1, none⟩ = some (.int .u32 p.2) := by unfold World.cell?; simp only [hlast]; rfl
  have y0 := hgr _ _ _ (by simp) n0
  have y1 := hgr _ _ _ (by simp) n1
  have y2 := hgr _ _ _ (by simp; omega) (hal _ _ _ hs hb)
  have y3 := hgr _ _ _ (by simp; omega) (hal _ _ _ hs2 hb2)
  have y4 := hgr _ _ _ (by simp; omega) (hal _ _ _ hbl c0)
  have y5 := hgr _ _ _ (by simp; omega) (hal _ _ _ hbl c1)
  have hB1 : Below w.heap.size w (w.alloc (.cells #[.int .u32 (p.1 : Int), .int .u32 (p.2 : Int)] 27)) := belS (Below.refl _ _)
  generalize w.alloc (.cells #[.int .u32 (p.1 : Int), .int .u32 (p.2 : Int)] 27) = W1 at *
  clear hgr hal hlast n0 n1 hb hb2 c0 c1
  go_quiet_grown (first | (with_reducible refine Calls.grown_of (hL _)) | fail)
  go_wp2_with fail
  go_ret
  exact ⟨rfl, btS hB1 (below_grow _ _ _)⟩
def IdP (pr : Nat → Bool) (n : Nat) (e : Ending) : Prop := (∃ j : Nat, e = .returned (.int .i64 j) ∧ j < n ∧ pr j = true ∧ ∀ m, m < j → pr m = false) ∨ (e = .returned (.int .i64 (-1)) ∧ ∀ m, m < n → pr m = false)
set_option maxHeartbeats 1000000 in
theorem idxw_any (pr : Nat → Bool) (b off cap g n : Nat) (lb : Array Value) (L : List (Nat × Nat)) (w : World) (hl : L.length = n) (hn : n ≤ 1048576) (hb : b < w.heap.size) (eg : ∀ args w, (callFunc g args).run Try.prog w = .ok (.enter g args) w)
    (hc : ∀ j, j < n → w.cell? ⟨b, off + j * 2, none⟩ = some (.int .u32 (L.getD j (0, 0)).1) ∧ w.cell? ⟨b, off + j * 2 + 1, none⟩ = some (.int .u32 (L.getD j (0, 0)).2))
    (hf : ∀ j, j < n → ∀ W, Below w.heap.size w W → Calls Try.prog g (#[.agg #[.int .u32 (L.getD j (0, 0)).1, .int .u32 (L.getD j (0, 0)).2]] ++ lb) W fun e w' => e = .returned (.bool (pr j)) ∧ Below W.heap.size W w') :
    Calls Try.prog 52 #[.slice (some ⟨b, off, none⟩) n cap, .func (.func g) #[] lb] w fun e w' => IdP pr n e ∧ Below w.heap.size w w' := by
  have HC := hidS hc
  have HF := hidS hf
  clear hc hf
  go_enter Try.func52, Try.ntmps52
  go_wp2_with fail
  go_loopw [8] (fun i wr => ∃ k : Nat, k ≤ n ∧ i = .int .i64 k ∧ Below w.heap.size w wr ∧ ∀ m, m < k → pr m = false)
    (fun i _ => n - (intOf i).toNat)
  case atStart => exact ⟨0, Nat.zero_le _, rfl, Below.refl _ _, fun m hm => absurd hm (Nat.not_lt_zero _)⟩
  case round =>
    obtain ⟨k, hk, rfl, hbw, hpre⟩ := hrel
    have HPre := hidS hpre
    clear hpre
    by_cases hlt : k < n
    · have hltI : (k : Int) < (n : Int) := by omega
      have x0 := (hbw.cell (p := ⟨b, off + k * 2, none⟩) hb).trans (HC.out k hlt).1
      have x1 := (hbw.cell (p := ⟨b, off + k * 2 + 1, none⟩) hb).trans (HC.out k hlt).2
      have hD := HF.out k hlt _ hbw
      generalize L.getD k (0, 0) = c at *
      go_wp2_with fail
      with_reducible refine hD.mono ?_
      rintro e wq ⟨rfl, hq⟩
      clear hD
      cases hr : pr k
      · go_wp2_with fail
        go_roundw
        case rel => exact ⟨k + 1, by omega, by go_num, btS hbw hq, fun m hm => by
          by_cases h : m = k
          · rw [h]; exact hr
          · exact HPre.out m (by omega)⟩
        case measure => simp [intOf]; omega
      · go_wp2_with fail
        go_ret
        exact ⟨.inl ⟨k, rfl, hlt, hr, HPre.out⟩, btS hbw hq⟩
    · obtain rfl : k = n := by omega
      have hltI : ¬ (k : Int) < (k : Int) := by omega
      go_wp2_with fail
      go_ret
      exact ⟨.inr ⟨rfl, HPre.out⟩, hbw⟩
def AptPost (L : List (Nat × Nat)) (e : Ending) : Prop :=
  (Ap L ∧ e = .returned (.tuple #[.int .i64 0, .int .i64 0, .bool true])) ∨ (∃ i j : Nat, e = .returned (.tuple #[.int .i64 i, .int .i64 j, .bool false]) ∧ Fst L i j)
set_option maxHeartbeats 1000000 in
theorem aptG_any (ao : Option Addr) (cap : Nat) (L : List (Nat × Nat)) (w : World) (hn : L.length ≤ 1048576) (hcap : L.length ≤ cap) (hw : Wfs L) (hr : SRd w ao L w.heap.size) :
    Calls Try.prog 38 #[.slice ao L.length cap] w fun e w' => AptPost L e ∧ Below w.heap.size w w' := by
  classical
  have HW := hidS hw
  have HR := hidS hr
  clear hw hr
  have eg : ∀ args w, (callFunc 50 args).run Try.prog w = .ok (.enter 50 args) w := enters_of Try.func50 (by kernel_rfl) rfl
  have eg2 : ∀ args w, (callFunc 53 args).run Try.prog w = .ok (.enter 53 args) w := enters_of Try.func53 (by kernel_rfl) rfl
  go_enter Try.func38, Try.ntmps38
  go_wp2_with fail
  have hb1 : Below w.heap.size w (w.alloc (.cells #[.slice ao L.length cap] 30)) := belS (Below.refl _ _)
  have hc1 : (w.alloc (.cells #[.slice ao L.length cap] 30)).cell? ⟨w.heap.size, 0, none⟩ = some (.slice ao L.length cap) := by
    have := heap_alloc_last w (.cells #[.slice ao L.length cap] 30)
    unfold World.cell?; simp only [this]; rfl
  have hlt1 : w.heap.size < (w.alloc (.cells #[.slice ao L.length cap] 30)).heap.size := by simp
  generalize w.alloc (.cells #[.slice ao L.length cap] 30) = W1 at *
  obtain ⟨pr, hpr⟩ : ∃ pr : Nat → Bool, ∀ h, pr h = false ↔ Ap (L.take (h + 1)) := ⟨fun h => !decide (Ap (L.take (h + 1))), fun h => by simp⟩
  have hS := search_any L.length 50 #[.pointer (some ⟨w.heap.size, 0, none⟩)] pr W1 hn eg (fun h hh W hW => by
    obtain ⟨b, off, e, hbl, _⟩ := HR.out (by omega)
    have hr : SRd W ao L W.heap.size := ((HR.out.below hb1).mono hb1.size |>.below hW).mono hW.size
    subst e
    refine (clo1_any w.heap.size _ cap L h W hh hn hcap HW.out hr ((hW.cell (p := ⟨w.heap.size, 0, none⟩) hlt1).trans hc1)).mono ?_
    rintro e w' ⟨⟨r, rfl, hrr⟩, hq⟩
    have : r = pr h := by
      cases hp : pr h
      · exact hrr.2 ((hpr h).1 hp)
      · cases r
        · rw [(hpr h).2 (hrr.1 rfl)] at hp; cases hp
        · rfl
    exact ⟨by rw [this], hq⟩)
  with_reducible refine hS.mono ?_
  rintro e W2 ⟨⟨i, rfl, hi, hor, hor2⟩, hq⟩
  have hc2 := (hq.cell (p := ⟨w.heap.size, 0, none⟩) hlt1).trans hc1
  have hlt2 : w.heap.size < W2.heap.size := by have := hq.size; omega
  have B2 := btS hb1 hq
  have HP := hidS hpr
  have H1 := hidS hor
  have H2 := hidS hor2
  clear hS hc1 hor hor2 hpr eg
  by_cases hin : i = L.length
  · subst hin
    have HA : Hid (Ap L) := by
      rcases H2.out with h | h
      · have : L = [] := List.eq_nil_of_length_eq_zero h
        rw [this]; exact List.Pairwise.nil
      · have := (HP.out _).1 h
        by_cases h0 : L.length = 0
        · have : L = [] := List.eq_nil_of_length_eq_zero h0
          rw [this]; exact List.Pairwise.nil
        · rwa [show L.length - 1 + 1 = L.length by omega, List.take_length] at this
    clear HR HW H1 H2 HP hq eg2
    go_wp2_with fail
    exact bodyPost_ret (results_tmp3 rfl _ _ _) rfl ⟨.inl ⟨HA.out, rfl⟩, belS B2⟩
  · have hlt : i < L.length := by omega
    have hinI : ((i : Int) == (L.length : Int)) = false := by rw [beq_eq_false_iff_ne]; omega
    have hprt : pr i = true := by rcases H1.out with h | h; exact absurd h hin; exact h
    have hna : ¬ Ap (L.take (i + 1)) := fun h => by rw [(HP.out i).2 h] at hprt; cases hprt
    have hi1 : 1 ≤ i := by
      apply Classical.byContradiction
      intro h0
      obtain rfl : i = 0 := by omega
      exact hna (ap_one L)
    have hai : Ap (L.take i) := by
      rcases H2.out with h | h
      · omega
      · have := (HP.out _).1 h
        rwa [show i - 1 + 1 = i by omega] at this
    have HX : Hid (¬ Ap L ∧ Ap (L.take i) ∧ ¬ Ap (L.take (i + 1))) := ⟨fun h => hna (h.take _), hai, hna⟩
    obtain ⟨b, off, rfl, hbl, hcc⟩ := HR.out (by omega)
    clear H1 H2 HP hprt hna hai
    go_wp2_with fail
    have hlast := heap_alloc_last W2 (.cells #[.int .i64 (i : Int)] 3)
    have d2 : (W2.alloc (.cells #[.int .i64 (i : Int)] 3)).cell? ⟨W2.heap.size, 0, none⟩ = some (.int .i64 i) := by unfold World.cell?; simp only [hlast]; rfl
    have b3 : Below W2.heap.size W2 (W2.alloc (.cells #[.int .i64 (i : Int)] 3)) := belS (Below.refl _ _)
    have d1 := (b3.cell (p := ⟨w.heap.size, 0, none⟩) hlt2).trans hc2
    have hsz : (W2.alloc (.cells #[.int .i64 (i : Int)] 3)).heap.size = W2.heap.size + 1 := by simp
    have B3 := btS B2 b3
    have HB3 := hidS B3
    generalize W2.alloc (.cells #[.int .i64 (i : Int)] 3) = W3 at *
    have hrd : SRd W3 (some ⟨b, off, none⟩) L W3.heap.size := (HR.out.below B3).mono B3.size
    have hI := idxw_any (fun j => lapB (L.getD j (0, 0)) (L.getD i (0, 0))) b off cap 53 i #[.pointer (some ⟨w.heap.size, 0, none⟩), .pointer (some ⟨W2.heap.size, 0, none⟩)] (L.take i) W3 (by rw [List.length_take]; omega) (by omega) (by have := B3.size; omega) eg2
      (fun j hj => by
        have e : (L.take i).getD j (0, 0) = L.getD j (0, 0) := by simp [List.getD_eq_getElem?_getD, hj]
        rw [e]
        obtain ⟨h1, h2⟩ := hcc j (by omega)
        exact ⟨(B3.cell (p := ⟨b, off + j * 2, none⟩) hbl).trans h1, (B3.cell (p := ⟨b, off + j * 2 + 1, none⟩) hbl).trans h2⟩)
      (fun j hj W hW => by
        have hwf := (HW.out.take i) _ (getD_memS (L := L.take i) (k := j) (by rw [List.length_take]; omega))
        have hs := hW.size
        have e : (L.take i).getD j (0, 0) = L.getD j (0, 0) := by simp [List.getD_eq_getElem?_getD, hj]
        rw [e] at hwf ⊢
        exact clo2_any w.heap.size W2.heap.size _ cap L i _ W hlt hn hwf HW.out ((hrd.below hW).mono hW.size) ((hW.cell (p := ⟨w.heap.size, 0, none⟩) (by show w.heap.size < _; omega)).trans d1) ((hW.cell (p := ⟨W2.heap.size, 0, none⟩) (by show W2.heap.size < _; omega)).trans d2) (by omega) (by omega))
    with_reducible refine hI.mono ?_
    rintro e W4 ⟨hid, b4⟩
    obtain ⟨jj, rfl, HF⟩ : ∃ jj : Nat, e = .returned (.int .i64 jj) ∧ Hid (Fst L i jj) := by
      rcases hid with ⟨jj, he, h1, h2, h3⟩ | ⟨_, h1⟩
      · exact ⟨jj, he, hlt, h1, HX.out.2.1, h2, h3⟩
      · exact absurd (ap_snoc hlt HX.out.2.1 h1) HX.out.2.2
    clear hid
    have d1' := (b4.cell (p := ⟨w.heap.size, 0, none⟩) (by show w.heap.size < _; omega)).trans d1
    have d2' := (b4.cell (p := ⟨W2.heap.size, 0, none⟩) (by show W2.heap.size < _; omega)).trans d2
    have B4 := btS B3 b4
    clear hI hrd HR HW hcc d1 d2 hlast eg2 hq b3 hc2
    go_wp2_with fail
    exact bodyPost_ret (results_tmp3 rfl _ _ _) rfl ⟨.inr ⟨i, jj, rfl, HF.out⟩, B4⟩
theorem apt_ok (ao : Option Addr) (cap : Nat) (L : List (Nat × Nat)) (w : World) (hn : L.length ≤ 1048576) (hcap : L.length ≤ cap) (hw : Wfs L) (hr : SRd w ao L w.heap.size) (h : Ap L) :
    Calls Try.prog 38 #[.slice ao L.length cap] w fun e w' => e = .returned (.tuple #[.int .i64 0, .int .i64 0, .bool true]) ∧ Below w.heap.size w w' :=
  (aptG_any ao cap L w hn hcap hw hr).mono fun e w' ⟨h1, h2⟩ => ⟨by
    rcases h1 with ⟨_, h1⟩ | ⟨i, j, _, h1⟩
    · exact h1
    · exact absurd h h1.notAp, h2⟩
theorem apt_bad (ao : Option Addr) (cap : Nat) (L : List (Nat × Nat)) (i j : Nat) (w : World) (hn : L.length ≤ 1048576) (hcap : L.length ≤ cap) (hw : Wfs L) (hr : SRd w ao L w.heap.size) (h : Fst L i j) :
    Calls Try.prog 38 #[.slice ao L.length cap] w fun e w' => e = .returned (.tuple #[.int .i64 i, .int .i64 j, .bool false]) ∧ Below w.heap.size w w' :=
  (aptG_any ao cap L w hn hcap hw hr).mono fun e w' ⟨h1, h2⟩ => ⟨by
    rcases h1 with ⟨h1, _⟩ | ⟨i', j', he, h1⟩
    · exact absurd h1 h.notAp
    · obtain ⟨rfl, rfl⟩ := h.uniq h1
      exact he, h2⟩
end Go.Proofs.Ytbaigjckimpkmaa
