import Derived.Test.YtgbpfejodpplbaaGreatDoorCDRo
import Derived.Test.YtgbpfejodpplbaaGreatDoorCLWd32
namespace Go.Proofs.YtgbpfejodpplbaaGreatDoor
open Go.RowKit Go.WideShapes
set_option maxRecDepth 100000

set_option maxHeartbeats 4000000 in
theorem works_any (b op : Nat) (w : World) (ws : List Nat) (_hop : op < 256) (h : RoS b w ws) (hta : opTa op ≤ ws.length) :
    Calls Tryz.prog 91 #[.pointer (some ⟨b, 0, none⟩), .int .u8 (op : Int), .int .i64 (opTa op : Int)] w fun e w' => e = .returned (.bool (wkV ws op).isSome) ∧ (∀ ws', wkV ws op = some ws' → RoS b w' ws') ∧ Kp (fun k => k = b) w w' := by
  have hle := h.le
  by_cases h1 : opTa op = 1
  · rw [h1] at hta ⊢
    have hlast := getLastD_bd h.bd
    have HU := dhid (fun w => un_any op (ws.getLastD 0) w hlast)
    have hcut := last_cut ws (by omega)
    have HW := dhid (show wkV ws op = if unE op = 0 then some (ws.dropLast ++ [unV op (ws.getLastD 0)]) else none by simp [wkV, h1])
    have h' : RoS b w (ws.dropLast ++ [ws.getLastD 0]) := hcut ▸ h
    have hdl := dropLast_len ws
    generalize ws.getLastD 0 = x at *
    generalize ws.dropLast = us at *
    clear hcut h
    have HPo := dhid (pop_any b x w us h')
    have hpb := unV_lt op x hlast
    have HPu := dhid (fun w' (hh : RoS b w' us) => push_anyD b (unV op x) w' us hh hpb (by omega))
    clear h'
    by_cases hE : unE op = 0
    · rw [HW.out, if_pos hE]
      clear HW
      rw [hE] at HU
      generalize unV op x = y at *
      go_enter Tryz.func91, Tryz.ntmps91
      go_wp2_with (first | (go_at_call 90; refine HPo.out.mono ?_; rintro e w1 ⟨rfl, hr1, hk1⟩) | (go_at_call 106; refine (HU.out _).mono ?_; rintro e w2 ⟨rfl, rfl⟩) | (go_at_call 89; refine (HPu.out _ hr1).mono ?_; rintro e w3 ⟨rfl, hr3, hk3⟩))
      go_ret
      exact ⟨rfl, fun ws' e => by cases e; exact hr3, hk1.trans hk3 (fun _ _ e => e)⟩
    · rw [HW.out, if_neg hE]
      clear HW
      have hE' : (unE op == 0) = false := by rw [beq_eq_false_iff_ne]; exact hE
      generalize unE op = er at *
      generalize unV op x = y at *
      go_enter Tryz.func91, Tryz.ntmps91
      go_wp2_with (first | (go_at_call 90; refine HPo.out.mono ?_; rintro e w1 ⟨rfl, hr1, hk1⟩) | (go_at_call 106; refine (HU.out _).mono ?_; rintro e w2 ⟨rfl, rfl⟩))
      go_ret
      exact ⟨rfl, fun ws' e => (by cases e), hk1⟩
  · by_cases h2 : opTa op = 2
    · rw [h2] at hta ⊢
      have hlast := getLastD_bd h.bd
      have hlast2 := getLastD_bd (dropLast_bd h.bd)
      have HU := dhid (fun w => bin_any op (ws.dropLast.getLastD 0) (ws.getLastD 0) w hlast2 hlast)
      have hcut := last_cut ws (by omega)
      have hcut2 := last_cut ws.dropLast (by rw [dropLast_len]; omega)
      have HW := dhid (show wkV ws op = if binE op (ws.getLastD 0) = 0 then some (ws.dropLast.dropLast ++ [binV op (ws.dropLast.getLastD 0) (ws.getLastD 0)]) else none by simp [wkV, h2])
      have h' : RoS b w (ws.dropLast.dropLast ++ [ws.dropLast.getLastD 0] ++ [ws.getLastD 0]) := by rw [← hcut2, ← hcut]; exact h
      have hdl := dropLast_len ws
      have hdl2 := dropLast_len ws.dropLast
      generalize ws.getLastD 0 = x at *
      generalize ws.dropLast.getLastD 0 = z at *
      generalize ws.dropLast.dropLast = us at *
      generalize ws.dropLast = vs at *
      clear hcut hcut2 h
      have HPo := dhid (pop2_any b z x w us h')
      have hpb := binV_lt op z x hlast2 hlast
      have HPu := dhid (fun w' (hh : RoS b w' us) => push_anyD b (binV op z x) w' us hh hpb (by omega))
      clear h'
      by_cases hE : binE op x = 0
      · rw [HW.out, if_pos hE]
        clear HW
        rw [hE] at HU
        generalize binV op z x = y at *
        go_enter Tryz.func91, Tryz.ntmps91
        go_wp2_with (first | (go_at_call 87; refine HPo.out.mono ?_; rintro e w1 ⟨rfl, hr1, hk1⟩) | (go_at_call 107; refine (HU.out _).mono ?_; rintro e w2 ⟨rfl, hb2⟩; have hr2 := hr1.kept (Kp.ofBelow (S := fun _ => False) hb2) (fun e => e)) | (go_at_call 89; refine (HPu.out _ hr2).mono ?_; rintro e w3 ⟨rfl, hr3, hk3⟩))
        go_ret
        exact ⟨rfl, fun ws' e => by cases e; exact hr3, (hk1.trans (Kp.ofBelow (S := fun _ => False) hb2) (fun _ _ e => e.elim)).trans hk3 (fun _ _ e => e)⟩
      · rw [HW.out, if_neg hE]
        clear HW
        have hE' : (binE op x == 0) = false := by rw [beq_eq_false_iff_ne]; exact hE
        generalize binE op x = er at *
        generalize binV op z x = y at *
        go_enter Tryz.func91, Tryz.ntmps91
        go_wp2_with (first | (go_at_call 87; refine HPo.out.mono ?_; rintro e w1 ⟨rfl, hr1, hk1⟩) | (go_at_call 107; refine (HU.out _).mono ?_; rintro e w2 ⟨rfl, hb2⟩))
        go_ret
        exact ⟨rfl, fun ws' e => (by cases e), hk1.trans (Kp.ofBelow (S := fun _ => False) hb2) (fun _ _ e => e.elim)⟩
    · rw [show wkV ws op = none by simp [wkV, h1, h2]]
      have d1 : ((opTa op : Int) == 1) = false := by rw [beq_eq_false_iff_ne]; omega
      have d2 : ((opTa op : Int) == 2) = false := by rw [beq_eq_false_iff_ne]; omega
      have d1' : ¬ (opTa op : Int) = 1 := by omega
      have d2' : ¬ (opTa op : Int) = 2 := by omega
      generalize opTa op = ta at *
      clear h
      go_enter Tryz.func91, Tryz.ntmps91
      go_wp2
      go_ret
      exact ⟨rfl, fun ws' e => (by cases e), Kp.refl _ _⟩
end Go.Proofs.YtgbpfejodpplbaaGreatDoor
namespace Go.Proofs.YtgbpfejodpplbaaGreatDoor
open Go.RowKit Go.WideShapes
set_option maxRecDepth 100000

theorem al2a (w : World) (o1 o2 : Obj) : ((w.alloc o1).alloc o2).heap[w.heap.size]? = some o1 := (Below.heap_alloc _ _ _ (by simp)).trans (heap_alloc_new w o1)
theorem al2b (w : World) (o1 o2 : Obj) : ((w.alloc o1).alloc o2).heap[w.heap.size + 1]? = some o2 := by
  have := heap_alloc_new (w.alloc o1) o2
  simpa using this
theorem KpSetRow {S : Nat → Prop} (w : World) (g : Nat) (cs : Array Value) (hs : S g) : Kp S w (w.setRow g cs) :=
  ⟨rfl, rfl, rfl, by simp [World.setRow], fun k _ hn => setRow_other w g k cs (fun e => hn (e ▸ hs))⟩
theorem two_of (ws : List Nat) (h : ws.length = 2) : ws = [] ++ [ws.getD 0 0] ++ [ws.getD 1 0] := by
  match ws, h with
  | [a, b], _ => rfl
set_option maxHeartbeats 4000000 in
theorem compared_any (b op arg at' len : Nat) (w : World) (ws : List Nat) (h : RoS b w ws) (h2 : ws.length = 2) :
    Calls Tryz.prog 59 #[.pointer (some ⟨b, 0, none⟩), .agg #[.int .u8 (op : Int), .int .u32 (arg : Int)], .int .u32 (at' : Int), .int .u32 (len : Int)] w fun e w' => e = .returned (.agg (pcA at' (cmpV ws op arg len))) ∧ Kp (fun k => k = b) w w' := by
  have ha : ws.getD 0 0 < 4294967296 := h.bd _ (by rw [two_of ws h2]; simp)
  have hb : ws.getD 1 0 < 4294967296 := h.bd _ (by rw [two_of ws h2]; simp)
  have HO := dhid (fun w => ho_any op (ws.getD 0 0) (ws.getD 1 0) w ha hb)
  have h' : RoS b w ([] ++ [ws.getD 0 0] ++ [ws.getD 1 0]) := two_of ws h2 ▸ h
  have hbl := h.lt
  have HP := dhid (fun w' (hk : Kp (fun _ => False) w w') => pop2_any b _ _ w' _ (h'.kept hk (fun e => e)))
  have HL := dhid (fun w' (hr : RoS b w' []) => left_any b at' len w' [] hr)
  have HC := dhid (show cmpV ws op arg len = if hoV op (ws.getD 0 0) (ws.getD 1 0) then (len, 3, arg) else (len, 4, 0) from rfl)
  generalize hoE op = he at *
  generalize hoV op (ws.getD 0 0) (ws.getD 1 0) = hv at *
  generalize ws.getD 0 0 = x at *
  generalize ws.getD 1 0 = y at *
  clear h h'
  have hA := dhid (fun (o1 o2 : Obj) => (Kp.alloc (S := fun _ => False) w o1).trans (Kp.alloc (S := fun _ => False) (w.alloc o1) o2) (fun _ _ e => e))
  have hA' := dhid (fun (o1 o2 : Obj) => (Kp.alloc (S := fun k => k = b) w o1).trans (Kp.alloc (S := fun k => k = b) (w.alloc o1) o2) (fun _ _ e => e))
  have hne1 : ¬ w.heap.size = b := by omega
  have hne2 : ¬ w.heap.size + 1 = b := by omega
  cases hv with
  | true =>
    rw [HC.out, if_pos rfl]
    go_enter Tryz.func59, Tryz.ntmps59
    go_wp2_with (first
      | (go_at_call 87; refine (HP.out _ (hA.out _ _)).mono ?_; rintro e w1 ⟨rfl, hr1, hk1⟩
         have o1 := (hk1.block w.heap.size (by simp; omega) hne1).trans (al2a w _ _)
         have o2 := (hk1.block (w.heap.size + 1) (by simp) hne2).trans (al2b w _ _)
         have c0 := obj_cell o1 0
         have c1 := obj_cell o1 1
         simp only [List.getElem?_toArray, List.getElem?_cons_zero, List.getElem?_cons_succ] at c0 c1
         replace o1 := trivial
         replace o2 := dhid o2)
      | (go_at_call 88; refine (HO.out _).mono ?_; rintro e w2 ⟨rfl, rfl⟩)
      | (refine wpList_store_rowD rfl _ _ _ rfl (w.heap.size + 1) _ (pcA at' (len, 3, arg)) rfl rfl o2.out (by rw [sizeDPc]; rfl) rfl (by simp [pcA, Value.oneCell']) ?_))
    refine bodyPost_ret (resDPc (p := 8) (by kernel_rfl) _ (w.heap.size + 1) (pcA at' (len, 3, arg)) rfl (setRow_heap _ _ _ _ _ _ o2.out) _ rfl) rfl ⟨rfl, ?_⟩
    exact ((hA'.out _ _).trans hk1 (fun _ _ e => e)).trans (KpSetRow (S := fun k => k = w.heap.size + 1) w2 (w.heap.size + 1) _ rfl) (fun k hk e => by omega)
  | false =>
    rw [HC.out, if_neg (by simp)]
    go_enter Tryz.func59, Tryz.ntmps59
    go_wp2_with (first
      | (go_at_call 87; refine (HP.out _ (hA.out _ _)).mono ?_; rintro e w1 ⟨rfl, hr1, hk1⟩
         have o1 := (hk1.block w.heap.size (by simp; omega) hne1).trans (al2a w _ _)
         have o2 := (hk1.block (w.heap.size + 1) (by simp) hne2).trans (al2b w _ _)
         have c0 := obj_cell o1 0
         have c1 := obj_cell o1 1
         simp only [List.getElem?_toArray, List.getElem?_cons_zero, List.getElem?_cons_succ] at c0 c1
         replace o1 := trivial
         have hz1 := hk1.size
         replace o2 := dhid o2)
      | (go_at_call 88; refine (HO.out _).mono ?_; rintro e w2 ⟨rfl, rfl⟩)
      | (go_at_call 61; refine (HL.out _ hr1).mono ?_; rintro e w3 ⟨rfl, hb3⟩
         have o3 := (hb3.block (w.heap.size + 1) (by simp at hz1; omega)).trans o2.out
         replace o3 := dhid o3)
      | (refine wpList_store_rowD rfl _ _ _ rfl (w.heap.size + 1) _ (pcA at' (len, 4, 0)) rfl rfl o3.out (by rw [sizeDPc]; rfl) rfl (by simp [pcA, Value.oneCell']) ?_))
    refine bodyPost_ret (resDPc (p := 8) (by kernel_rfl) _ (w.heap.size + 1) (pcA at' (len, 4, 0)) rfl (setRow_heap _ _ _ _ _ _ o3.out) _ rfl) rfl ⟨rfl, ?_⟩
    exact (((hA'.out _ _).trans hk1 (fun _ _ e => e)).trans (Kp.ofBelow (S := fun _ => False) hb3) (fun _ _ e => e.elim)).trans (KpSetRow (S := fun k => k = w.heap.size + 1) w3 (w.heap.size + 1) _ rfl) (fun k hk e => by omega)
theorem brB_ta {ws : List Nat} {op : Nat} (h : brB ws op = true) : opTa op ≤ ws.length ∧ ws.length - opTa op + opGi op ≤ 64 := of_decide_eq_true h
theorem RoS.boxed {b : Nat} {w : World} {ws : List Nat} (h : RoS b w ws) (o : Obj) : RoS b (w.alloc o) ws := h.kept (Kp.alloc (S := fun _ => False) w o) (fun e => e)
set_option maxHeartbeats 4000000 in
theorem plays_any (b op arg : Nat) (w : World) (ws : List Nat) (hop : op < 256) (harg : arg < 4294967296) (h : RoS b w ws) (hbr : brB ws op = true) :
    Calls Tryz.prog 60 #[.pointer (some ⟨b, 0, none⟩), .agg #[.int .u8 (op : Int), .int .u32 (arg : Int)], .int .i64 (opTa op : Int)] w fun e w' => e = .returned (.bool (plV ws op arg).isSome) ∧ (∀ ws', plV ws op arg = some ws' → RoS b w' ws') ∧ Kp (fun k => k = b) w w' := by
  have hle := h.le
  obtain ⟨hta, hgi⟩ := brB_ta hbr
  have hA := dhid (fun (o1 : Obj) => Kp.alloc (S := fun k => k = b) w o1)
  have hA0 := dhid (fun (o1 : Obj) => h.boxed o1)
  have hbl := h.lt
  by_cases h1 : op = 1
  · subst h1
    rw [show plV ws 1 arg = some ws from rfl]
    go_enter Tryz.func60, Tryz.ntmps60
    go_wp2
    go_ret
    exact ⟨rfl, fun ws' e => (by cases e; exact hA0.out _), hA.out _⟩
  by_cases h8 : op = 8
  · subst h8
    rw [show plV ws 8 arg = some (ws ++ [arg]) from rfl]
    rw [ta_8.1, ta_8.2] at hgi
    have HP := dhid (fun (o : Obj) => push_anyD b arg (w.alloc o) ws (hA0.out o) harg (by omega))
    go_enter Tryz.func60, Tryz.ntmps60
    go_wp2_with (go_at_call 89; refine (HP.out _).mono ?_; rintro e w1 ⟨rfl, hr1, hk1⟩)
    go_ret
    exact ⟨rfl, fun ws' e => (by cases e; exact hr1), (hA.out _).trans hk1 (fun _ _ e => e)⟩
  by_cases h10 : op = 10
  · subst h10
    rw [show plV ws 10 arg = some ws.dropLast from rfl]
    rw [ta_10] at hta
    have HP := dhid (fun (o : Obj) => pop_any b (ws.getLastD 0) (w.alloc o) ws.dropLast (last_cut ws (by omega) ▸ hA0.out o))
    go_enter Tryz.func60, Tryz.ntmps60
    go_wp2_with (go_at_call 90; refine (HP.out _).mono ?_; rintro e w1 ⟨rfl, hr1, hk1⟩)
    go_ret
    exact ⟨rfl, fun ws' e => (by cases e; exact hr1), (hA.out _).trans hk1 (fun _ _ e => e)⟩
  by_cases h11 : op = 11
  · subst h11
    rw [show plV ws 11 arg = some (ws.dropLast ++ [ws.getLastD 0] ++ [ws.getLastD 0]) from rfl]
    rw [ta_11.1] at hta
    rw [ta_11.1, ta_11.2] at hgi
    have hx := getLastD_bd h.bd
    have hdl := dropLast_len ws
    have HP := dhid (fun (o : Obj) => pop_any b (ws.getLastD 0) (w.alloc o) ws.dropLast (last_cut ws (by omega) ▸ hA0.out o))
    generalize ws.getLastD 0 = x at *
    generalize ws.dropLast = us at *
    have HQ := dhid (fun w' (hh : RoS b w' us) => push_anyD b x w' us hh hx (by omega))
    have HR := dhid (fun w' (hh : RoS b w' (us ++ [x])) => push_anyD b x w' (us ++ [x]) hh hx (by simp; omega))
    go_enter Tryz.func60, Tryz.ntmps60
    go_wp2_with (first | (go_at_call 90; refine (HP.out _).mono ?_; rintro e w1 ⟨rfl, hr1, hk1⟩) | (go_at_call 89; first | (refine (HR.out _ hr2).mono ?_; rintro e w3 ⟨rfl, hr3, hk3⟩) | (refine (HQ.out _ hr1).mono ?_; rintro e w2 ⟨rfl, hr2, hk2⟩)))
    go_ret
    exact ⟨rfl, fun ws' e => (by cases e; exact hr3), (((hA.out _).trans hk1 (fun _ _ e => e)).trans hk2 (fun _ _ e => e)).trans hk3 (fun _ _ e => e)⟩
  · rw [show plV ws op arg = wkV ws op by simp [plV, h1, h8, h10, h11]]
    have HW := dhid (fun (o : Obj) => works_any b op (w.alloc o) ws hop (hA0.out o) hta)
    have d1 : ((op : Int) == 1) = false := by rw [beq_eq_false_iff_ne]; omega
    have d8 : ((op : Int) == 8) = false := by rw [beq_eq_false_iff_ne]; omega
    have d10 : ((op : Int) == 10) = false := by rw [beq_eq_false_iff_ne]; omega
    have d11 : ((op : Int) == 11) = false := by rw [beq_eq_false_iff_ne]; omega
    have d1' : ¬ (op : Int) = 1 := by omega
    have d8' : ¬ (op : Int) = 8 := by omega
    have d10' : ¬ (op : Int) = 10 := by omega
    have d11' : ¬ (op : Int) = 11 := by omega
    generalize hq : wkV ws op = q at *
    go_enter Tryz.func60, Tryz.ntmps60
    go_wp2_with (go_at_call 91; refine (HW.out _).mono ?_; rintro e w1 ⟨rfl, hr1, hk1⟩)
    go_ret
    exact ⟨rfl, hr1, (hA.out _).trans hk1 (fun _ _ e => e)⟩
end Go.Proofs.YtgbpfejodpplbaaGreatDoor
namespace Go.Proofs.YtgbpfejodpplbaaGreatDoor
open Go.RowKit Go.WideShapes
set_option maxRecDepth 100000

/-- what abides while a stretch is played: the answer's place, the last closed piece -/
structure LgR (w : World) (g at' : Nat) (c : Nat × Nat × Nat) (wr : World) : Prop where
  bel : Below w.heap.size w wr
  res : wr.heap[w.heap.size]? = some (.cells #[.int .u32 0, .int .u32 0, .int .u8 0, .int .u32 0] 40)
  cl : wr.heap[g]? = some (.cells (pcA at' c) 40)
  gg : w.heap.size + 1 < g
theorem LgR.glt {w : World} {g at' : Nat} {c : Nat × Nat × Nat} {wr : World} (h : LgR w g at' c wr) : g < wr.heap.size := (Array.getElem?_eq_some_iff.1 h.cl).1
theorem LgR.play {w : World} {g at' : Nat} {c : Nat × Nat × Nat} {wr : World} {wr' : World} (h : LgR w g at' c wr) (hk : Kp (fun k => k = w.heap.size + 1) wr wr') : LgR w g at' c wr' := by
  have hs := h.bel.size
  have hg := h.glt
  have hgg := h.gg
  exact ⟨h.bel.trans (hk.below hs (fun i e => by omega)), (hk.block _ (by omega) (by omega)).trans h.res, (hk.block _ hg (by omega)).trans h.cl, h.gg⟩
theorem LgR.step {w : World} {g at' : Nat} {c : Nat × Nat × Nat} {wr : World} {wr' : World} (h : LgR w g at' c wr) (hb : Below wr.heap.size wr wr') : LgR w g at' c wr' := h.play (Kp.ofBelow hb)
theorem LgR.put {w : World} {g at' : Nat} {c : Nat × Nat × Nat} {wr : World} (h : LgR w g at' c wr) (c' : Nat × Nat × Nat) : LgR w g at' c' (wr.setRow g (pcA at' c')) := by
  have hgg := h.gg
  have hk := KpSetRow (S := fun k => k = g) wr g (pcA at' c') rfl
  exact ⟨h.bel.trans (hk.below h.bel.size (fun i e => by omega)), (hk.block _ (by have := h.glt; omega) (by omega)).trans h.res, setRow_heap _ _ _ _ _ _ h.cl, h.gg⟩
theorem LgR.cells {w : World} {g at' : Nat} {c : Nat × Nat × Nat} {wr : World} (h : LgR w g at' c wr) :
    wr.cell? ⟨g, 0, none⟩ = some (.int .u32 (at' : Int)) ∧ wr.cell? ⟨g, 1, none⟩ = some (.int .u32 (c.1 : Int)) ∧ wr.cell? ⟨g, 2, none⟩ = some (.int .u8 (c.2.1 : Int)) ∧ wr.cell? ⟨g, 3, none⟩ = some (.int .u32 (c.2.2 : Int)) :=
  ⟨obj_cell h.cl 0, obj_cell h.cl 1, obj_cell h.cl 2, obj_cell h.cl 3⟩
/-- and the row of words -/
structure LgS (w : World) (g at' : Nat) (ws : List Nat) (c : Nat × Nat × Nat) (wr : World) : Prop where
  r : LgR w g at' c wr
  row : RoS (w.heap.size + 1) wr ws
theorem LgS.step {w : World} {g at' : Nat} {c : Nat × Nat × Nat} {wr : World} {ws : List Nat} {wr' : World} (h : LgS w g at' ws c wr) (hb : Below wr.heap.size wr wr') : LgS w g at' ws c wr' :=
  ⟨h.r.step hb, h.row.kept (Kp.ofBelow (S := fun _ => False) hb) (fun e => e)⟩
theorem LgS.alloc {w : World} {g at' : Nat} {c : Nat × Nat × Nat} {wr : World} {ws : List Nat} (h : LgS w g at' ws c wr) (o : Obj) : LgS w g at' ws c (wr.alloc o) := h.step ((Below.refl _ _).alloc (Nat.le_refl _) o)
theorem LgS.play {w : World} {g at' : Nat} {c : Nat × Nat × Nat} {wr : World} {ws ws' : List Nat} {wr' : World} (h : LgS w g at' ws c wr) (hk : Kp (fun k => k = w.heap.size + 1) wr wr') (hr : RoS (w.heap.size + 1) wr' ws') : LgS w g at' ws' c wr' := ⟨h.r.play hk, hr⟩
theorem LgS.laid {w : World} {g at' : Nat} {c : Nat × Nat × Nat} {wr : World} {ws : List Nat} {c' : Nat × Nat × Nat} {wr' : World} (h : LgS w g at' ws c wr) (hk : Kp (fun k => k = g) wr wr') (hr : LgR w g at' c' wr') : LgS w g at' ws c' wr' :=
  ⟨hr, h.row.kept hk (by have := hr.gg; omega)⟩
/-- a closed piece is laid down -/
theorem store_cl {P : Program} {ops : Array Oper} {Q : Exit → Act → World → Prop} {rest : List Oper} {o : Oper} {a : Act} {w wr : World} {g at' : Nat} {c : Nat × Nat × Nat} (c' : Nat × Nat × Nat) (hg : o.guard = none) (p q : Operand) (ho : o.op = .store 40 p q)
    (h0 : a.eval p = .pointer (some ⟨g, 0, none⟩)) (h1 : a.eval q = .agg (pcA at' c')) (hi : (P.info? 40).map (·.size) = some 4) (hS : LgR w g at' c wr)
    (h : ∀ W, LgR w g at' c' W → Kp (fun k => k = g) wr W → wpList P ops Q rest (a.put o.dst undef) W) : wpList P ops Q (o :: rest) a wr :=
  wpList_store_rowD hg _ _ _ ho g _ _ h0 h1 hS.cl hi rfl (by simp [pcA, Value.oneCell']) (h _ (hS.put c') (KpSetRow _ _ _ rfl))
/-- the cells of an instruction, and of what is told of its operation, in blocks of their own -/
def InsD (w : World) (j op arg : Nat) : Prop := w.heap[j]? = some (.cells #[.int .u8 (op : Int), .int .u32 (arg : Int)] 43)
def IfS (w : World) (j op : Nat) : Prop := w.heap[j]? = some (.cells (infA op) 101)
theorem InsD.kept {w w' : World} {j op arg : Nat} (h : InsD w j op arg) {S : Nat → Prop} (hk : Kp S w w') (hn : ¬ S j) : InsD w' j op arg := (hk.block j (Array.getElem?_eq_some_iff.1 h).1 hn).trans h
theorem IfS.kept {w w' : World} {j op : Nat} (h : IfS w j op) {S : Nat → Prop} (hk : Kp S w w') (hn : ¬ S j) : IfS w' j op := (hk.block j (Array.getElem?_eq_some_iff.1 h).1 hn).trans h
theorem InsD.lt {w : World} {j op arg : Nat} (h : InsD w j op arg) : j < w.heap.size := (Array.getElem?_eq_some_iff.1 h).1
theorem IfS.lt {w : World} {j op : Nat} (h : IfS w j op) : j < w.heap.size := (Array.getElem?_eq_some_iff.1 h).1
theorem InsD.cells {w : World} {j op arg : Nat} (h : InsD w j op arg) : w.cell? ⟨j, 0, none⟩ = some (.int .u8 (op : Int)) ∧ w.cell? ⟨j, 1, none⟩ = some (.int .u32 (arg : Int)) := ⟨obj_cell h 0, obj_cell h 1⟩
theorem IfS.cells {w : World} {j op : Nat} (h : IfS w j op) : w.cell? ⟨j, 0, none⟩ = some (.string (opWd op)) ∧ w.cell? ⟨j, 1, none⟩ = some (.int .i64 (opWi op : Int)) ∧ w.cell? ⟨j, 2, none⟩ = some (.int .u32 (opMo op : Int)) ∧ w.cell? ⟨j, 3, none⟩ = some (.int .i64 (opTa op : Int)) ∧ w.cell? ⟨j, 4, none⟩ = some (.int .i64 (opGi op : Int)) ∧ w.cell? ⟨j, 5, none⟩ = some (.int .u8 (opKi op : Int)) :=
  ⟨obj_cell h 0, obj_cell h 1, obj_cell h 2, obj_cell h 3, obj_cell h 4, obj_cell h 5⟩
theorem ros_new (w : World) (b : Nat) (cs : Array Value) (h : w.heap[b]? = some (.cells cs 127 (0, 0))) (hs : cs.size = 65) (h64 : cs[64]? = some (.int .i64 0)) : RoS b w [] :=
  ⟨⟨cs, h, hs, h64, fun i hi => by simp at hi⟩, by decide, fun x hx => by simp at hx⟩
end Go.Proofs.YtgbpfejodpplbaaGreatDoor
