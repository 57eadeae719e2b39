import Derived.Test.YtdpghhkimnifjaaCDPl
import Derived.Test.YtdpghhkimnifjaaRows
import Derived.WalkKit
import Derived.Laws.BitsAllLaws
import Derived.Deep.QuietTactic
import Derived.BigQuiet
import Derived.WalkSmall
namespace Go.Proofs.Ytdpghhkimnifjaa
open Go.RowKit Go.WideShapes
set_option maxRecDepth 100000

theorem al2a (w : World) (o1 o2 : Obj) : ((w.alloc o1).alloc o2).heap[w.heap.size]? = some o1 := (Below.heap_alloc _ _ _ (by simp)).trans (heap_alloc_new w o1)
theorem al2b (w : World) (o1 o2 : Obj) : ((w.alloc o1).alloc o2).heap[w.heap.size + 1]? = some o2 := by
  have := heap_alloc_new (w.alloc o1) o2
  simpa using this
theorem KpSetRow {S : Nat → Prop} (w : World) (g : Nat) (cs : Array Value) (hs : S g) : Kp S w (w.setRow g cs) :=
  ⟨rfl, rfl, rfl, by simp [World.setRow], fun k _ hn => setRow_other w g k cs (fun e => hn (e ▸ hs))⟩
theorem two_of (ws : List Nat) (h : ws.length = 2) : ws = [] ++ [ws.getD 0 0] ++ [ws.getD 1 0] := by
  match ws, h with
  | [a, b], _ => rfl
set_option maxHeartbeats 4000000 in
theorem compared_any (b op arg at' len : Nat) (w : World) (ws : List Nat) (h : RoS b w ws) (h2 : ws.length = 2) :
    Calls Try.prog 75 #[.pointer (some ⟨b, 0, none⟩), .agg #[.int .u8 (op : Int), .int .u32 (arg : Int)], .int .u32 (at' : Int), .int .u32 (len : Int)] w fun e w' => e = .returned (.agg (pcA at' (cmpV ws op arg len))) ∧ Kp (fun k => k = b) w w' := by
  have ha : ws.getD 0 0 < 4294967296 := h.bd _ (by rw [two_of ws h2]; simp)
  have hb : ws.getD 1 0 < 4294967296 := h.bd _ (by rw [two_of ws h2]; simp)
  have HO := dhid (fun w => ho_any op (ws.getD 0 0) (ws.getD 1 0) w ha hb)
  have h' : RoS b w ([] ++ [ws.getD 0 0] ++ [ws.getD 1 0]) := two_of ws h2 ▸ h
  have hbl := h.lt
  have HP := dhid (fun w' (hk : Kp (fun _ => False) w w') => pop2_any b _ _ w' _ (h'.kept hk (fun e => e)))
  have HL := dhid (fun w' (hr : RoS b w' []) => left_any b at' len w' [] hr)
  have HC := dhid (show cmpV ws op arg len = if hoV op (ws.getD 0 0) (ws.getD 1 0) then (len, 3, arg) else (len, 4, 0) from rfl)
  generalize hoE op = he at *
  generalize hoV op (ws.getD 0 0) (ws.getD 1 0) = hv at *
  generalize ws.getD 0 0 = x at *
  generalize ws.getD 1 0 = y at *
  clear h h'
  have hA := dhid (fun (o1 o2 : Obj) => (Kp.alloc (S := fun _ => False) w o1).trans (Kp.alloc (S := fun _ => False) (w.alloc o1) o2) (fun _ _ e => e))
  have hA' := dhid (fun (o1 o2 : Obj) => (Kp.alloc (S := fun k => k = b) w o1).trans (Kp.alloc (S := fun k => k = b) (w.alloc o1) o2) (fun _ _ e => e))
  have hne1 : ¬ w.heap.size = b := by omega
  have hne2 : ¬ w.heap.size + 1 = b := by omega
  cases hv with
  | true =>
    rw [HC.out, if_pos rfl]
    go_enter Try.func75, Try.ntmps75
    go_wp2_with (first
      | (go_at_call 78; refine (HP.out _ (hA.out _ _)).mono ?_; rintro e w1 ⟨rfl, hr1, hk1⟩
         have o1 := (hk1.block w.heap.size (by simp; omega) hne1).trans (al2a w _ _)
         have o2 := (hk1.block (w.heap.size + 1) (by simp) hne2).trans (al2b w _ _)
         have c0 := obj_cell o1 0
         have c1 := obj_cell o1 1
         simp only [List.getElem?_toArray, List.getElem?_cons_zero, List.getElem?_cons_succ] at c0 c1
         replace o1 := trivial
         replace o2 := dhid o2)
      | (go_at_call 25; refine (HO.out _).mono ?_; rintro e w2 ⟨rfl, rfl⟩)
      | (refine wpList_store_rowD rfl _ _ _ rfl (w.heap.size + 1) _ (pcA at' (len, 3, arg)) rfl rfl o2.out (by rw [sizeDPc]; rfl) rfl (by simp [pcA, Value.oneCell']) ?_))
    refine bodyPost_ret (resDPc (p := 8) (by kernel_rfl) _ (w.heap.size + 1) (pcA at' (len, 3, arg)) rfl (setRow_heap _ _ _ _ _ _ o2.out) _ rfl) rfl ⟨rfl, ?_⟩
    exact ((hA'.out _ _).trans hk1 (fun _ _ e => e)).trans (KpSetRow (S := fun k => k = w.heap.size + 1) w2 (w.heap.size + 1) _ rfl) (fun k hk e => by omega)
  | false =>
    rw [HC.out, if_neg (by simp)]
    go_enter Try.func75, Try.ntmps75
    go_wp2_with (first
      | (go_at_call 78; refine (HP.out _ (hA.out _ _)).mono ?_; rintro e w1 ⟨rfl, hr1, hk1⟩
         have o1 := (hk1.block w.heap.size (by simp; omega) hne1).trans (al2a w _ _)
         have o2 := (hk1.block (w.heap.size + 1) (by simp) hne2).trans (al2b w _ _)
         have c0 := obj_cell o1 0
         have c1 := obj_cell o1 1
         simp only [List.getElem?_toArray, List.getElem?_cons_zero, List.getElem?_cons_succ] at c0 c1
         replace o1 := trivial
         have hz1 := hk1.size
         replace o2 := dhid o2)
      | (go_at_call 25; refine (HO.out _).mono ?_; rintro e w2 ⟨rfl, rfl⟩)
      | (go_at_call 77; refine (HL.out _ hr1).mono ?_; rintro e w3 ⟨rfl, hb3⟩
         have o3 := (hb3.block (w.heap.size + 1) (by simp at hz1; omega)).trans o2.out
         replace o3 := dhid o3)
      | (refine wpList_store_rowD rfl _ _ _ rfl (w.heap.size + 1) _ (pcA at' (len, 4, 0)) rfl rfl o3.out (by rw [sizeDPc]; rfl) rfl (by simp [pcA, Value.oneCell']) ?_))
    refine bodyPost_ret (resDPc (p := 8) (by kernel_rfl) _ (w.heap.size + 1) (pcA at' (len, 4, 0)) rfl (setRow_heap _ _ _ _ _ _ o3.out) _ rfl) rfl ⟨rfl, ?_⟩
    exact (((hA'.out _ _).trans hk1 (fun _ _ e => e)).trans (Kp.ofBelow (S := fun _ => False) hb3) (fun _ _ e => e.elim)).trans (KpSetRow (S := fun k => k = w.heap.size + 1) w3 (w.heap.size + 1) _ rfl) (fun k hk e => by omega)
theorem brB_ta {ws : List Nat} {op : Nat} (h : brB ws op = true) : opTa op ≤ ws.length ∧ ws.length - opTa op + opGi op ≤ 64 := of_decide_eq_true h
theorem RoS.boxed {b : Nat} {w : World} {ws : List Nat} (h : RoS b w ws) (o : Obj) : RoS b (w.alloc o) ws := h.kept (Kp.alloc (S := fun _ => False) w o) (fun e => e)
set_option maxHeartbeats 4000000 in
theorem plays_any (b op arg : Nat) (w : World) (ws : List Nat) (hop : op < 256) (harg : arg < 4294967296) (h : RoS b w ws) (hbr : brB ws op = true) :
    Calls Try.prog 76 #[.pointer (some ⟨b, 0, none⟩), .agg #[.int .u8 (op : Int), .int .u32 (arg : Int)], .int .i64 (opTa op : Int)] w fun e w' => e = .returned (.bool (plV ws op arg).isSome) ∧ (∀ ws', plV ws op arg = some ws' → RoS b w' ws') ∧ Kp (fun k => k = b) w w' := by
  have hle := h.le
  obtain ⟨hta, hgi⟩ := brB_ta hbr
  have hA := dhid (fun (o1 : Obj) => Kp.alloc (S := fun k => k = b) w o1)
  have hA0 := dhid (fun (o1 : Obj) => h.boxed o1)
  have hbl := h.lt
  by_cases h1 : op = 1
  · subst h1
    rw [show plV ws 1 arg = some ws from rfl]
    go_enter Try.func76, Try.ntmps76
    go_wp2
    go_ret
    exact ⟨rfl, fun ws' e => (by cases e; exact hA0.out _), hA.out _⟩
  by_cases h8 : op = 8
  · subst h8
    rw [show plV ws 8 arg = some (ws ++ [arg]) from rfl]
    rw [ta_8.1, ta_8.2] at hgi
    have HP := dhid (fun (o : Obj) => push_any b arg (w.alloc o) ws (hA0.out o) harg (by omega))
    go_enter Try.func76, Try.ntmps76
    go_wp2_with (go_at_call 79; refine (HP.out _).mono ?_; rintro e w1 ⟨rfl, hr1, hk1⟩)
    go_ret
    exact ⟨rfl, fun ws' e => (by cases e; exact hr1), (hA.out _).trans hk1 (fun _ _ e => e)⟩
  by_cases h10 : op = 10
  · subst h10
    rw [show plV ws 10 arg = some ws.dropLast from rfl]
    rw [ta_10] at hta
    have HP := dhid (fun (o : Obj) => pop_any b (ws.getLastD 0) (w.alloc o) ws.dropLast (last_cut ws (by omega) ▸ hA0.out o))
    go_enter Try.func76, Try.ntmps76
    go_wp2_with (go_at_call 80; refine (HP.out _).mono ?_; rintro e w1 ⟨rfl, hr1, hk1⟩)
    go_ret
    exact ⟨rfl, fun ws' e => (by cases e; exact hr1), (hA.out _).trans hk1 (fun _ _ e => e)⟩
  by_cases h11 : op = 11
  · subst h11
    rw [show plV ws 11 arg = some (ws.dropLast ++ [ws.getLastD 0] ++ [ws.getLastD 0]) from rfl]
    rw [ta_11.1] at hta
    rw [ta_11.1, ta_11.2] at hgi
    have hx := getLastD_bd h.bd
    have hdl := dropLast_len ws
    have HP := dhid (fun (o : Obj) => pop_any b (ws.getLastD 0) (w.alloc o) ws.dropLast (last_cut ws (by omega) ▸ hA0.out o))
    generalize ws.getLastD 0 = x at *
    generalize ws.dropLast = us at *
    have HQ := dhid (fun w' (hh : RoS b w' us) => push_any b x w' us hh hx (by omega))
    have HR := dhid (fun w' (hh : RoS b w' (us ++ [x])) => push_any b x w' (us ++ [x]) hh hx (by simp; omega))
    go_enter Try.func76, Try.ntmps76
    go_wp2_with (first | (go_at_call 80; refine (HP.out _).mono ?_; rintro e w1 ⟨rfl, hr1, hk1⟩) | (go_at_call 79; first | (refine (HR.out _ hr2).mono ?_; rintro e w3 ⟨rfl, hr3, hk3⟩) | (refine (HQ.out _ hr1).mono ?_; rintro e w2 ⟨rfl, hr2, hk2⟩)))
    go_ret
    exact ⟨rfl, fun ws' e => (by cases e; exact hr3), (((hA.out _).trans hk1 (fun _ _ e => e)).trans hk2 (fun _ _ e => e)).trans hk3 (fun _ _ e => e)⟩
  · rw [show plV ws op arg = wkV ws op by simp [plV, h1, h8, h10, h11]]
    have HW := dhid (fun (o : Obj) => works_any b op (w.alloc o) ws hop (hA0.out o) hta)
    have d1 : ((op : Int) == 1) = false := by rw [beq_eq_false_iff_ne]; omega
    have d8 : ((op : Int) == 8) = false := by rw [beq_eq_false_iff_ne]; omega
    have d10 : ((op : Int) == 10) = false := by rw [beq_eq_false_iff_ne]; omega
    have d11 : ((op : Int) == 11) = false := by rw [beq_eq_false_iff_ne]; omega
    have d1' : ¬ (op : Int) = 1 := by omega
    have d8' : ¬ (op : Int) = 8 := by omega
    have d10' : ¬ (op : Int) = 10 := by omega
    have d11' : ¬ (op : Int) = 11 := by omega
    generalize hq : wkV ws op = q at *
    go_enter Try.func76, Try.ntmps76
    go_wp2_with (go_at_call 81; refine (HW.out _).mono ?_; rintro e w1 ⟨rfl, hr1, hk1⟩)
    go_ret
    exact ⟨rfl, hr1, (hA.out _).trans hk1 (fun _ _ e => e)⟩
end Go.Proofs.Ytdpghhkimnifjaa
namespace Go.Proofs.Ytdpghhkimnifjaa
open Go.RowKit
set_option maxRecDepth 100000

theorem Try.info5 : (Try.prog.info? 5).map (fun i => (i.zero, i.size, i.bytes)) = some (some (.int .u8 0), 1, 1) := by kernel_rfl

/-- bytes as values -/
def bv (L : List Int) : List Value := L.map (Value.int .u8)
theorem bv_append (L M : List Int) : bv (L ++ M) = bv L ++ bv M := by simp [bv]
theorem bv_len (L : List Int) : (bv L).length = L.length := by simp [bv]
theorem bv_one (x : Int) : bv [x] = [.int .u8 x] := rfl

/-- what a slice of bytes that is read holds -/
def Reads (w : World) (ao : Option Addr) (zs : List Int) (B : Nat) : Prop :=
  0 < zs.length → ∃ b off, ao = some ⟨b, off, none⟩ ∧ b < B ∧ ∀ j, j < zs.length → w.cell? ⟨b, off + j, none⟩ = some (.int .u8 (zs.getD j 0))

theorem Reads.below {w w' : World} {ao : Option Addr} {zs : List Int} {B : Nat} (h : Reads w ao zs B) (hb : Below B w w') : Reads w' ao zs B := by
  intro hl
  obtain ⟨b, off, e, hlt, hc⟩ := h hl
  exact ⟨b, off, e, hlt, fun j hj => (hb.cell (p := ⟨b, off + j, none⟩) hlt).trans (hc j hj)⟩
theorem Reads.mono {w : World} {ao : Option Addr} {zs : List Int} {B C : Nat} (h : Reads w ao zs B) (hb : B ≤ C) : Reads w ao zs C := by
  intro hl
  obtain ⟨b, off, e, hlt, hc⟩ := h hl
  exact ⟨b, off, e, Nat.lt_of_lt_of_le hlt hb, hc⟩
theorem Reads.nil (w : World) (ao : Option Addr) (B : Nat) : Reads w ao [] B := fun h => by simp at h

theorem take_snoc (zs : List Int) (k : Nat) (h : k < zs.length) : zs.take (k + 1) = zs.take k ++ [zs.getD k 0] := by
  rw [List.take_succ_eq_append_getElem h]
  simp [List.getD, List.getElem?_eq_getElem h]
theorem getD_mem {zs : List Int} {k : Nat} (h : k < zs.length) : zs.getD k 0 ∈ zs := by
  simp [List.getD, List.getElem?_eq_getElem h]

theorem own_snoc {w1 : World} {B : Nat} {v' : Value} {L M : List Int} {n : Nat} {x : Int} (hM : M = L ++ [x])
    (h : w1.ownsRow B 5 1 v' (n + 1) (bv L ++ [.int .u8 x])) : w1.ownsRow B 5 1 v' (n + 1) (bv M) := by
  rw [hM, bv_append]; exact h
theorem grown_below {B e sz : Nat} {a w w' : World} {xs : List Value} {v : Value} {n : Nat} {o : Obj} (h : Below B a w) (hB : B ≤ w.heap.size) (hown : w.ownsRow B e sz v n xs) (hg : (w.alloc o).grownBy w' v.ownBlock) : Below B a w' :=
  (h.alloc hB o).grown hg (by simp; omega) (fun k e => (hown.lt k e).1)
theorem own_cell {w1 : World} {B g n cap : Nat} {L : List Int} (h : w1.ownsRow B 5 1 (.slice (some ⟨g, 0, none⟩) n cap) L.length (bv L)) {i : Nat} (hi : i < L.length) : w1.cell? ⟨g, 0 + i, none⟩ = some (.int .u8 (L.getD i 0)) := by
  have := h.cells (g := g) rfl i (.int .u8 (L.getD i 0)) (by simp [bv, List.getD, List.getElem?_eq_getElem hi])
  have hadd : (⟨g, 0, none⟩ : Addr).add i = ⟨g, 0 + i, none⟩ := by unfold Addr.add; split <;> simp_all
  rw [← hadd]; exact this
theorem own_reads {w : World} {B : Nat} {v : Value} {zs : List Int} (h : w.ownsRow B 5 1 v zs.length (bv zs)) : ∃ ao cap, v = .slice ao zs.length cap ∧ Reads w ao zs w.heap.size := by
  have h' := h
  have hlt := h.lt
  rcases h.2 with ⟨rfl, hz⟩ | ⟨g, cap, cur, rfl, _⟩
  · have hl : zs.length = 0 := by simpa using hz
    exact ⟨none, 0, by rw [hl], fun hp => by omega⟩
  · exact ⟨_, cap, rfl, fun _ => ⟨g, 0, rfl, (hlt g rfl).2, fun j hj => own_cell h' hj⟩⟩
theorem ret_int {k : IntKind} {a b : Int} (h : a = b) : Ending.returned (.int k a) = .returned (.int k b) := by rw [h]
theorem below_drewN {B : Nat} {a w : World} (h : Below B a w) (n : Nat) : Below B a (w.drewN n) := h.trans ⟨rfl, rfl, rfl, Nat.le_refl _, fun _ _ => rfl⟩
end Go.Proofs.Ytdpghhkimnifjaa
