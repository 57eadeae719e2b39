import Derived.Test.YtpahpdgkahomlaaGreatDoorCVMd
import Derived.Test.YtpahpdgkahomlaaGreatDoorVWn
import Derived.Test.YtpahpdgkahomlaaGreatDoorCVLr
import Derived.Test.YtpahpdgkahomlaaGreatDoorCVSn
import Derived.BigQuiet
namespace Go.Proofs.YtpahpdgkahomlaaGreatDoor
open Go.RowKit Go.WideShapes Go.Shelf
set_option maxRecDepth 100000
/-- the sample's code -/
def ysL : List (Nat × Nat) := [(3, 8), (8, 4), (5, 0), (4, 8), (3, 4), (8, 7), (4, 4)]
/-- the same with a nop at 1 -/
def ysN : List (Nat × Nat) := [(3, 8), (1, 0), (5, 0), (4, 8), (3, 4), (8, 7), (4, 4)]
def ysM : List (ByteArray × Nat) := [(⟨#[109, 97, 105, 110]⟩, 0)]
theorem FdG.noB {L : List (Nat × Nat)} {J : List Nat} {M : List (ByteArray × Nat)} (h : FdG L J M) {i x : Nat} (hB : FdB L J M i x) : x = 0 := by
  rcases hB with ⟨a, _⟩ | ⟨_, a, _⟩ | ⟨_, _, a⟩ | ⟨_, _, _, a⟩ | ⟨_, _, _, _, a⟩
  · exact absurd h.enc a
  · rw [h.fst] at a; cases a
  · rcases a with ⟨_, e, _⟩ | ⟨hx, k, hk, h1, h2, h3, _⟩
    · exact e
    · exact absurd (h3.symm.trans (h.ck k hk i h1 h2)) hx
  · rcases a with ⟨_, e, _⟩ | ⟨_, hk, h1, _⟩
    · exact e
    · rw [h.jm i hk] at h1; cases h1
  · rcases a with ⟨_, e, _⟩ | ⟨_, hk, h1, _⟩
    · exact e
    · rw [h.nm i hk] at h1; cases h1
theorem ys_ck : ckV ysL 0 0 0 64 ysM = 0 := by kernel_rfl
theorem ysN_ck : ckV ysN 0 0 0 64 ysM = 0 := by kernel_rfl
theorem ys_bgs : bgs ysL = [0, 4] := by kernel_rfl
theorem ysN_bgs : bgs ysN = [0, 4] := by kernel_rfl
theorem ys_err : (List.range 7).all (fun j => errP ysL (0, 4, 8) j == 0 || decide (4 ≤ j)) = true ∧ (List.range 7).all (fun j => errP ysL (4, 7, 4) j == 0 || decide (j < 4)) = true := ⟨by kernel_rfl, by kernel_rfl⟩
theorem ysN_err : (List.range 7).all (fun j => errP ysN (0, 4, 8) j == 0 || decide (4 ≤ j)) = true ∧ (List.range 7).all (fun j => errP ysN (4, 7, 4) j == 0 || decide (j < 4)) = true := ⟨by kernel_rfl, by kernel_rfl⟩
theorem ys_prL : prL ysL = [(0, 4, 8), (4, 7, 4)] := by kernel_rfl
theorem ysN_prL : prL ysN = [(0, 4, 8), (4, 7, 4)] := by kernel_rfl
theorem fdg_of {L : List (Nat × Nat)} (h0 : encX L = 0) (h1 : isEn L 0 = true) (h2 : prL L = [(0, 4, 8), (4, 7, 4)]) (h3 : (List.range 7).all (fun j => errP L (0, 4, 8) j == 0 || decide (4 ≤ j)) = true) (h4 : (List.range 7).all (fun j => errP L (4, 7, 4) j == 0 || decide (j < 4)) = true) : FdG L [] ysM := by
  refine ⟨h0, h1, ?_, fun j hj => absurd hj (by simp), fun j hj => ?_⟩
  · intro k hk
    rw [h2] at hk ⊢
    match k, hk with
    | 0, _ =>
      intro j _ hb
      have hb' : j < 4 := hb
      have := (List.all_eq_true.1 h3) j (List.mem_range.2 (by omega))
      simp at this
      rcases this with q | q
      · exact q
      · omega
    | 1, _ =>
      intro j ha hb
      have hb' : j < 7 := hb
      have ha' : 4 ≤ j := ha
      have := (List.all_eq_true.1 h4) j (List.mem_range.2 (by omega))
      simp at this
      rcases this with q | q
      · exact q
      · omega
    | (k + 2), hk => exact absurd hk (by simp)
  · match j, hj with
    | 0, _ => exact h1
    | (j + 1), hj => exact absurd hj (by simp [ysM])
theorem ys_fd : FdG ysL [] ysM := fdg_of (by kernel_rfl) (by kernel_rfl) ys_prL ys_err.1 ys_err.2
theorem ysN_fd : FdG ysN [] ysM := fdg_of (by kernel_rfl) (by kernel_rfl) ysN_prL ysN_err.1 ysN_err.2
def ysD : List Int := [0, 0, 1, 1, 0, 0, 1]
/-- does a list of depths hold, told by reckoning? -/
def solB (L : List (Nat × Nat)) (D : List Int) (i : Nat) : Bool := tkE (opL L i) (D.getD i (-1)) == 0 && (nxt L [] i).all (fun j => D.getD j (-1) == restI (opL L i) (D.getD i (-1)))
theorem ys_solB : (List.range 7).all (solB ysL ysD) = true := by kernel_rfl
theorem ys_at : bAt ysL 0 = 0 ∧ bAt ysL 1 = 4 ∧ bAt ysL 2 = 7 := ⟨by kernel_rfl, by kernel_rfl, by kernel_rfl⟩
theorem ysN_at : bAt ysN 0 = 0 ∧ bAt ysN 1 = 4 ∧ bAt ysN 2 = 7 := ⟨by kernel_rfl, by kernel_rfl, by kernel_rfl⟩
theorem ys_sol (k : Nat) (hk : k < (bgs ysL).length) : Sol ysL [] k ysD := by
  have hb : ∀ i, i < 7 → tkE (opL ysL i) (ysD.getD i (-1)) = 0 ∧ ∀ j ∈ nxt ysL [] i, ysD.getD j (-1) = restI (opL ysL i) (ysD.getD i (-1)) := fun i hi => by
    have := (List.all_eq_true.1 ys_solB) i (List.mem_range.2 hi)
    unfold solB at this
    rw [Bool.and_eq_true, beq_iff_eq, List.all_eq_true] at this
    exact ⟨this.1, fun j hj => by have := this.2 j hj; rwa [beq_iff_eq] at this⟩
  rw [ys_bgs] at hk
  match k, hk with
  | 0, _ => exact ⟨by rw [ys_at.1]; rfl, fun i _ h2 _ => hb i (by rw [ys_at.2.1] at h2; omega)⟩
  | 1, _ => exact ⟨by rw [ys_at.2.1]; rfl, fun i _ h2 _ => hb i (by rw [ys_at.2.2] at h2; omega)⟩
  | (k + 2), hk => exact absurd hk (by simp)
/-- the sample is taken -/
theorem ys_not (i x : Nat) (hx : x ≠ 0) : ¬ ((i = 0 ∧ x = ckV ysL 0 0 0 64 ysM) ∨ (ckV ysL 0 0 0 64 ysM = 0 ∧ FdB ysL [] ysM i x) ∨ (ckV ysL 0 0 0 64 ysM = 0 ∧ FdG ysL [] ysM ∧ ∃ k, k < (bgs ysL).length ∧ FltP ysL [] k i x)) := by
  rintro (⟨_, h⟩ | ⟨_, h⟩ | ⟨_, h, k, hk, hf⟩)
  · exact hx (h.trans ys_ck)
  · exact hx (ys_fd.noB h)
  · exact hf.noSol h hk ysD (ys_sol k hk)
theorem nx_of {L : List (Nat × Nat)} {i j : Nat} (h : nxt L [] i = [j]) : j ∈ nxt L [] i := by rw [h]; exact List.mem_singleton.2 rfl
/-- the depth at 3 is 1 -/
theorem ys_dep {D : List Int} (h : Sol ysL [] 0 D) : D.getD 3 (-1) = 1 := by
  have e0 : D.getD 0 (-1) = 0 := by have := h.at0; rwa [ys_at.1] at this
  have s : ∀ i, i < 4 → 0 ≤ D.getD i (-1) → ∀ j ∈ nxt ysL [] i, D.getD j (-1) = restI (opL ysL i) (D.getD i (-1)) := fun i hi hp => (h.ok i (by rw [ys_at.1]; omega) (by rw [ys_at.2.1]; exact hi) hp).2
  have e1 : D.getD 1 (-1) = 0 := by rw [s 0 (by omega) (by rw [e0]; decide) 1 (nx_of (by kernel_rfl)), e0]; kernel_rfl
  have e2 : D.getD 2 (-1) = 1 := by rw [s 1 (by omega) (by rw [e1]; decide) 2 (nx_of (by kernel_rfl)), e1]; kernel_rfl
  have e3 := s 2 (by omega) (by rw [e2]; decide) 3 (nx_of (by kernel_rfl))
  rw [e2] at e3
  exact e3.trans (by kernel_rfl)
/-- what is altered has no depths -/
theorem ysN_no {D : List Int} (h : Sol ysN [] 0 D) : False := by
  have e0 : D.getD 0 (-1) = 0 := by have := h.at0; rwa [ysN_at.1] at this
  have s : ∀ i, i < 4 → 0 ≤ D.getD i (-1) → _ := fun i hi hp => h.ok i (by rw [ysN_at.1]; omega) (by rw [ysN_at.2.1]; exact hi) hp
  have e1 : D.getD 1 (-1) = 0 := by rw [(s 0 (by omega) (by rw [e0]; decide)).2 1 (nx_of (by kernel_rfl)), e0]; kernel_rfl
  have e2 : D.getD 2 (-1) = 0 := by rw [(s 1 (by omega) (by rw [e1]; decide)).2 2 (nx_of (by kernel_rfl)), e1]; kernel_rfl
  have := (s 2 (by omega) (by rw [e2]; decide)).1
  rw [e2] at this
  exact absurd this (by decide)
/-- where the walk of what is altered comes to -/
def ysR (i : Nat) (d : Int) : Prop := (i, d) ∈ [((0 : Nat), (0 : Int)), (1, 0), (2, 0), (4, 0), (5, 0), (6, 1)]
def stepB : Bool := [((0 : Nat), (0 : Int)), (1, 0), (2, 0), (4, 0), (5, 0), (6, 1)].all fun p => (p.1 == 2 && tkE (opL ysN p.1) p.2 == 140) || (tkE (opL ysN p.1) p.2 == 0 && (nxt ysN [] p.1).all fun j => [((0 : Nat), (0 : Int)), (1, 0), (2, 0), (4, 0), (5, 0), (6, 1)].contains (j, restI (opL ysN p.1) p.2))
theorem step_ok : stepB = true := by kernel_rfl
theorem ysR_step {i : Nat} {d : Int} (h : ysR i d) : (i = 2 ∧ tkE (opL ysN i) d = 140) ∨ (tkE (opL ysN i) d = 0 ∧ ∀ j ∈ nxt ysN [] i, ysR j (restI (opL ysN i) d)) := by
  have := (List.all_eq_true.1 step_ok) (i, d) h
  rw [Bool.or_eq_true, Bool.and_eq_true, Bool.and_eq_true, beq_iff_eq, beq_iff_eq, beq_iff_eq, List.all_eq_true] at this
  rcases this with q | q
  · exact .inl q
  · exact .inr ⟨q.1, fun j hj => by have := q.2 j hj; simpa [ysR] using this⟩
theorem ysN_rch {k i : Nat} {d : Int} (hk : k < (bgs ysN).length) (h : Rch ysN [] k i d) : ysR i d := by
  refine h ysR ?_ fun i d j hR ht hj => ?_
  · rw [ysN_bgs] at hk
    match k, hk with
    | 0, _ => rw [ysN_at.1]; simp [ysR]
    | 1, _ => rw [ysN_at.2.1]; simp [ysR]
    | (k + 2), hk => exact absurd hk (by simp)
  · rcases ysR_step hR with ⟨_, q⟩ | ⟨_, q⟩
    · rw [ht] at q; cases q
    · exact q j hj
theorem ysR_one {i : Nat} {d d' : Int} (h : ysR i d) (h' : ysR i d') : d = d' := by
  simp only [ysR, List.mem_cons, List.mem_nil_iff, Prod.mk.injEq, or_false] at h h'
  omega
/-- the one fault of what is altered -/
theorem ysN_flt {k i x : Nat} (hk : k < (bgs ysN).length) (h : FltP ysN [] k i x) : i = 2 ∧ x = 140 := by
  rcases h with ⟨d, h1, h2, h3⟩ | ⟨_, d, j, d', h1, h2, h3, h4, h5⟩
  · rcases ysR_step (ysN_rch hk h1) with ⟨a, b⟩ | ⟨a, _⟩
    · exact ⟨a, h2.trans b⟩
    · exact absurd (h2.trans a) h3
  · rcases ysR_step (ysN_rch hk h1) with ⟨_, b⟩ | ⟨_, b⟩
    · rw [h2] at b; cases b
    · exact absurd (ysR_one (ysN_rch hk h4) (b j h3)) h5
/-- what Take says of what is altered -/
theorem ysN_is (i x : Nat) (hx : x ≠ 0) (h : (i = 0 ∧ x = ckV ysN 0 0 0 64 ysM) ∨ (ckV ysN 0 0 0 64 ysM = 0 ∧ FdB ysN [] ysM i x) ∨ (ckV ysN 0 0 0 64 ysM = 0 ∧ FdG ysN [] ysM ∧ ∃ k, k < (bgs ysN).length ∧ FltP ysN [] k i x)) : i = 2 ∧ x = 140 := by
  rcases h with ⟨_, h⟩ | ⟨_, h⟩ | ⟨_, _, k, hk, hf⟩
  · exact absurd (h.trans ysN_ck) hx
  · exact absurd (ysN_fd.noB h) hx
  · exact ysN_flt hk hf
end Go.Proofs.YtpahpdgkahomlaaGreatDoor
namespace Go.Proofs.YtpahpdgkahomlaaGreatDoor
open Go.RowKit Go.WideShapes Go.Shelf
set_option maxRecDepth 100000
abbrev ysC : Array Value := #[.int .u8 3, .int .u32 8, .int .u8 8, .int .u32 4, .int .u8 5, .int .u32 0, .int .u8 4, .int .u32 8, .int .u8 3, .int .u32 4, .int .u8 8, .int .u32 7, .int .u8 4, .int .u32 4]
abbrev ysE : Array Value := #[.string ⟨#[109, 97, 105, 110]⟩, .int .u32 0]
/-- what sample leaves -/
structure SaP (w : World) (w' : World) : Prop where
  code : w'.heap[w.heap.size + 1]? = some (.cells ysC 70 (0, 0))
  names : w'.heap[w.heap.size + 1 + 1]? = some (.cells ysE 66 (0, 0))
  bl : Below w.heap.size w w'
abbrev saV (n : Nat) : Value := imV (some ⟨n + 1, 0, none⟩) 7 7 none 0 0 none 0 0 0 64 (some ⟨n + 1 + 1, 0, none⟩) 1 1
set_option maxHeartbeats 4000000 in
theorem sample_any (w : World) : Calls Tryz.prog 20 #[] w fun e w' => e = .returned (saV w.heap.size) ∧ SaP w w' := by
  go_enter Tryz.func20, Tryz.ntmps20
  go_wp2
  have q1 := heap_alloc_new w (.cells (imC (some ⟨w.heap.size + 1, 0, none⟩) 7 7 none 0 0 none 0 0 0 64 (some ⟨w.heap.size + 1 + 1, 0, none⟩) 1 1) 28)
  have q2 := heap_alloc_new (w.alloc (.cells (imC (some ⟨w.heap.size + 1, 0, none⟩) 7 7 none 0 0 none 0 0 0 64 (some ⟨w.heap.size + 1 + 1, 0, none⟩) 1 1) 28)) (.cells ysC 70)
  have q3 := heap_alloc_new ((w.alloc (.cells (imC (some ⟨w.heap.size + 1, 0, none⟩) 7 7 none 0 0 none 0 0 0 64 (some ⟨w.heap.size + 1 + 1, 0, none⟩) 1 1) 28)).alloc (.cells ysC 70)) (.cells ysE 66)
  simp only [World.size_alloc] at q2 q3
  refine bodyPost_ret (resVIm (p := 0) (by kernel_rfl) _ w.heap.size (imC (some ⟨w.heap.size + 1, 0, none⟩) 7 7 none 0 0 none 0 0 0 64 (some ⟨w.heap.size + 1 + 1, 0, none⟩) 1 1) rfl ((Below.heap_alloc _ _ _ (by simp only [World.size_alloc]; omega)).trans ((Below.heap_alloc _ _ _ (by simp only [World.size_alloc]; omega)).trans q1)) _ rfl) rfl ?_
  exact ⟨rfl, (Below.heap_alloc _ _ _ (by simp only [World.size_alloc]; omega)).trans q2, q3, belP (belP (belP (Below.refl _ _)))⟩
theorem crd_obj {W : World} {b : Nat} {L : List (Nat × Nat)} {t : TypeId} {cs : Array Value} (h : W.heap[b]? = some (.cells cs t (0, 0))) (hc : cs = (cv L).toArray) : CRd W (some ⟨b, 0, none⟩) L W.heap.size := fun _ =>
  ⟨b, 0, rfl, (Array.getElem?_eq_some_iff.1 h).1, fun j hj => by
    obtain ⟨s0, s1⟩ := get2 (fun p : Nat × Nat => Value.int .u8 p.1) (fun p => Value.int .u32 p.2) (0, 0) L j hj
    rw [hc] at h
    refine ⟨(obj_cell h _).trans ?_, (obj_cell h _).trans ?_⟩
    · rw [Nat.zero_add]; simpa [cv] using s0
    · rw [Nat.zero_add]; simpa [cv] using s1⟩
theorem nrd_obj {W : World} {b : Nat} {t : TypeId} (h : W.heap[b]? = some (.cells ysE t (0, 0))) : NRd W (some ⟨b, 0, none⟩) ysM W.heap.size := fun _ =>
  ⟨b, 0, rfl, (Array.getElem?_eq_some_iff.1 h).1, fun j hj => by
    have : j = 0 := by simp [ysM] at hj; exact hj
    subst this
    exact ⟨(obj_cell h _).trans rfl, (obj_cell h _).trans rfl⟩⟩
abbrev ysCN : Array Value := #[.int .u8 3, .int .u32 8, .int .u8 1, .int .u32 0, .int .u8 5, .int .u32 0, .int .u8 4, .int .u32 8, .int .u8 3, .int .u32 4, .int .u8 8, .int .u32 7, .int .u8 4, .int .u32 4]
theorem wfc_ys : Wfc ysL := by intro p hp; simp [ysL] at hp; rcases hp with rfl | rfl | rfl | rfl | rfl | rfl | rfl <;> decide
theorem wfc_ysN : Wfc ysN := by intro p hp; simp [ysN] at hp; rcases hp with rfl | rfl | rfl | rfl | rfl | rfl | rfl <;> decide
theorem ysM_lt : ∀ j, j < ysM.length → (ysM.getD j (.empty, 0)).2 < 4294967296 := fun j hj => by
  have h0 : j = 0 := by simp [ysM] at hj; exact hj
  rw [h0]
  decide
theorem take_ys (n : Nat) (L : List (Nat × Nat)) (cs : Array Value) (hl : L.length = 7) (hwf : Wfc L) (hcs : cs = (cv L).toArray) (W : World) (hc : W.heap[n + 1]? = some (.cells cs 70 (0, 0))) (hn : W.heap[n + 1 + 1]? = some (.cells ysE 66 (0, 0))) (hT : TabW W) (hp : 0 < W.heap.size) :
    Calls Tryz.prog 4 #[saV n] W (TkP W L [] [] 0 64 ysM) := by
  have := take_any (some ⟨n + 1, 0, none⟩) none none (some ⟨n + 1 + 1, 0, none⟩) 7 0 0 0 64 1 L [] [] ysM W (by omega) (by simp) (by simp) (by simp [ysM]) hwf (by simp) ysM_lt (by decide) (by decide) (by simp [ysM]) (crd_obj hc hcs) (fun q => absurd q (by simp)) (fun q => absurd q (by simp)) (nrd_obj hn) hT hp
  rw [hl] at this
  exact this
end Go.Proofs.YtpahpdgkahomlaaGreatDoor
namespace Go.Proofs.YtpahpdgkahomlaaGreatDoor
open Go.RowKit Go.WideShapes Go.Shelf
set_option maxRecDepth 100000
theorem ys_taken {W : World} {e : Ending} {w' : World} (h : TkP W ysL [] [] 0 64 ysM e w') : ∃ (pm : Nat) (D N : List Int), e = .returned (.tuple #[.pointer (some ⟨pm, 0, none⟩), .int .i64 0, .int .i64 0]) ∧ Mod w' W.heap.size pm ysL [] [] 0 64 ysM D N ∧ D.getD 3 (-1) = 1 ∧ Below W.heap.size W w' := by
  obtain ⟨hb, hq⟩ := h
  rcases hq with ⟨i, x, _, hx, hq⟩ | ⟨pm, D, N, he, hM⟩
  · exact absurd hq (ys_not i x hx)
  · exact ⟨pm, D, N, he, hM, ys_dep (hM.2.1.dp.fin 0 (by rw [ys_bgs]; decide)).sol, hb⟩
theorem ysN_refused {W : World} {e : Ending} {w' : World} (h : TkP W ysN [] [] 0 64 ysM e w') : e = .returned (.tuple #[.pointer none, .int .i64 (2 : Nat), .int .i64 (140 : Nat)]) ∧ Below W.heap.size W w' := by
  obtain ⟨hb, hq⟩ := h
  rcases hq with ⟨i, x, he, hx, hq⟩ | ⟨pm, D, N, he, hM⟩
  · obtain ⟨rfl, rfl⟩ := ysN_is i x hx hq
    exact ⟨he, hb⟩
  · exact (ysN_no (hM.2.1.dp.fin 0 (by rw [ysN_bgs]; decide)).sol).elim
theorem store_ys {ops : Array Oper} {rest : List Oper} {o : Oper} {a : Act} {W : World} {Q : Exit → Act → World → Prop} (hg : o.guard = none) (p q : Operand) (ho : o.op = .store 70 p q) (n : Nat) (h0 : a.eval p = .pointer (some ⟨n, 2, none⟩)) (h1 : a.eval q = .agg #[.int .u8 1, .int .u32 0]) (hc : W.heap[n]? = some (.cells ysC 70 (0, 0)))
    (h : ∀ W', W'.heap[n]? = some (.cells ysCN 70 (0, 0)) → (∀ m, m ≠ n → W'.heap[m]? = W.heap[m]?) → (∀ B, B ≤ n → Below B W W') → wpList Tryz.prog ops Q rest (a.put o.dst undef) W') : wpList Tryz.prog ops Q (o :: rest) a W := by
  refine wpList_store_mid hg _ p q ho n 2 #[.int .u8 1, .int .u32 0] h0 h1 (fun j hj => ⟨?_, obj_frozen hc _⟩) (sizeVIn.trans rfl) (by simp [Value.oneCell']) (h _ ?_ (fun m hm => ?_) (fun B hB => ?_))
  · have hj' : 2 + j < ysC.size := by have : j < 2 := hj; show 2 + j < 14; omega
    rw [obj_cell hc, Array.getElem?_eq_getElem hj']
    rfl
  · have a1 : (W.setCell ⟨n, 2, none⟩ (.int .u8 1)).heap[n]? = some (.cells (ysC.setIfInBounds 2 (.int .u8 1)) 70 (0, 0)) := heap_setCell_same W _ 2 _ _ _ hc
    have a2 : ((W.setCell ⟨n, 2, none⟩ (.int .u8 1)).setCell ⟨n, 3, none⟩ (.int .u32 0)).heap[n]? = some (.cells ((ysC.setIfInBounds 2 (.int .u8 1)).setIfInBounds 3 (.int .u32 0)) 70 (0, 0)) := heap_setCell_same _ _ 3 _ _ _ a1
    exact a2
  · exact (Below.heap_setCell _ _ _ _ (by exact hm)).trans (Below.heap_setCell _ _ _ _ (by exact hm))
  · exact ((Below.refl B W).setCell hB _).setCell hB _
set_option maxHeartbeats 8000000 in
theorem awake_any (w : World) (hT : TabW w) (hp : 0 < w.heap.size) : Calls Tryz.prog 6 #[] w fun e w' => e = .returned (.bool true) ∧ Below w.heap.size w w' := by
  have HS : Hid (∀ W, Calls Tryz.prog 20 #[] W fun e w' => e = .returned (saV W.heap.size) ∧ SaP W w') := hidS sample_any
  have HT : Hid (∀ W, Below w.heap.size w W → TabW W ∧ 0 < W.heap.size) := hidS (fun W hW => ⟨hT.below hW hp, Nat.lt_of_lt_of_le hp hW.size⟩)
  clear hT hp
  go_enter Tryz.func6, Tryz.ntmps6
  go_wp2_with fail
  refine (HS.out _).mono ?_
  rintro e w1 ⟨rfl, h1⟩
  have HT1 := hidS (take_ys w.heap.size ysL ysC rfl wfc_ys rfl w1 h1.code h1.names (HT.out w1 h1.bl).1 (HT.out w1 h1.bl).2)
  have H1 := hidS h1.bl
  clear h1
  go_wp2_with fail
  refine HT1.out.mono ?_
  rintro e w2 hk
  obtain ⟨pm, D, N, rfl, hM, hd, hb2⟩ := ys_taken hk
  have HC := hidS (mcount_any hM)
  have hD := mdepth_any 3 (by decide) hM
  rw [hd] at hD
  have HD := hidS hD
  have H2 : Hid (Below w.heap.size w w2) := hidS (H1.out.trans (hb2.mono H1.out.size))
  clear hM hD hd hb2 hk HT1
  go_wp2_with fail
  refine HC.out.mono ?_
  rintro e w3 ⟨rfl, rfl⟩
  go_wp2_with fail
  refine HD.out.mono ?_
  rintro e w4 ⟨rfl, rfl⟩
  clear HC HD
  go_wp2_with fail
  refine (HS.out _).mono ?_
  rintro e w5 ⟨rfl, h5⟩
  obtain ⟨W6, hW6⟩ : ∃ W6, w5.alloc (.cells #[.slice (some ⟨w4.heap.size + 1, 0, none⟩) 7 7, .slice none 0 0, .slice none 0 0, .int .u32 0, .int .u32 64, .slice (some ⟨w4.heap.size + 1 + 1, 0, none⟩) 1 1] 28) = W6 := ⟨_, rfl⟩
  have l1 := (Array.getElem?_eq_some_iff.1 h5.code).1
  have l2 := (Array.getElem?_eq_some_iff.1 h5.names).1
  have hx6 : W6.heap[w5.heap.size]? = some (.cells #[.slice (some ⟨w4.heap.size + 1, 0, none⟩) 7 7, .slice none 0 0, .slice none 0 0, .int .u32 0, .int .u32 64, .slice (some ⟨w4.heap.size + 1 + 1, 0, none⟩) 1 1] 28 (0, 0)) := by rw [← hW6]; exact heap_alloc_new _ _
  have hc6 : W6.heap[w4.heap.size + 1]? = some (.cells ysC 70 (0, 0)) := by rw [← hW6]; exact (Below.heap_alloc _ _ _ (by omega)).trans h5.code
  have hn6 : W6.heap[w4.heap.size + 1 + 1]? = some (.cells ysE 66 (0, 0)) := by rw [← hW6]; exact (Below.heap_alloc _ _ _ (by omega)).trans h5.names
  have hb6 : Below w4.heap.size w4 W6 := by rw [← hW6]; exact h5.bl.alloc h5.bl.size _
  have HX6 := hidS hx6
  have HC6 := hidS hc6
  have HN6 := hidS hn6
  have HB6 := hidS hb6
  have HL1 := hidS l1
  have HL2 := hidS l2
  clear hx6 hc6 hn6 hb6 l1 l2 h5
  subst hW6
  go_wp2_with (with_reducible refine at_store 70 rfl ?_; refine store_ys rfl _ _ rfl (w4.heap.size + 1) ?a1 ?a2 ?a3 ?a4; (case a1 => first | rfl | (simp only [Act.eval]; simp)); (case a2 => first | rfl | (simp only [Act.eval]; simp)); (case a3 => exact HC6.out); intro W7 hc7 ho7 hb7; have hx7 := (ho7 _ (by have := HL1.out; omega)).trans HX6.out; have d0 : W7.cell? ⟨w5.heap.size, 0, none⟩ = some (.slice (some ⟨w4.heap.size + 1, 0, none⟩) 7 7) := (obj_cell hx7 0).trans rfl; have d1 : W7.cell? ⟨w5.heap.size, 1, none⟩ = some (.slice none 0 0) := (obj_cell hx7 1).trans rfl; have d2 : W7.cell? ⟨w5.heap.size, 2, none⟩ = some (.slice none 0 0) := (obj_cell hx7 2).trans rfl; have d3 : W7.cell? ⟨w5.heap.size, 3, none⟩ = some (.int .u32 0) := (obj_cell hx7 3).trans rfl; have d4 : W7.cell? ⟨w5.heap.size, 4, none⟩ = some (.int .u32 64) := (obj_cell hx7 4).trans rfl; have d5 : W7.cell? ⟨w5.heap.size, 5, none⟩ = some (.slice (some ⟨w4.heap.size + 1 + 1, 0, none⟩) 1 1) := (obj_cell hx7 5).trans rfl; have HC7 := hidS hc7; have HN7 := hidS ((ho7 _ (by omega)).trans HN6.out); have HB7 := hidS (HB6.out.trans (hb7 _ (by omega))); clear hx7 hc7 ho7 hb7)
  refine (take_ys w4.heap.size ysN ysCN rfl wfc_ysN rfl W7 HC7.out HN7.out (HT.out W7 (H2.out.trans (HB7.out.mono H2.out.size))).1 (HT.out W7 (H2.out.trans (HB7.out.mono H2.out.size))).2).mono ?_
  rintro e w8 hk
  obtain ⟨rfl, hb8⟩ := ysN_refused hk
  have H8 : Hid (Below w.heap.size w w8) := hidS ((H2.out.trans (HB7.out.mono H2.out.size)).trans (hb8.mono (H2.out.trans (HB7.out.mono H2.out.size)).size))
  clear hk hb8 HC7 HN7 HB7 HB6 HX6 HC6 HN6 HL1 HL2 d0 d1 d2 d3 d4 d5
  go_wp2_with fail
  go_ret
  exact ⟨rfl, H8.out⟩
end Go.Proofs.YtpahpdgkahomlaaGreatDoor
namespace Go.Proofs.YtpahpdgkahomlaaGreatDoor
open Go.RowKit Go.WideShapes Go.Shelf
set_option maxRecDepth 100000
theorem bAt_zero {L : List (Nat × Nat)} (hE : isEn L 0 = true) : bAt L 0 = 0 := by
  unfold bAt
  rw [getD_anyP (bgs_pos hE) L.length 0]
  exact bgs_first hE
theorem bAt_last (L : List (Nat × Nat)) : bAt L (bgs L).length = L.length := by
  unfold bAt
  rw [getD_outP (Nat.le_refl _)]
theorem field_im (a1 a2 a3 a4 : Option Addr) (n1 c1 n2 c2 n3 c3 n4 c4 : Nat) (z st : Int) (r1 r2 r3 r4 : Value) (w : World) : (Instr.field 34 (.agg #[.slice a1 n1 c1, .slice a2 n2 c2, .slice a3 n3 c3, .int .u32 z, .int .u32 st, .slice a4 n4 c4, r1, r2, r3, r4]) 0).run Tryz.prog w = .ok (.agg #[.slice a1 n1 c1, .slice a2 n2 c2, .slice a3 n3 c3, .int .u32 z, .int .u32 st, .slice a4 n4 c4]) w := by kernel_rfl
set_option maxHeartbeats 16000000 in
theorem vsound_any (ac aj ad an : Option Addr) (cc cj cd z st cn : Nat) (L : List (Nat × Nat)) (J : List Nat) (ds : List Int) (M : List (ByteArray × Nat)) (w : World) (hn : L.length ≤ 17592186044352) (hjn : J.length ≤ 35184372088704) (hdn : ds.length ≤ 140737488351232) (hMn : (M.length + 64) * 24 ≤ 140737488355328)
    (hwf : Wfc L) (hJ : ∀ q ∈ J, q < 4294967296) (hMa : ∀ j, j < M.length → (M.getD j (.empty, 0)).2 < 4294967296) (hz : z < 4294967296) (hst : st < 4294967296)
    (hr : CRd w ac L w.heap.size) (hrJ : JRd w aj J w.heap.size) (hrD : Reads w ad ds w.heap.size) (hrN : NRd w an M w.heap.size) (hT : TabW w) (hp : 0 < w.heap.size) :
    Calls Tryz.prog 3 #[imV ac L.length cc aj J.length cj ad ds.length cd z st an M.length cn] w fun e w' => e = .returned (.bool true) ∧ Below w.heap.size w w' := by
  obtain ⟨W0, hW0⟩ : ∃ W0, w.alloc (.cells (imC ac L.length cc aj J.length cj ad ds.length cd z st an M.length cn) 28) = W0 := ⟨_, rfl⟩
  have hb0 : Below w.heap.size w W0 := by rw [← hW0]; exact belP (Below.refl _ _)
  have o0 : W0.heap[w.heap.size]? = some (.cells (imC ac L.length cc aj J.length cj ad ds.length cd z st an M.length cn) 28 (0, 0)) := by rw [← hW0]; exact heap_alloc_new _ _
  have HTb : Hid (∀ W, Below w.heap.size w W → TabW W ∧ 0 < W.heap.size) := hidS (fun W hW => ⟨hT.below hW hp, Nat.lt_of_lt_of_le hp hW.size⟩)
  have HRd : Hid (∀ W, Below w.heap.size w W → CRd W ac L W.heap.size ∧ JRd W aj J W.heap.size) := hidS (fun W hW => ⟨(hr.below hW).mono hW.size, jrd_monoV (hrJ.below hW) hW.size⟩)
  have HAw : Hid (∀ W, Below w.heap.size w W → Calls Tryz.prog 6 #[] W fun e w' => e = .returned (.bool true) ∧ Below w.heap.size w w') := hidS (fun W hW => (awake_any W (hT.below hW hp) (Nat.lt_of_lt_of_le hp hW.size)).mono (fun e w' h => ⟨h.1, btP hW h.2⟩))
  have HLe := hidS (lend_any ac aj ad an cc cj cd z st cn L J ds M W0 hn hjn hdn hMn ((hr.below hb0).mono hb0.size) (jrd_monoV (hrJ.below hb0) hb0.size) ((hrD.below hb0).mono hb0.size) (nrd_monoV (hrN.below hb0) hb0.size))
  have HO : Hid (∀ W, Below W0.heap.size W0 W → W.heap[w.heap.size]? = some (.cells (imC ac L.length cc aj J.length cj ad ds.length cd z st an M.length cn) 28 (0, 0))) := hidS (fun W hW => (hW.block _ (Array.getElem?_eq_some_iff.1 o0).1).trans o0)
  have HB0 := hidS hb0
  have HTk : Hid (∀ (a1 a2 a3 a4 : Option Addr) (c1 c2 c3 c4 : Nat) (W : World), Below w.heap.size w W → M.length ≤ c4 → CRd W a1 L W.heap.size → JRd W a2 J W.heap.size → Reads W a3 ds W.heap.size → NRd W a4 M W.heap.size → Calls Tryz.prog 4 #[imV a1 L.length c1 a2 J.length c2 a3 ds.length c3 z st a4 M.length c4] W (TkP W L J ds z st M)) := hidS (fun a1 a2 a3 a4 c1 c2 c3 c4 W hW hc4 h1 h2 h3 h4 => take_any a1 a2 a3 a4 c1 c2 c3 z st c4 L J ds M W (by omega) (by omega) (by omega) (by omega) hwf hJ hMa hz hst hc4 h1 h2 h3 h4 (hT.below hW hp) (Nat.lt_of_lt_of_le hp hW.size))
  have HWf := hidS (And.intro hwf hJ)
  have c0 : W0.cell? ⟨w.heap.size, 0, none⟩ = some (.slice ac L.length cc) := (obj_cell o0 0).trans rfl
  have c1' : W0.cell? ⟨w.heap.size, 1, none⟩ = some (.slice aj J.length cj) := (obj_cell o0 1).trans rfl
  have c2' : W0.cell? ⟨w.heap.size, 2, none⟩ = some (.slice ad ds.length cd) := (obj_cell o0 2).trans rfl
  have c3' : W0.cell? ⟨w.heap.size, 3, none⟩ = some (.int .u32 (z : Nat)) := (obj_cell o0 3).trans rfl
  have c4' : W0.cell? ⟨w.heap.size, 4, none⟩ = some (.int .u32 (st : Nat)) := (obj_cell o0 4).trans rfl
  have c5 : W0.cell? ⟨w.heap.size, 5, none⟩ = some (.slice an M.length cn) := (obj_cell o0 5).trans rfl
  clear hr hrJ hrD hrN hT hp hb0 o0 hwf hJ hMa hz hst hn hjn hdn hMn
  go_enter Tryz.func3, Tryz.ntmps3
  go_wp2_with fail
  refine HLe.out.mono ?_
  rintro e w1 ⟨a1, c1, a2, c2, a3, c3, a4, c4, r1, r2, r3, r4, rfl, ⟨o1, o2, o3, o4⟩, hc4, hr1, hrJ1, hrD1, hrN1, hb1⟩
  have HT1 := hidS (HTk.out a1 a2 a3 a4 c1 c2 c3 c4 w1 (btP HB0.out hb1) hc4 hr1 hrJ1 hrD1 hrN1)
  have HB1 := hidS hb1
  have hF := field_im a1 a2 a3 a4 L.length c1 J.length c2 ds.length c3 M.length c4 (z : Nat) (st : Nat) r1 r2 r3 r4 w1
  clear hW0 c0 c1' c2' c3' c4' c5 HLe HTk hc4 hr1 hrJ1 hrD1 hrN1 hb1
  go_wp2_with fail
  refine HT1.out.mono ?_
  rintro e w2 ⟨hb2, hk⟩
  have HB2 := hidS (btP HB1.out hb2)
  clear HT1 hb2 HB1 hF
  rcases hk with ⟨i, x, rfl, _, _⟩ | ⟨pm, D, N, rfl, hM⟩
  · go_wp2_with fail
    refine (HAw.out _ (btP HB0.out HB2.out)).mono ?_
    rintro e w3 ⟨rfl, hb3⟩
    have HB3 := hidS hb3
    clear hb3
    go_wp2_with fail
    go_ret
    exact ⟨rfl, HB3.out⟩
  · have HPr := hidS (mprocs_any hM)
    have HM := hidS hM
    clear hM
    go_wp2_with fail
    refine HPr.out.mono ?_
    rintro e w3 ⟨g, c, rfl, hrow, hb3⟩
    have HM3 : Hid (∀ W, Below w3.heap.size w3 W → Mod W w1.heap.size pm L J ds z st M D N) := hidS (fun W hW => HM.out.below (btP hb3 hW))
    have HB3 := hidS (btP HB2.out hb3)
    have HRw : Hid (∀ W, Below w3.heap.size w3 W → ∀ k, k < (bgs L).length → W.cell? ⟨g, k * 4, none⟩ = some (.int .u32 (bAt L k : Nat)) ∧ W.cell? ⟨g, k * 4 + 1, none⟩ = some (.int .u32 (bAt L (k + 1) : Nat))) := hidS (fun W hW k hk => by
      have hrw := own_belowW hrow hW
      obtain ⟨s0, s1, _⟩ := pnv_all (0, 0, 0, 0) (pnL (prL L) N (bgs L).length) k (by rw [pnL_len]; exact hk)
      rw [pnL_get _ _ hk, prL_get L hk] at s0 s1
      have a0 := hrw.cells (g := g) rfl _ _ s0
      have a1 := hrw.cells (g := g) rfl _ _ s1
      rw [add_plain, Nat.zero_add] at a0 a1
      exact ⟨a0, a1⟩)
    have hG := HM.out.2.1.fd
    have hl := mlen HM.out
    have HG := hidS hG
    have HDk := hidS HM.out.2.1.dp
    have HF0 := hidS (bAt_zero hG.fst)
    have hml : (bgs L).length ≤ 16384 := Nat.le_trans (els_le _ _) hl
    clear hrow hb3 hG HPr HM
    go_wp2_with fail
    go_loopw [6, 8] (fun u v wr => ∃ i : Nat, u = .int .i64 (bAt L i : Nat) ∧ v = .int .i64 i ∧ i ≤ (bgs L).length ∧ Below w3.heap.size w3 wr)
      (fun _ v _ => (bgs L).length - (intOf v).toNat)
    case atStart => exact ⟨0, by rw [HF0.out]; rfl, rfl, Nat.zero_le _, Below.refl _ _⟩
    case round =>
      obtain ⟨i, rfl, rfl, hi, hbw⟩ := hrel
      by_cases hlt : i < (bgs L).length
      · have hltI : (i : Int) < ((bgs L).length : Int) := by omega
        obtain ⟨v0, v1⟩ := HRw.out wr hbw i hlt
        have hb12 := bAt_two HG.out hlt
        have hbe := bgs_end (L := L) (i + 1)
        change bAt L (i + 1) ≤ L.length at hbe
        have hD := mdepth_any (bAt L i) (by omega) (HM3.out wr hbw)
        rw [((HDk.out).fin i hlt).sol.at0] at hD
        have HD : Hid (∀ n, Calls Tryz.prog 8 #[.pointer (some ⟨pm, 0, none⟩), .int .u32 (bAt L i : Nat)] (wr.drewN n) fun e w' => e = .returned (.int .i64 0) ∧ w' = wr.drewN n) := hidS (fun n => by
          have := mdepth_any (bAt L i) (by omega) (HM3.out (wr.drewN n) (below_drewN hbw n))
          rw [((HDk.out).fin i hlt).sol.at0] at this
          exact this)
        have HBW := hidS hbw
        obtain ⟨b, hbq⟩ : ∃ b, bAt L i = b := ⟨_, rfl⟩
        obtain ⟨e, heq⟩ : ∃ e, bAt L (i + 1) = e := ⟨_, rfl⟩
        have HEQ := hidS heq
        rw [hbq] at v0 hb12 HD ⊢
        rw [heq] at v1 hb12 hbe
        clear hbq heq hD hbw
        have q1 : ¬ (e : Int) < (b : Int) + 2 := by omega
        have q3 : ((b : Int) + 2) % 4294967296 = (b : Int) + 2 := by omega
        have q4 : IntKind.u32.wrap ((b : Int) + 2) = (b : Int) + 2 := by rw [IntKind.wrap_u32]; exact q3
        have q5 : IntKind.i64.wrap (b : Int) = (b : Int) := by rw [IntKind.wrap_i64]; omega
        have q6 : IntKind.i64.wrap (e : Int) = (e : Int) := by rw [IntKind.wrap_i64]; omega
        have q7 : (IntKind.i64.wrap (b : Int) != (b : Int)) = false := by rw [q5]; simp
        have q8 : decide ((e : Int) < IntKind.u32.wrap ((b : Int) + 2)) = false := by rw [q4]; simp; omega
        have q9 : decide ((e : Int) < (b : Int) + 2) = false := by simp; omega
        generalize (bgs L).length = m at hlt hltI hml hi HRw
        go_wp2_with fail
        go_quiet ((go_at_call 8; exact Calls.quiet_of ((HD.out _).mono (fun e w' h => ⟨h.1, 0, h.2⟩))))
        have HBU := hidS (below_drewN HBW.out nq)
        obtain ⟨_, v1U⟩ := HRw.out (wr.drewN nq) HBU.out i hlt
        rw [HEQ.out] at v1U
        clear v0 v1 q7 q8 q9 HD
        generalize wr.drewN nq = U at HBU v1U ⊢
        go_wp2_with fail
        go_roundw
        case rel => exact ⟨i + 1, by rw [HEQ.out], by go_num, by omega, HBU.out⟩
        case measure => simp [intOf]; omega
      · have hie : i = (bgs L).length := by omega
        subst hie
        rw [bAt_last]
        have HBW := hidS hbw
        have c0 : wr.cell? ⟨w.heap.size, 0, none⟩ = some (.slice ac L.length cc) := (obj_cell (HO.out wr (btP HB3.out hbw)) 0).trans rfl
        have HC := hidS (mcount_any (HM3.out wr hbw))
        clear hbw hi hlt HRw HF0
        go_wp2_with fail
        refine HC.out.mono ?_
        rintro e w4 ⟨rfl, hw4⟩
        have hw4 := hw4.symm
        subst hw4
        clear HC
        go_wp2_with fail
        clear c0
        go_loopw [9] (fun u wr2 => ∃ k : Nat, u = .int .i64 k ∧ k ≤ L.length ∧ Below w3.heap.size w3 wr2)
          (fun u _ => L.length - (intOf u).toNat)
        case atStart => exact ⟨0, rfl, Nat.zero_le _, HBW.out⟩
        case round =>
          obtain ⟨k, rfl, hk, hbk⟩ := hrel
          by_cases hkl : k < L.length
          · have hkI : (k : Int) < (L.length : Int) := by omega
            have hcv : (k : Int) % 4294967296 = (k : Int) := by omega
            have hcv2 : IntKind.u32.wrap (k : Int) = (k : Int) := by rw [IntKind.wrap_u32]; exact hcv
            have HS := hidS (sound_any k hkl HWf.out.1 (HM3.out _ hbk))
            have HBk := hidS hbk
            clear hbk
            go_wp2_with fail
            refine HS.out.mono ?_
            rintro e w5 ⟨rfl, hb5⟩
            have HB5 := hidS (btP HBk.out hb5)
            clear hb5 HS
            go_wp2_with fail
            go_roundw
            case rel => exact ⟨k + 1, by go_num, by omega, HB5.out⟩
            case measure => simp [intOf]; omega
          · have hkI : ¬ (k : Int) < (L.length : Int) := by omega
            have x0 : wr.cell? ⟨w.heap.size, 0, none⟩ = some (.slice ac L.length cc) := (obj_cell (HO.out wr (btP HB3.out hbk)) 0).trans rfl
            have x1 : wr.cell? ⟨w.heap.size, 1, none⟩ = some (.slice aj J.length cj) := (obj_cell (HO.out wr (btP HB3.out hbk)) 1).trans rfl
            have x2 : wr.cell? ⟨w.heap.size, 2, none⟩ = some (.slice ad ds.length cd) := (obj_cell (HO.out wr (btP HB3.out hbk)) 2).trans rfl
            have x3 : wr.cell? ⟨w.heap.size, 3, none⟩ = some (.int .u32 (z : Nat)) := (obj_cell (HO.out wr (btP HB3.out hbk)) 3).trans rfl
            have x4 : wr.cell? ⟨w.heap.size, 4, none⟩ = some (.int .u32 (st : Nat)) := (obj_cell (HO.out wr (btP HB3.out hbk)) 4).trans rfl
            have x5 : wr.cell? ⟨w.heap.size, 5, none⟩ = some (.slice an M.length cn) := (obj_cell (HO.out wr (btP HB3.out hbk)) 5).trans rfl
            have HJ := hidS (jumps_any ac aj ad an cc cj ds.length cd z st M.length cn (HM3.out _ hbk) HWf.out.1 HWf.out.2 (HRd.out _ (btP HB0.out (btP HB3.out hbk))).1 (HRd.out _ (btP HB0.out (btP HB3.out hbk))).2)
            have HBk := hidS (btP HB0.out (btP HB3.out hbk))
            clear hbk
            go_wp2_with fail
            refine HJ.out.mono ?_
            rintro e w6 ⟨rfl, hb6⟩
            have HB6 := hidS (btP HBk.out hb6)
            clear hb6 HJ x0 x1 x2 x3 x4 x5
            go_wp2_with fail
            refine (HAw.out _ HB6.out).mono ?_
            rintro e w7 ⟨rfl, hb7⟩
            have HB7 := hidS hb7
            clear hb7
            go_wp2_with fail
            go_ret
            exact ⟨rfl, HB7.out⟩
end Go.Proofs.YtpahpdgkahomlaaGreatDoor
