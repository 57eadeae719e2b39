import Derived.Test.YtnalnlbainghoaaGreatDoorCVMd
import Derived.Test.YtnalnlbainghoaaGreatDoorVWn
import Derived.Deep.MidRow
namespace Go.Proofs.YtnalnlbainghoaaGreatDoor
open Go.RowKit Go.WideShapes Go.Shelf
set_option maxRecDepth 100000
/-- the sample's code -/
def ysL : List (Nat × Nat) := [(3, 8), (8, 4), (5, 0), (4, 8), (3, 4), (8, 7), (4, 4)]
/-- the same with a nop at 1 -/
def ysN : List (Nat × Nat) := [(3, 8), (1, 0), (5, 0), (4, 8), (3, 4), (8, 7), (4, 4)]
def ysM : List (ByteArray × Nat) := [(⟨#[109, 97, 105, 110]⟩, 0)]
theorem FdG.noB {L : List (Nat × Nat)} {J : List Nat} {M : List (ByteArray × Nat)} (h : FdG L J M) {i x : Nat} (hB : FdB L J M i x) : x = 0 := by
  rcases hB with ⟨a, _⟩ | ⟨_, a, _⟩ | ⟨_, _, a⟩ | ⟨_, _, _, a⟩ | ⟨_, _, _, _, a⟩
  · exact absurd h.enc a
  · rw [h.fst] at a; cases a
  · rcases a with ⟨_, e, _⟩ | ⟨hx, k, hk, h1, h2, h3, _⟩
    · exact e
    · exact absurd (h3.symm.trans (h.ck k hk i h1 h2)) hx
  · rcases a with ⟨_, e, _⟩ | ⟨_, hk, h1, _⟩
    · exact e
    · rw [h.jm i hk] at h1; cases h1
  · rcases a with ⟨_, e, _⟩ | ⟨_, hk, h1, _⟩
    · exact e
    · rw [h.nm i hk] at h1; cases h1
theorem ys_ck : ckV ysL 0 0 0 64 ysM = 0 := by kernel_rfl
theorem ysN_ck : ckV ysN 0 0 0 64 ysM = 0 := by kernel_rfl
theorem ys_bgs : bgs ysL = [0, 4] := by kernel_rfl
theorem ysN_bgs : bgs ysN = [0, 4] := by kernel_rfl
theorem ys_err : (List.range 7).all (fun j => errP ysL (0, 4, 8) j == 0 || decide (4 ≤ j)) = true ∧ (List.range 7).all (fun j => errP ysL (4, 7, 4) j == 0 || decide (j < 4)) = true := ⟨by kernel_rfl, by kernel_rfl⟩
theorem ysN_err : (List.range 7).all (fun j => errP ysN (0, 4, 8) j == 0 || decide (4 ≤ j)) = true ∧ (List.range 7).all (fun j => errP ysN (4, 7, 4) j == 0 || decide (j < 4)) = true := ⟨by kernel_rfl, by kernel_rfl⟩
theorem ys_prL : prL ysL = [(0, 4, 8), (4, 7, 4)] := by kernel_rfl
theorem ysN_prL : prL ysN = [(0, 4, 8), (4, 7, 4)] := by kernel_rfl
theorem fdg_of {L : List (Nat × Nat)} (h0 : encX L = 0) (h1 : isEn L 0 = true) (h2 : prL L = [(0, 4, 8), (4, 7, 4)]) (h3 : (List.range 7).all (fun j => errP L (0, 4, 8) j == 0 || decide (4 ≤ j)) = true) (h4 : (List.range 7).all (fun j => errP L (4, 7, 4) j == 0 || decide (j < 4)) = true) : FdG L [] ysM := by
  refine ⟨h0, h1, ?_, fun j hj => absurd hj (by simp), fun j hj => ?_⟩
  · intro k hk
    rw [h2] at hk ⊢
    match k, hk with
    | 0, _ =>
      intro j _ hb
      have hb' : j < 4 := hb
      have := (List.all_eq_true.1 h3) j (List.mem_range.2 (by omega))
      simp at this
      rcases this with q | q
      · exact q
      · omega
    | 1, _ =>
      intro j ha hb
      have hb' : j < 7 := hb
      have ha' : 4 ≤ j := ha
      have := (List.all_eq_true.1 h4) j (List.mem_range.2 (by omega))
      simp at this
      rcases this with q | q
      · exact q
      · omega
    | (k + 2), hk => exact absurd hk (by simp)
  · match j, hj with
    | 0, _ => exact h1
    | (j + 1), hj => exact absurd hj (by simp [ysM])
theorem ys_fd : FdG ysL [] ysM := fdg_of (by kernel_rfl) (by kernel_rfl) ys_prL ys_err.1 ys_err.2
theorem ysN_fd : FdG ysN [] ysM := fdg_of (by kernel_rfl) (by kernel_rfl) ysN_prL ysN_err.1 ysN_err.2
def ysD : List Int := [0, 0, 1, 1, 0, 0, 1]
/-- does a list of depths hold, told by reckoning? -/
def solB (L : List (Nat × Nat)) (D : List Int) (i : Nat) : Bool := tkE (opL L i) (D.getD i (-1)) == 0 && (nxt L [] i).all (fun j => D.getD j (-1) == restI (opL L i) (D.getD i (-1)))
theorem ys_solB : (List.range 7).all (solB ysL ysD) = true := by kernel_rfl
theorem ys_at : bAt ysL 0 = 0 ∧ bAt ysL 1 = 4 ∧ bAt ysL 2 = 7 := ⟨by kernel_rfl, by kernel_rfl, by kernel_rfl⟩
theorem ysN_at : bAt ysN 0 = 0 ∧ bAt ysN 1 = 4 ∧ bAt ysN 2 = 7 := ⟨by kernel_rfl, by kernel_rfl, by kernel_rfl⟩
theorem ys_sol (k : Nat) (hk : k < (bgs ysL).length) : Sol ysL [] k ysD := by
  have hb : ∀ i, i < 7 → tkE (opL ysL i) (ysD.getD i (-1)) = 0 ∧ ∀ j ∈ nxt ysL [] i, ysD.getD j (-1) = restI (opL ysL i) (ysD.getD i (-1)) := fun i hi => by
    have := (List.all_eq_true.1 ys_solB) i (List.mem_range.2 hi)
    unfold solB at this
    rw [Bool.and_eq_true, beq_iff_eq, List.all_eq_true] at this
    exact ⟨this.1, fun j hj => by have := this.2 j hj; rwa [beq_iff_eq] at this⟩
  rw [ys_bgs] at hk
  match k, hk with
  | 0, _ => exact ⟨by rw [ys_at.1]; rfl, fun i _ h2 _ => hb i (by rw [ys_at.2.1] at h2; omega)⟩
  | 1, _ => exact ⟨by rw [ys_at.2.1]; rfl, fun i _ h2 _ => hb i (by rw [ys_at.2.2] at h2; omega)⟩
  | (k + 2), hk => exact absurd hk (by simp)
/-- the sample is taken -/
theorem ys_not (i x : Nat) (hx : x ≠ 0) : ¬ ((i = 0 ∧ x = ckV ysL 0 0 0 64 ysM) ∨ (ckV ysL 0 0 0 64 ysM = 0 ∧ FdB ysL [] ysM i x) ∨ (ckV ysL 0 0 0 64 ysM = 0 ∧ FdG ysL [] ysM ∧ ∃ k, k < (bgs ysL).length ∧ FltP ysL [] k i x)) := by
  rintro (⟨_, h⟩ | ⟨_, h⟩ | ⟨_, h, k, hk, hf⟩)
  · exact hx (h.trans ys_ck)
  · exact hx (ys_fd.noB h)
  · exact hf.noSol h hk ysD (ys_sol k hk)
theorem nx_of {L : List (Nat × Nat)} {i j : Nat} (h : nxt L [] i = [j]) : j ∈ nxt L [] i := by rw [h]; exact List.mem_singleton.2 rfl
/-- the depth at 3 is 1 -/
theorem ys_dep {D : List Int} (h : Sol ysL [] 0 D) : D.getD 3 (-1) = 1 := by
  have e0 : D.getD 0 (-1) = 0 := by have := h.at0; rwa [ys_at.1] at this
  have s : ∀ i, i < 4 → 0 ≤ D.getD i (-1) → ∀ j ∈ nxt ysL [] i, D.getD j (-1) = restI (opL ysL i) (D.getD i (-1)) := fun i hi hp => (h.ok i (by rw [ys_at.1]; omega) (by rw [ys_at.2.1]; exact hi) hp).2
  have e1 : D.getD 1 (-1) = 0 := by rw [s 0 (by omega) (by rw [e0]; decide) 1 (nx_of (by kernel_rfl)), e0]; kernel_rfl
  have e2 : D.getD 2 (-1) = 1 := by rw [s 1 (by omega) (by rw [e1]; decide) 2 (nx_of (by kernel_rfl)), e1]; kernel_rfl
  have e3 := s 2 (by omega) (by rw [e2]; decide) 3 (nx_of (by kernel_rfl))
  rw [e2] at e3
  exact e3.trans (by kernel_rfl)
/-- what is altered has no depths -/
theorem ysN_no {D : List Int} (h : Sol ysN [] 0 D) : False := by
  have e0 : D.getD 0 (-1) = 0 := by have := h.at0; rwa [ysN_at.1] at this
  have s : ∀ i, i < 4 → 0 ≤ D.getD i (-1) → _ := fun i hi hp => h.ok i (by rw [ysN_at.1]; omega) (by rw [ysN_at.2.1]; exact hi) hp
  have e1 : D.getD 1 (-1) = 0 := by rw [(s 0 (by omega) (by rw [e0]; decide)).2 1 (nx_of (by kernel_rfl)), e0]; kernel_rfl
  have e2 : D.getD 2 (-1) = 0 := by rw [(s 1 (by omega) (by rw [e1]; decide)).2 2 (nx_of (by kernel_rfl)), e1]; kernel_rfl
  have := (s 2 (by omega) (by rw [e2]; decide)).1
  rw [e2] at this
  exact absurd this (by decide)
/-- where the walk of what is altered comes to -/
def ysR (i : Nat) (d : Int) : Prop := (i, d) ∈ [((0 : Nat), (0 : Int)), (1, 0), (2, 0), (4, 0), (5, 0), (6, 1)]
def stepB : Bool := [((0 : Nat), (0 : Int)), (1, 0), (2, 0), (4, 0), (5, 0), (6, 1)].all fun p => (p.1 == 2 && tkE (opL ysN p.1) p.2 == 140) || (tkE (opL ysN p.1) p.2 == 0 && (nxt ysN [] p.1).all fun j => [((0 : Nat), (0 : Int)), (1, 0), (2, 0), (4, 0), (5, 0), (6, 1)].contains (j, restI (opL ysN p.1) p.2))
theorem step_ok : stepB = true := by kernel_rfl
theorem ysR_step {i : Nat} {d : Int} (h : ysR i d) : (i = 2 ∧ tkE (opL ysN i) d = 140) ∨ (tkE (opL ysN i) d = 0 ∧ ∀ j ∈ nxt ysN [] i, ysR j (restI (opL ysN i) d)) := by
  have := (List.all_eq_true.1 step_ok) (i, d) h
  rw [Bool.or_eq_true, Bool.and_eq_true, Bool.and_eq_true, beq_iff_eq, beq_iff_eq, beq_iff_eq, List.all_eq_true] at this
  rcases this with q | q
  · exact .inl q
  · exact .inr ⟨q.1, fun j hj => by have := q.2 j hj; simpa [ysR] using this⟩
theorem ysN_rch {k i : Nat} {d : Int} (hk : k < (bgs ysN).length) (h : Rch ysN [] k i d) : ysR i d := by
  refine h ysR ?_ fun i d j hR ht hj => ?_
  · rw [ysN_bgs] at hk
    match k, hk with
    | 0, _ => rw [ysN_at.1]; simp [ysR]
    | 1, _ => rw [ysN_at.2.1]; simp [ysR]
    | (k + 2), hk => exact absurd hk (by simp)
  · rcases ysR_step hR with ⟨_, q⟩ | ⟨_, q⟩
    · rw [ht] at q; cases q
    · exact q j hj
theorem ysR_one {i : Nat} {d d' : Int} (h : ysR i d) (h' : ysR i d') : d = d' := by
  simp only [ysR, List.mem_cons, List.mem_nil_iff, Prod.mk.injEq, or_false] at h h'
  omega
/-- the one fault of what is altered -/
theorem ysN_flt {k i x : Nat} (hk : k < (bgs ysN).length) (h : FltP ysN [] k i x) : i = 2 ∧ x = 140 := by
  rcases h with ⟨d, h1, h2, h3⟩ | ⟨_, d, j, d', h1, h2, h3, h4, h5⟩
  · rcases ysR_step (ysN_rch hk h1) with ⟨a, b⟩ | ⟨a, _⟩
    · exact ⟨a, h2.trans b⟩
    · exact absurd (h2.trans a) h3
  · rcases ysR_step (ysN_rch hk h1) with ⟨_, b⟩ | ⟨_, b⟩
    · rw [h2] at b; cases b
    · exact absurd (ysR_one (ysN_rch hk h4) (b j h3)) h5
/-- what Take says of what is altered -/
theorem ysN_is (i x : Nat) (hx : x ≠ 0) (h : (i = 0 ∧ x = ckV ysN 0 0 0 64 ysM) ∨ (ckV ysN 0 0 0 64 ysM = 0 ∧ FdB ysN [] ysM i x) ∨ (ckV ysN 0 0 0 64 ysM = 0 ∧ FdG ysN [] ysM ∧ ∃ k, k < (bgs ysN).length ∧ FltP ysN [] k i x)) : i = 2 ∧ x = 140 := by
  rcases h with ⟨_, h⟩ | ⟨_, h⟩ | ⟨_, _, k, hk, hf⟩
  · exact absurd (h.trans ysN_ck) hx
  · exact absurd (ysN_fd.noB h) hx
  · exact ysN_flt hk hf
end Go.Proofs.YtnalnlbainghoaaGreatDoor
namespace Go.Proofs.YtnalnlbainghoaaGreatDoor
open Go.RowKit Go.WideShapes Go.Shelf
set_option maxRecDepth 100000
theorem at_store {P : Program} {ops : Array Oper} {Q : Exit → Act → World → Prop} {rest : List Oper} {o : Oper} {a : Act} {W : World} (t : TypeId) {p q : Operand} (_ : o.op = .store t p q) (h : wpList P ops Q (o :: rest) a W) : wpList P ops Q (o :: rest) a W := h
theorem at_load {P : Program} {ops : Array Oper} {Q : Exit → Act → World → Prop} {rest : List Oper} {o : Oper} {a : Act} {W : World} (t : TypeId) {p : Operand} (_ : o.op = .load t p) (h : wpList P ops Q (o :: rest) a W) : wpList P ops Q (o :: rest) a W := h
abbrev ysC : Array Value := #[.int .u8 3, .int .u32 8, .int .u8 8, .int .u32 4, .int .u8 5, .int .u32 0, .int .u8 4, .int .u32 8, .int .u8 3, .int .u32 4, .int .u8 8, .int .u32 7, .int .u8 4, .int .u32 4]
abbrev ysE : Array Value := #[.string ⟨#[109, 97, 105, 110]⟩, .int .u32 0]
/-- what sample leaves -/
structure SaP (w : World) (w' : World) : Prop where
  code : w'.heap[w.heap.size + 1]? = some (.cells ysC 46 (0, 0))
  names : w'.heap[w.heap.size + 1 + 1]? = some (.cells ysE 48 (0, 0))
  bl : Below w.heap.size w w'
abbrev saV (n : Nat) : Value := imV (some ⟨n + 1, 0, none⟩) 7 7 none 0 0 none 0 0 0 64 (some ⟨n + 1 + 1, 0, none⟩) 1 1
set_option maxHeartbeats 4000000 in
theorem sample_any (w : World) : Calls Tryz.prog 5 #[] w fun e w' => e = .returned (saV w.heap.size) ∧ SaP w w' := by
  go_enter Tryz.func5, Tryz.ntmps5
  go_wp2
  have q1 := heap_alloc_new w (.cells (imC (some ⟨w.heap.size + 1, 0, none⟩) 7 7 none 0 0 none 0 0 0 64 (some ⟨w.heap.size + 1 + 1, 0, none⟩) 1 1) 32)
  have q2 := heap_alloc_new (w.alloc (.cells (imC (some ⟨w.heap.size + 1, 0, none⟩) 7 7 none 0 0 none 0 0 0 64 (some ⟨w.heap.size + 1 + 1, 0, none⟩) 1 1) 32)) (.cells ysC 46)
  have q3 := heap_alloc_new ((w.alloc (.cells (imC (some ⟨w.heap.size + 1, 0, none⟩) 7 7 none 0 0 none 0 0 0 64 (some ⟨w.heap.size + 1 + 1, 0, none⟩) 1 1) 32)).alloc (.cells ysC 46)) (.cells ysE 48)
  simp only [World.size_alloc] at q2 q3
  refine bodyPost_ret (resVIm (p := 0) (by kernel_rfl) _ w.heap.size (imC (some ⟨w.heap.size + 1, 0, none⟩) 7 7 none 0 0 none 0 0 0 64 (some ⟨w.heap.size + 1 + 1, 0, none⟩) 1 1) rfl ((Below.heap_alloc _ _ _ (by simp only [World.size_alloc]; omega)).trans ((Below.heap_alloc _ _ _ (by simp only [World.size_alloc]; omega)).trans q1)) _ rfl) rfl ?_
  exact ⟨rfl, (Below.heap_alloc _ _ _ (by simp only [World.size_alloc]; omega)).trans q2, q3, belP (belP (belP (Below.refl _ _)))⟩
theorem crd_obj {W : World} {b : Nat} {L : List (Nat × Nat)} {t : TypeId} {cs : Array Value} (h : W.heap[b]? = some (.cells cs t (0, 0))) (hc : cs = (cv L).toArray) : CRd W (some ⟨b, 0, none⟩) L W.heap.size := fun _ =>
  ⟨b, 0, rfl, (Array.getElem?_eq_some_iff.1 h).1, fun j hj => by
    obtain ⟨s0, s1⟩ := get2 (fun p : Nat × Nat => Value.int .u8 p.1) (fun p => Value.int .u32 p.2) (0, 0) L j hj
    rw [hc] at h
    refine ⟨(obj_cell h _).trans ?_, (obj_cell h _).trans ?_⟩
    · rw [Nat.zero_add]; simpa [cv] using s0
    · rw [Nat.zero_add]; simpa [cv] using s1⟩
theorem nrd_obj {W : World} {b : Nat} {t : TypeId} (h : W.heap[b]? = some (.cells ysE t (0, 0))) : NRd W (some ⟨b, 0, none⟩) ysM W.heap.size := fun _ =>
  ⟨b, 0, rfl, (Array.getElem?_eq_some_iff.1 h).1, fun j hj => by
    have : j = 0 := by simp [ysM] at hj; exact hj
    subst this
    exact ⟨(obj_cell h _).trans rfl, (obj_cell h _).trans rfl⟩⟩
abbrev ysCN : Array Value := #[.int .u8 3, .int .u32 8, .int .u8 1, .int .u32 0, .int .u8 5, .int .u32 0, .int .u8 4, .int .u32 8, .int .u8 3, .int .u32 4, .int .u8 8, .int .u32 7, .int .u8 4, .int .u32 4]
theorem wfc_ys : Wfc ysL := by intro p hp; simp [ysL] at hp; rcases hp with rfl | rfl | rfl | rfl | rfl | rfl | rfl <;> decide
theorem wfc_ysN : Wfc ysN := by intro p hp; simp [ysN] at hp; rcases hp with rfl | rfl | rfl | rfl | rfl | rfl | rfl <;> decide
theorem ysM_lt : ∀ j, j < ysM.length → (ysM.getD j (.empty, 0)).2 < 4294967296 := fun j hj => by
  have h0 : j = 0 := by simp [ysM] at hj; exact hj
  rw [h0]
  decide
theorem take_ys (n : Nat) (L : List (Nat × Nat)) (cs : Array Value) (hl : L.length = 7) (hwf : Wfc L) (hcs : cs = (cv L).toArray) (W : World) (hc : W.heap[n + 1]? = some (.cells cs 46 (0, 0))) (hn : W.heap[n + 1 + 1]? = some (.cells ysE 48 (0, 0))) (hT : TabW W) (hp : 2 < W.heap.size) :
    Calls Tryz.prog 4 #[saV n] W (TkP W L [] [] 0 64 ysM) := by
  have := take_any (some ⟨n + 1, 0, none⟩) none none (some ⟨n + 1 + 1, 0, none⟩) 7 0 0 0 64 1 L [] [] ysM W (by omega) (by simp) (by simp) (by simp [ysM]) hwf (by simp) ysM_lt (by decide) (by decide) (by simp [ysM]) (crd_obj hc hcs) (fun q => absurd q (by simp)) (fun q => absurd q (by simp)) (nrd_obj hn) hT hp
  rw [hl] at this
  exact this
end Go.Proofs.YtnalnlbainghoaaGreatDoor
namespace Go.Proofs.YtnalnlbainghoaaGreatDoor
open Go.RowKit Go.WideShapes Go.Shelf
set_option maxRecDepth 100000
theorem ys_taken {W : World} {e : Ending} {w' : World} (h : TkP W ysL [] [] 0 64 ysM e w') : ∃ (pm : Nat) (D N : List Int), e = .returned (.tuple #[.pointer (some ⟨pm, 0, none⟩), .int .i64 0, .int .i64 0]) ∧ Mod w' W.heap.size pm ysL [] [] 0 64 ysM D N ∧ D.getD 3 (-1) = 1 ∧ Below W.heap.size W w' := by
  obtain ⟨hb, hq⟩ := h
  rcases hq with ⟨i, x, _, hx, hq⟩ | ⟨pm, D, N, he, hM⟩
  · exact absurd hq (ys_not i x hx)
  · exact ⟨pm, D, N, he, hM, ys_dep (hM.2.1.dp.fin 0 (by rw [ys_bgs]; decide)).sol, hb⟩
theorem ysN_refused {W : World} {e : Ending} {w' : World} (h : TkP W ysN [] [] 0 64 ysM e w') : e = .returned (.tuple #[.pointer none, .int .i64 (2 : Nat), .int .i64 (140 : Nat)]) ∧ Below W.heap.size W w' := by
  obtain ⟨hb, hq⟩ := h
  rcases hq with ⟨i, x, he, hx, hq⟩ | ⟨pm, D, N, he, hM⟩
  · obtain ⟨rfl, rfl⟩ := ysN_is i x hx hq
    exact ⟨he, hb⟩
  · exact (ysN_no (hM.2.1.dp.fin 0 (by rw [ysN_bgs]; decide)).sol).elim
theorem store_ys {ops : Array Oper} {rest : List Oper} {o : Oper} {a : Act} {W : World} {Q : Exit → Act → World → Prop} (hg : o.guard = none) (p q : Operand) (ho : o.op = .store 46 p q) (n : Nat) (h0 : a.eval p = .pointer (some ⟨n, 2, none⟩)) (h1 : a.eval q = .agg #[.int .u8 1, .int .u32 0]) (hc : W.heap[n]? = some (.cells ysC 46 (0, 0)))
    (h : ∀ W', W'.heap[n]? = some (.cells ysCN 46 (0, 0)) → (∀ m, m ≠ n → W'.heap[m]? = W.heap[m]?) → (∀ B, B ≤ n → Below B W W') → wpList Tryz.prog ops Q rest (a.put o.dst undef) W') : wpList Tryz.prog ops Q (o :: rest) a W := by
  refine wpList_store_mid hg _ p q ho n 2 #[.int .u8 1, .int .u32 0] h0 h1 (fun j hj => ⟨?_, obj_frozen hc _⟩) (sizeVIn.trans rfl) (by simp [Value.oneCell']) (h _ ?_ (fun m hm => ?_) (fun B hB => ?_))
  · have hj' : 2 + j < ysC.size := by have : j < 2 := hj; show 2 + j < 14; omega
    rw [obj_cell hc, Array.getElem?_eq_getElem hj']
    rfl
  · have a1 : (W.setCell ⟨n, 2, none⟩ (.int .u8 1)).heap[n]? = some (.cells (ysC.setIfInBounds 2 (.int .u8 1)) 46 (0, 0)) := heap_setCell_same W _ 2 _ _ _ hc
    have a2 : ((W.setCell ⟨n, 2, none⟩ (.int .u8 1)).setCell ⟨n, 3, none⟩ (.int .u32 0)).heap[n]? = some (.cells ((ysC.setIfInBounds 2 (.int .u8 1)).setIfInBounds 3 (.int .u32 0)) 46 (0, 0)) := heap_setCell_same _ _ 3 _ _ _ a1
    exact a2
  · exact (Below.heap_setCell _ _ _ _ (by exact hm)).trans (Below.heap_setCell _ _ _ _ (by exact hm))
  · exact ((Below.refl B W).setCell hB _).setCell hB _
set_option maxHeartbeats 8000000 in
theorem awake_any (w : World) (hT : TabW w) (hp : 2 < w.heap.size) : Calls Tryz.prog 6 #[] w fun e w' => e = .returned (.bool true) ∧ Below w.heap.size w w' := by
  have HS : Hid (∀ W, Calls Tryz.prog 5 #[] W fun e w' => e = .returned (saV W.heap.size) ∧ SaP W w') := hidS sample_any
  have HT : Hid (∀ W, Below w.heap.size w W → TabW W ∧ 2 < W.heap.size) := hidS (fun W hW => ⟨hT.below hW hp, Nat.lt_of_lt_of_le hp hW.size⟩)
  clear hT hp
  go_enter Tryz.func6, Tryz.ntmps6
  go_wp2_with fail
  refine (HS.out _).mono ?_
  rintro e w1 ⟨rfl, h1⟩
  have HT1 := hidS (take_ys w.heap.size ysL ysC rfl wfc_ys rfl w1 h1.code h1.names (HT.out w1 h1.bl).1 (HT.out w1 h1.bl).2)
  have H1 := hidS h1.bl
  clear h1
  go_wp2_with fail
  refine HT1.out.mono ?_
  rintro e w2 hk
  obtain ⟨pm, D, N, rfl, hM, hd, hb2⟩ := ys_taken hk
  have HC := hidS (mcount_any hM)
  have hD := mdepth_any 3 (by decide) hM
  rw [hd] at hD
  have HD := hidS hD
  have H2 : Hid (Below w.heap.size w w2) := hidS (H1.out.trans (hb2.mono H1.out.size))
  clear hM hD hd hb2 hk HT1
  go_wp2_with fail
  refine HC.out.mono ?_
  rintro e w3 ⟨rfl, rfl⟩
  go_wp2_with fail
  refine HD.out.mono ?_
  rintro e w4 ⟨rfl, rfl⟩
  clear HC HD
  go_wp2_with fail
  refine (HS.out _).mono ?_
  rintro e w5 ⟨rfl, h5⟩
  obtain ⟨W6, hW6⟩ : ∃ W6, w5.alloc (.cells #[.slice (some ⟨w4.heap.size + 1, 0, none⟩) 7 7, .slice none 0 0, .slice none 0 0, .int .u32 0, .int .u32 64, .slice (some ⟨w4.heap.size + 1 + 1, 0, none⟩) 1 1] 32) = W6 := ⟨_, rfl⟩
  have l1 := (Array.getElem?_eq_some_iff.1 h5.code).1
  have l2 := (Array.getElem?_eq_some_iff.1 h5.names).1
  have hx6 : W6.heap[w5.heap.size]? = some (.cells #[.slice (some ⟨w4.heap.size + 1, 0, none⟩) 7 7, .slice none 0 0, .slice none 0 0, .int .u32 0, .int .u32 64, .slice (some ⟨w4.heap.size + 1 + 1, 0, none⟩) 1 1] 32 (0, 0)) := by rw [← hW6]; exact heap_alloc_new _ _
  have hc6 : W6.heap[w4.heap.size + 1]? = some (.cells ysC 46 (0, 0)) := by rw [← hW6]; exact (Below.heap_alloc _ _ _ (by omega)).trans h5.code
  have hn6 : W6.heap[w4.heap.size + 1 + 1]? = some (.cells ysE 48 (0, 0)) := by rw [← hW6]; exact (Below.heap_alloc _ _ _ (by omega)).trans h5.names
  have hb6 : Below w4.heap.size w4 W6 := by rw [← hW6]; exact h5.bl.alloc h5.bl.size _
  have HX6 := hidS hx6
  have HC6 := hidS hc6
  have HN6 := hidS hn6
  have HB6 := hidS hb6
  have HL1 := hidS l1
  have HL2 := hidS l2
  clear hx6 hc6 hn6 hb6 l1 l2 h5
  subst hW6
  go_wp2_with (with_reducible refine at_store 46 rfl ?_; refine store_ys rfl _ _ rfl (w4.heap.size + 1) ?a1 ?a2 ?a3 ?a4; (case a1 => first | rfl | (simp only [Act.eval]; simp)); (case a2 => first | rfl | (simp only [Act.eval]; simp)); (case a3 => exact HC6.out); intro W7 hc7 ho7 hb7; have hx7 := (ho7 _ (by have := HL1.out; omega)).trans HX6.out; have d0 : W7.cell? ⟨w5.heap.size, 0, none⟩ = some (.slice (some ⟨w4.heap.size + 1, 0, none⟩) 7 7) := (obj_cell hx7 0).trans rfl; have d1 : W7.cell? ⟨w5.heap.size, 1, none⟩ = some (.slice none 0 0) := (obj_cell hx7 1).trans rfl; have d2 : W7.cell? ⟨w5.heap.size, 2, none⟩ = some (.slice none 0 0) := (obj_cell hx7 2).trans rfl; have d3 : W7.cell? ⟨w5.heap.size, 3, none⟩ = some (.int .u32 0) := (obj_cell hx7 3).trans rfl; have d4 : W7.cell? ⟨w5.heap.size, 4, none⟩ = some (.int .u32 64) := (obj_cell hx7 4).trans rfl; have d5 : W7.cell? ⟨w5.heap.size, 5, none⟩ = some (.slice (some ⟨w4.heap.size + 1 + 1, 0, none⟩) 1 1) := (obj_cell hx7 5).trans rfl; have HC7 := hidS hc7; have HN7 := hidS ((ho7 _ (by omega)).trans HN6.out); have HB7 := hidS (HB6.out.trans (hb7 _ (by omega))); clear hx7 hc7 ho7 hb7)
  refine (take_ys w4.heap.size ysN ysCN rfl wfc_ysN rfl W7 HC7.out HN7.out (HT.out W7 (H2.out.trans (HB7.out.mono H2.out.size))).1 (HT.out W7 (H2.out.trans (HB7.out.mono H2.out.size))).2).mono ?_
  rintro e w8 hk
  obtain ⟨rfl, hb8⟩ := ysN_refused hk
  have H8 : Hid (Below w.heap.size w w8) := hidS ((H2.out.trans (HB7.out.mono H2.out.size)).trans (hb8.mono (H2.out.trans (HB7.out.mono H2.out.size)).size))
  clear hk hb8 HC7 HN7 HB7 HB6 HX6 HC6 HN6 HL1 HL2 d0 d1 d2 d3 d4 d5
  go_wp2_with fail
  go_ret
  exact ⟨rfl, H8.out⟩
end Go.Proofs.YtnalnlbainghoaaGreatDoor
