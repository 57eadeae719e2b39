import Derived.Test.YtagflmjiajjkcaaDoorELm
namespace Go.Proofs.YtagflmjiajjkcaaDoor
open Go.RowKit Go.WideShapes
set_option maxRecDepth 100000

/-- two segments that share nothing, their logs off, all blocks from B on -/
def Two (B : Nat) (w : World) (a : Nat) (bs : List Int) (o : Nat) (cs : List Int) : Prop :=
  ∃ g cap tv ts g' cap' tv' ts', MemS w a g cap bs false tv ts ∧ MemS w o g' cap' cs false tv' ts' ∧ (∀ k, Foot a g tv k → B ≤ k ∧ ¬ Foot o g' tv' k) ∧ (∀ k, Foot o g' tv' k → B ≤ k)
theorem Two.symm {B : Nat} {w : World} {a o : Nat} {bs cs : List Int} : Two B w a bs o cs → Two B w o cs a bs := fun ⟨g, cap, tv, ts, g', cap', tv', ts', h1, h2, h3, h4⟩ =>
  ⟨g', cap', tv', ts', g, cap, tv, ts, h2, h1, fun k hk => ⟨h4 k hk, fun hF => (h3 k hF).2 hk⟩, fun k hk => (h3 k hk).1⟩
theorem Two.seg {B : Nat} {w : World} {a o : Nat} {bs cs : List Int} : Two B w a bs o cs → Seg B w a bs := fun ⟨g, cap, tv, ts, _, _, _, _, h1, _, h3, _⟩ =>
  ⟨g, cap, tv, ts, h1, (h3 a (.inl rfl)).1, (h3 g (.inr (.inl rfl))).1, fun k hk => (h3 k (.inr (.inr hk))).1⟩
theorem Two.below {B : Nat} {w w' : World} {a o : Nat} {bs cs : List Int} (hb : Below w.heap.size w w') : Two B w a bs o cs → Two B w' a bs o cs := fun ⟨g, cap, tv, ts, g', cap', tv', ts', h1, h2, h3, h4⟩ =>
  ⟨g, cap, tv, ts, g', cap', tv', ts', h1.kept (S := fun _ => False) (Kp.ofBelow hb) (fun _ _ h => h), h2.kept (S := fun _ => False) (Kp.ofBelow hb) (fun _ _ h => h), h3, h4⟩
theorem two_after {B : Nat} {w w' : World} {a g cap o g' cap' : Nat} {cs bs' : List Int} {tv tv' : Value} {ts ts' : List (Int × Bool)} (h2 : MemS w o g' cap' cs false tv' ts') (h3 : ∀ k, Foot a g tv k → B ≤ k ∧ ¬ Foot o g' tv' k) (h4 : ∀ k, Foot o g' tv' k → B ≤ k) (hB : B ≤ w.heap.size)
    (p : ∃ t2, MemS w' a g cap bs' false t2 ts ∧ ∀ j, t2.ownBlock = some j → tv.ownBlock = some j ∨ w.heap.size ≤ j) (hk : Kp (Foot a g tv) w w') : Two B w' a bs' o cs ∧ Below B w w' := by
  obtain ⟨t2, p1, p2⟩ := p
  refine ⟨⟨g, cap, t2, ts, g', cap', tv', ts', p1, h2.kept hk (fun k hk hF => (h3 k hF).2 hk), ?_, h4⟩, hk.below hB (fun i hi => (h3 i hi).1)⟩
  rintro k (e | e | e)
  · exact h3 k (.inl e)
  · exact h3 k (.inr (.inl e))
  · rcases p2 k e with e | e
    · exact h3 k (.inr (.inr e))
    · exact ⟨by omega, fun hF => by have := h2.lt k hF; omega⟩
theorem clone_t (B a : Nat) (bs : List Int) (w : World) (hS : Seg B w a bs) (hB : B ≤ w.heap.size) :
    Calls Tryd.prog 28 #[.pointer (some ⟨a, 0, none⟩)] w fun e w' => ∃ o, e = .returned (.pointer (some ⟨o, 0, none⟩)) ∧ Two B w' a bs o bs ∧ Below B w w' := by
  obtain ⟨g, cap, tv, ts, h, ha, hg, ht⟩ := hS
  refine (clone_m a g cap bs false tv ts w h).mono fun e w' ⟨o, g', cap', he, k1, k2, k3, k4⟩ => ⟨o, he, ⟨g, cap, tv, ts, g', cap', _, _, h.kept (S := fun _ => False) (Kp.ofBelow k4) (fun _ _ h => h), k1, ?_, ?_⟩, k4.mono hB⟩
  · intro k hk
    have hl := h.lt k hk
    refine ⟨?_, ?_⟩
    · rcases hk with e | e | e
      · omega
      · omega
      · exact ht k e
    · rintro (e | e | e)
      · omega
      · omega
      · simp [Value.ownBlock] at e
  · rintro k (e | e | e)
    · omega
    · omega
    · simp [Value.ownBlock] at e
theorem same_t (B a o : Nat) (bs cs : List Int) (w : World) (hT : Two B w a bs o cs) :
    Calls Tryd.prog 20 #[.pointer (some ⟨a, 0, none⟩), .pointer (some ⟨o, 0, none⟩)] w fun e w' => e = .returned (.bool (decide (bs = cs))) ∧ Two B w' a bs o cs ∧ Below B w w' := by
  obtain ⟨g, cap, tv, ts, g', cap', tv', ts', h1, h2, h3, h4⟩ := hT
  refine (same_m a g cap o g' cap' bs cs false false tv tv' ts ts' w h1 h2).mono fun e w' ⟨he, n, hw⟩ => ⟨he, ?_, ?_⟩
  · rw [hw]
    exact Two.below (below_drewN (Below.refl _ _) n) ⟨g, cap, tv, ts, g', cap', tv', ts', h1, h2, h3, h4⟩
  · rw [hw]; exact below_drewN (Below.refl _ _) n
theorem copy_t (B a o to fr n : Nat) (bs cs : List Int) (w : World) (hT : Two B w a bs o cs) (hB : B ≤ w.heap.size) (ht : to < 4294967296) (hf : fr < 4294967296) (hn : n ≤ 4096) :
    Calls Tryd.prog 10 #[.pointer (some ⟨a, 0, none⟩), .int .u32 to, .int .u32 fr, .int .u32 n] w fun e w' => e = .returned (.int .i64 0) ∧ Two B w' a (wrL bs to (rdL bs fr n)) o cs ∧ Below B w w' := by
  obtain ⟨g, cap, tv, ts, g', cap', tv', ts', h1, h2, h3, h4⟩ := hT
  exact (copy_m false (note_ok_off _ _) (note_ok_off _ _) a g cap to fr n bs tv ts w h1 ht hf hn).mono fun e w' ⟨he, p, hk⟩ => ⟨he, two_after h2 h3 h4 hB p hk⟩
theorem copy_lt (B a o n : Nat) (to fr : Value) (bs cs : List Int) (w : World) (hT : Two B w a bs o cs) (hn : 4096 < n) :
    Calls Tryd.prog 10 #[.pointer (some ⟨a, 0, none⟩), to, fr, .int .u32 n] w fun e w' => e = .returned (.int .i64 92) ∧ Two B w' a bs o cs ∧ Below B w w' := by
  obtain ⟨g, cap, tv, ts, g', cap', tv', ts', h1, h2, h3, h4⟩ := hT
  refine (copy_long a n to fr w ((obj_cell h1.obj 0).trans rfl) hn).mono fun e w' ⟨he, hw⟩ => ⟨he, ?_, ?_⟩
  · rw [hw]; exact ⟨g, cap, tv, ts, g', cap', tv', ts', h1, h2, h3, h4⟩
  · rw [hw]; exact Below.refl _ _
/-- .. and what a window reads of it, in memory of its own -/
def RTwo (B : Nat) (w : World) (a : Nat) (bs : List Int) (o : Nat) (cs : List Int) (d : Nat) (zs : List Int) : Prop :=
  (∃ g cap tv ts g' cap' tv' ts', MemS w a g cap bs false tv ts ∧ MemS w o g' cap' cs false tv' ts' ∧ (∀ k, Foot a g tv k → B ≤ k ∧ ¬ Foot o g' tv' k) ∧ (∀ k, Foot o g' tv' k → B ≤ k) ∧ ¬ Foot a g tv d) ∧ w.heap[d]? = some (.cells (bv zs).toArray 5 (0, 0))
theorem read_t (B a o x n : Nat) (bs cs : List Int) (w : World) (hT : Two B w a bs o cs) (hB : B ≤ w.heap.size) (hx : x < 4294967296) (hn : n ≤ 4096) :
    Calls Tryd.prog 16 #[.pointer (some ⟨a, 0, none⟩), .int .u32 x, .int .i64 n] w fun e w' => ∃ d, e = .returned (.tuple #[.slice (some ⟨d, 0, none⟩) n n, .int .i64 0]) ∧ RTwo B w' a bs o cs d (rdL bs x n) ∧ Below B w w' := by
  obtain ⟨g, cap, tv, ts, g', cap', tv', ts', h1, h2, h3, h4⟩ := hT
  refine (read_m false (note_ok_off _ _) a g cap x n bs tv ts w h1 hx hn).mono fun e w' ⟨he, ⟨t2, p1, p2⟩, hk, hd⟩ => ⟨w.heap.size, he, ⟨⟨g, cap, t2, ts, g', cap', tv', ts', p1, h2.kept hk (fun k hk hF => (h3 k hF).2 hk), ?_, h4, ?_⟩, hd⟩, hk.below hB (fun i hi => (h3 i hi).1)⟩
  · rintro k (e | e | e)
    · exact h3 k (.inl e)
    · exact h3 k (.inr (.inl e))
    · rcases p2 k e with e | e
      · exact h3 k (.inr (.inr e))
      · exact ⟨by omega, fun hF => by have := h2.lt k hF; omega⟩
  · rintro (e | e | e)
    · have := h1.lt a (.inl rfl); omega
    · have := h1.lt g (.inr (.inl rfl)); omega
    · rcases p2 _ e with e | e
      · have := h1.lt _ (.inr (.inr e)); omega
      · omega
theorem write_t (B a o x d : Nat) (bs cs zs : List Int) (w : World) (hT : RTwo B w a bs o cs d zs) (hB : B ≤ w.heap.size) (hx : x < 4294967296) (hn : zs.length ≤ 4096) (hwf : ∀ z ∈ zs, 0 ≤ z ∧ z ≤ 255) :
    Calls Tryd.prog 25 #[.pointer (some ⟨a, 0, none⟩), .int .u32 x, .slice (some ⟨d, 0, none⟩) zs.length zs.length] w fun e w' => e = .returned (.int .i64 0) ∧ Two B w' a (wrL bs x zs) o cs ∧ Below B w w' := by
  obtain ⟨⟨g, cap, tv, ts, g', cap', tv', ts', h1, h2, h3, h4, h5⟩, hd⟩ := hT
  refine (write_m false (note_ok_off _ _) a g cap x zs.length d 0 (some ⟨d, 0, none⟩) bs zs tv ts w h1 hx hn (Nat.le_refl _) hwf (fun _ => ⟨rfl, (Array.getElem?_eq_some_iff.1 hd).1, fun i hi => ?_⟩) h5).mono fun e w' ⟨he, p, hk⟩ => ⟨he, two_after h2 h3 h4 hB p hk⟩
  rw [Nat.zero_add, obj_cell hd i]
  simp [bv, hi]
theorem load1_t (B a o x : Nat) (bs cs : List Int) (w : World) (hT : Two B w a bs o cs) (hB : B ≤ w.heap.size) (hx : x < 4294967296) :
    Calls Tryd.prog 23 #[.pointer (some ⟨a, 0, none⟩), .int .u32 x] w fun e w' => e = .returned (.int .u32 (gt bs x)) ∧ Two B w' a bs o cs ∧ Below B w w' := by
  obtain ⟨g, cap, tv, ts, g', cap', tv', ts', h1, h2, h3, h4⟩ := hT
  exact (load1_m false (note_ok_off _ _) a g cap x bs tv ts w h1 hx).mono fun e w' ⟨he, p, hk⟩ => ⟨by rw [he, n4_1], two_after h2 h3 h4 hB p hk⟩
theorem store1_t (B a o x : Nat) (v : Int) (bs cs : List Int) (w : World) (hT : Two B w a bs o cs) (hB : B ≤ w.heap.size) (hx : x < 4294967296) (hv : 0 ≤ v ∧ v < 4294967296) :
    Calls Tryd.prog 14 #[.pointer (some ⟨a, 0, none⟩), .int .u32 x, .int .u32 v] w fun e w' => e = .returned (.tuple #[]) ∧ Two B w' a (wrL bs x [v % 256]) o cs ∧ Below B w w' := by
  obtain ⟨g, cap, tv, ts, g', cap', tv', ts', h1, h2, h3, h4⟩ := hT
  exact (store1_m false (note_ok_off _ _) a g cap x v bs tv ts w h1 hx hv).mono fun e w' ⟨he, p, hk⟩ => ⟨he, two_after h2 h3 h4 hB p hk⟩
theorem gt_bd {bs : List Int} (hw : ∀ z ∈ bs, 0 ≤ z ∧ z ≤ 255) (h0 : 0 < bs.length) (p : Nat) : 0 ≤ gt bs p ∧ gt bs p ≤ 255 := hw _ (getD_mem (Nat.mod_lt _ h0))
theorem gt_one (bs : List Int) (p : Nat) (v : Int) (h : 1 ≤ bs.length) : gt (wrL bs p [v]) p = v := by
  have := gt_in bs [v] p 0 (by simpa using h) (by simp)
  simpa using this
end Go.Proofs.YtagflmjiajjkcaaDoor
