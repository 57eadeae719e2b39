import Derived.Test.YtcmfephbhbgoiaaDoorJAp
import Derived.Test.YtcmfephbhbgoiaaDoorJGl
namespace Go.Proofs.YtcmfephbhbgoiaaDoor
open Go.RowKit Go.WideShapes
set_option maxRecDepth 100000
theorem geq_none (a : Nat) (w : World) : (binOp .eql 28 (.pointer none) (.pointer (some ⟨a, 0, none⟩))).run Tryd.prog w = .ok (.bool false) w := by
  have h : ∀ d : Nat, (Op.equalIn (d + 1) 28 (.pointer none) (.pointer (some ⟨a, 0, none⟩))).run Tryd.prog w = .ok false w := fun d => by
    simp [Op.equalIn, run_underlying Tryd.underlying28]
  simp only [binOp]
  simp [Op.equal, Op.maxDepth, h 9999]
/-- a gate that nobody made -/
def NoG (w : World) (p : Value) : Prop := p = .pointer none ∨ ∃ a, p = .pointer (some ⟨a, 0, none⟩) ∧ a < w.heap.size ∧ w.cell? ⟨a, 0, none⟩ = some (.pointer none)
/-- a memory that nobody made -/
def NoM (w : World) (p : Value) : Prop := p = .pointer none ∨ ∃ a, p = .pointer (some ⟨a, 0, none⟩) ∧ a < w.heap.size ∧ w.cell? ⟨a, 0, none⟩ = some (.pointer none)
theorem NoG.below {w w' : World} {p : Value} (h : NoG w p) (hb : Below w.heap.size w w') : NoG w' p := by
  rcases h with h | ⟨a, h1, h2, h3⟩
  · exact .inl h
  · have := hb.size
    exact .inr ⟨a, h1, by omega, (hb.cell (p := ⟨a, 0, none⟩) h2).trans h3⟩
theorem NoM.below {w w' : World} {p : Value} (h : NoM w p) (hb : Below w.heap.size w w') : NoM w' p := by
  rcases h with h | ⟨a, h1, h2, h3⟩
  · exact .inl h
  · have := hb.size
    exact .inr ⟨a, h1, by omega, (hb.cell (p := ⟨a, 0, none⟩) h2).trans h3⟩
theorem nog_any (p : Value) (w : World) (h : NoG w p) : Calls Tryd.prog 24 #[p] w fun e w' => e = .returned (.bool false) ∧ w' = w := by
  rcases h with rfl | ⟨a, rfl, h2, h3⟩
  · go_enter Tryd.func24, Tryd.ntmps24
    go_wp2
    go_ret
    exact ⟨rfl, rfl⟩
  · have hq := geq_none a w
    go_enter Tryd.func24, Tryd.ntmps24
    go_wp2
    go_ret
    exact ⟨rfl, rfl⟩
theorem nom_any (p : Value) (w : World) (h : NoM w p) : Calls Tryd.prog 37 #[p] w fun e w' => e = .returned (.bool false) ∧ w' = w := by
  rcases h with rfl | ⟨a, rfl, h2, h3⟩
  · exact made_nil w
  · exact made_no a w h3
theorem nobits_any (p : Value) (w : World) (h : NoM w p) : Calls Tryd.prog 25 #[p] w fun e w' => e = .returned (.bool false) ∧ w' = w := by
  have hM := nom_any p w h
  have hB : Calls Tryd.prog 40 #[p] w fun e w' => e = .returned (.int .i64 0) ∧ w' = w := by
    go_enter Tryd.func40, Tryd.ntmps40
    go_wp2_with (go_at_call 37; with_reducible refine hM.mono ?_; rintro e wq ⟨rfl, hq⟩; subst wq)
    go_ret
    exact ⟨rfl, rfl⟩
  clear hM h
  go_enter Tryd.func25, Tryd.ntmps25
  go_wp2_with (go_at_call 40; with_reducible refine hB.mono ?_; rintro e wq ⟨rfl, hq⟩; subst wq)
  go_ret
  exact ⟨rfl, rfl⟩
theorem ngranted (p : Value) (k : Int) (w : World) (h : NoG w p) : Calls Tryd.prog 8 #[p, .int .u32 k] w fun e w' => e = .returned (.tuple #[.int .i64 0, .bool false]) ∧ w' = w := by
  have hM := nog_any p w h
  go_enter Tryd.func8, Tryd.ntmps8
  go_wp2_with (go_at_call 24; with_reducible refine hM.mono ?_; rintro e wq ⟨rfl, hq⟩; subst wq)
  go_ret2
  exact ⟨rfl, rfl⟩
theorem nwords (p m : Value) (s k : Int) (w : World) (h : NoG w p) : Calls Tryd.prog 9 #[p, m, .int .u32 s, .int .u32 k] w fun e w' => e = .returned (.tuple #[.slice none 0 0, .bool false]) ∧ w' = w := by
  have hM := ngranted p k w h
  go_enter Tryd.func9, Tryd.ntmps9
  go_wp2_with (go_at_call 8; with_reducible refine hM.mono ?_; rintro e wq ⟨rfl, hq⟩; subst wq)
  go_ret2
  exact ⟨rfl, rfl⟩
theorem nless (p l : Value) (w : World) (h : NoG w p) : Calls Tryd.prog 11 #[p, l] w fun e w' => e = .returned (.tuple #[.pointer none, .int .i64 1]) ∧ w' = w := by
  have hM := nog_any p w h
  go_enter Tryd.func11, Tryd.ntmps11
  go_wp2_with (go_at_call 24; with_reducible refine hM.mono ?_; rintro e wq ⟨rfl, hq⟩; subst wq)
  go_ret2
  exact ⟨rfl, rfl⟩
theorem ngrants (p : Value) (w : World) (h : NoG w p) : Calls Tryd.prog 12 #[p] w fun e w' => e = .returned (.slice none 0 0) ∧ w' = w := by
  have hM := nog_any p w h
  go_enter Tryd.func12, Tryd.ntmps12
  go_wp2_with (go_at_call 24; with_reducible refine hM.mono ?_; rintro e wq ⟨rfl, hq⟩; subst wq)
  go_ret
  exact ⟨rfl, rfl⟩
theorem nwithin1 (p q : Value) (w : World) (h : NoG w p) : Calls Tryd.prog 15 #[p, q] w fun e w' => e = .returned (.bool false) ∧ w' = w := by
  have hM := nog_any p w h
  go_enter Tryd.func15, Tryd.ntmps15
  go_wp2_with (go_at_call 24; with_reducible refine hM.mono ?_; rintro e wq ⟨rfl, hq⟩; subst wq)
  go_ret
  exact ⟨rfl, rfl⟩
theorem nwithin2 (g : Nat) (f : Int → Option Int) (q : Value) (w : World) (hG : GtS w g f) (h : NoG w q) : Calls Tryd.prog 15 #[.pointer (some ⟨g, 0, none⟩), q] w fun e w' => e = .returned (.bool false) ∧ w' = w := by
  have hM := nog_any q w h
  have hY := gmade_any g f w hG
  go_enter Tryd.func15, Tryd.ntmps15
  go_wp2_with (first
    | (go_at_call 24; with_reducible refine hY.mono ?_; rintro e wq ⟨rfl, hq⟩; subst wq)
    | (go_at_call 24; with_reducible refine hM.mono ?_; rintro e wq ⟨rfl, hq⟩; subst wq))
  go_ret
  exact ⟨rfl, rfl⟩
theorem napply (p m : Value) (v : Int) (l : Value) (w : World) (h : NoG w p) : Calls Tryd.prog 14 #[p, m, .agg #[.int .u32 v, l]] w fun e w' => e = .returned (.int .i64 1) ∧ Below w.heap.size w w' := by
  have hM := fun o => nog_any p (w.alloc o) (h.below ((Below.refl _ _).alloc (Nat.le_refl _) o))
  go_enter Tryd.func14, Tryd.ntmps14
  go_wp2_with (go_at_call 24; with_reducible refine (hM _).mono ?_; rintro e wq ⟨rfl, hq⟩; subst wq)
  go_ret
  exact ⟨rfl, (Below.refl _ _).alloc (Nat.le_refl _) _⟩
theorem napplym (g : Nat) (f : Int → Option Int) (m : Value) (v : Int) (l : Value) (w : World) (hG : GtS w g f) (h : NoM w m) : Calls Tryd.prog 14 #[.pointer (some ⟨g, 0, none⟩), m, .agg #[.int .u32 v, l]] w fun e w' => e = .returned (.int .i64 1) ∧ Below w.heap.size w w' := by
  have hb := fun o => (Below.refl w.heap.size w).alloc (Nat.le_refl _) o
  have hM := fun o => nobits_any m (w.alloc o) (h.below (hb o))
  have hY := fun o => gmade_any g f (w.alloc o) (hG.kept (hb o) rfl)
  go_enter Tryd.func14, Tryd.ntmps14
  go_wp2_with (first
    | (go_at_call 24; with_reducible refine (hY _).mono ?_; rintro e wq ⟨rfl, hq⟩; subst wq)
    | (go_at_call 25; with_reducible refine (hM _).mono ?_; rintro e wq ⟨rfl, hq⟩; subst wq))
  go_ret
  exact ⟨rfl, hb _⟩
theorem nwordsm (g : Nat) (f : Int → Option Int) (m : Value) (s : Int) (k : Nat) (w : World) (hG : GtS w g f) (h : NoM w m) (hk : k < 4294967296) : Calls Tryd.prog 9 #[.pointer (some ⟨g, 0, none⟩), m, .int .u32 s, .int .u32 k] w fun e w' => e = .returned (.tuple #[.slice none 0 0, .bool false]) ∧ w' = w := by
  have hM := granted_any g f k w hG hk
  have hB := nobits_any m w h
  cases hfk : f k with
  | none =>
    rw [hfk] at hM
    simp only [Option.getD_none, Option.isSome_none] at hM
    go_enter Tryd.func9, Tryd.ntmps9
    go_wp2_with (go_at_call 8; with_reducible refine hM.mono ?_; rintro e wq ⟨rfl, hq⟩; subst wq)
    go_ret2
    exact ⟨rfl, rfl⟩
  | some c =>
    rw [hfk] at hM
    simp only [Option.getD_some, Option.isSome_some] at hM
    go_enter Tryd.func9, Tryd.ntmps9
    go_wp2_with (first
      | (go_at_call 8; with_reducible refine hM.mono ?_; rintro e wq ⟨rfl, hq⟩; subst wq)
      | (go_at_call 25; with_reducible refine hB.mono ?_; rintro e wq ⟨rfl, hq⟩; subst wq))
    go_ret2
    exact ⟨rfl, rfl⟩
theorem nevent (p : Value) (a k : Int) (l : Value) (v : Int) (l2 : Value) (w : World) (h : NoG w p) :
    Calls Tryd.prog 10 #[p, .int .u32 a, .int .u32 k, l, .agg #[.int .u32 v, l2]] w fun e w' => e = .returned (.tuple #[.agg #[.int .u32 0, .int .u32 0, .slice none 0 0, .int .u32 0], .int .i64 1]) ∧ Below w.heap.size w w' := by
  have hb := fun o o' => ((Below.refl w.heap.size w).alloc (Nat.le_refl _) o).alloc (by simp) o'
  have hM := fun o o' => nog_any p ((w.alloc o).alloc o') (h.below (hb o o'))
  go_enter Tryd.func10, Tryd.ntmps10
  go_wp2_with (go_at_call 24; with_reducible refine (hM _ _).mono ?_; rintro e wq ⟨rfl, hq⟩; subst wq)
  exact bodyPost_ret (v := .tuple #[.agg #[.int .u32 0, .int .u32 0, .slice none 0 0, .int .u32 0], .int .i64 1]) (by simp [results, Tryd.results10, go_sem]) rfl ⟨rfl, hb _ _⟩
theorem samew_nil (w : World) : Calls Tryd.prog 33 #[.slice none 0 0, .slice none 0 0] w fun e w' => e = .returned (.bool true) ∧ w' = w := by
  go_enter Tryd.func33, Tryd.ntmps33
  go_wp2
  refine wp_loop_rounds 1 ?_
  rw [rounds_succ]
  go_wp2
  go_ret
  exact ⟨rfl, rfl⟩
theorem samee_nil (w : World) : Calls Tryd.prog 13 #[.agg #[.int .u32 0, .int .u32 0, .slice none 0 0, .int .u32 0], .agg #[.int .u32 0, .int .u32 0, .slice none 0 0, .int .u32 0]] w fun e w' => e = .returned (.bool true) ∧ Below w.heap.size w w' := by
  have hS := fun W => samew_nil W
  go_enter Tryd.func13, Tryd.ntmps13
  go_wp2_with (go_at_call 33; with_reducible refine (hS _).mono ?_; rintro e wq ⟨rfl, hq⟩; subst wq)
  go_ret
  exact ⟨rfl, ((Below.refl w.heap.size w).alloc (Nat.le_refl _) _).alloc (by simp) _⟩
end Go.Proofs.YtcmfephbhbgoiaaDoor
