import Derived.Test.YtonmoidalkcmoaaCZBi
namespace Go.Proofs.Ytonmoidalkcmoaa
open Go.RowKit Go.WideShapes
set_option maxRecDepth 100000
/-- a store of a whole thing, where an order is drawn -/
theorem storeF_wp {o : Oper} {a : Act} {w : World} {K : Act → World → Prop} {Q : Exit → Act → World → Prop} (p q : Operand) (ho : o.op = .store 30 p q)
    (b : Nat) (f f' : Fz) (h0 : a.eval p = .pointer (some ⟨b, 0, none⟩)) (h1 : a.eval q = .agg (fzA f')) (hb : w.heap[b]? = some (.cells (fzA f) 30))
    (h : K (a.put o.dst undef) (w.setRow b (fzA f'))) : Oper.wp Try.prog o a w K Q :=
  storeZ_wp _ p q ho b (fzA f) (fzA f') h0 h1 hb (by rw [sizeFz]; rfl) rfl (by simp [fzA, Value.oneCell']) h
theorem wpList_storeF {ops : Array Oper} {Q : Exit → Act → World → Prop} {rest : List Oper} {o : Oper} {a : Act} {w : World} (hg : o.guard = none) (p q : Operand) (ho : o.op = .store 30 p q)
    (b : Nat) (f f' : Fz) (h0 : a.eval p = .pointer (some ⟨b, 0, none⟩)) (h1 : a.eval q = .agg (fzA f')) (hb : w.heap[b]? = some (.cells (fzA f) 30))
    (h : wpList Try.prog ops Q rest (a.put o.dst undef) (w.setRow b (fzA f'))) : wpList Try.prog ops Q (o :: rest) a w :=
  wpList_store_rowD hg _ p q ho b (fzA f) (fzA f') h0 h1 hb (by rw [sizeFz]; rfl) rfl (by simp [fzA, Value.oneCell']) h
/-- two boxes: the thing, a thing to be answered -/
structure Bs (w V : World) (f r : Fz) : Prop where
  bw : Below w.heap.size w V
  c0 : V.heap[w.heap.size]? = some (.cells (fzA f) 30)
  c1 : V.heap[w.heap.size + 1]? = some (.cells (fzA r) 30)
theorem Bs.new (w : World) (f r : Fz) : Bs w ((w.alloc (.cells (fzA f) 30)).alloc (.cells (fzA r) 30)) f r := by
  refine ⟨zbel2 _ _ _, ?_, zheap2 _ _ _⟩
  rw [Below.heap_alloc _ _ _ (by simp)]; exact heap_alloc_last _ _
theorem Bs.lt {w V : World} {f r : Fz} (h : Bs w V f r) : w.heap.size + 1 < V.heap.size := (Array.getElem?_eq_some_iff.1 h.c1).1
theorem Bs.next {w V V' : World} {f r : Fz} (h : Bs w V f r) (hb : Below V.heap.size V V') : Bs w V' f r := by
  have hl := h.lt
  exact ⟨h.bw.trans (hb.mono (by omega)), (hb.block _ (by omega)).trans h.c0, (hb.block _ (by omega)).trans h.c1⟩
theorem Bs.row {w V : World} {f r : Fz} (h : Bs w V f r) (r' : Fz) : Bs w (V.setRow (w.heap.size + 1) (fzA r')) f r' := by
  have h3 := setRow_heap V (w.heap.size + 1) _ (fzA r') _ _ h.c1
  have hk := KpSetRow (S := fun k => k = w.heap.size + 1) V (w.heap.size + 1) (fzA r') rfl
  have hl := h.lt
  exact ⟨h.bw.trans (hk.below (by omega) (fun i e => by omega)), (hk.block _ (by omega) (by omega)).trans h.c0, h3⟩
theorem Bs.row0 {w V : World} {f r : Fz} (h : Bs w V f r) (f' : Fz) : Bs w (V.setRow w.heap.size (fzA f')) f' r := by
  have h3 := setRow_heap V w.heap.size _ (fzA f') _ _ h.c0
  have hk := KpSetRow (S := fun k => k = w.heap.size) V w.heap.size (fzA f') rfl
  have hl := h.lt
  exact ⟨h.bw.trans (hk.below (by omega) (fun i e => by omega)), h3, (hk.block _ (by omega) (by omega)).trans h.c1⟩
theorem Bs.setLen {w V : World} {f r : Fz} (h : Bs w V f r) (k : Nat) : Bs w (V.setCell ⟨w.heap.size, 1, none⟩ (.int .u32 (k : Int))) { f with len := k } r := by
  have h3 := heap_setCell_same V w.heap.size 1 _ _ (.int .u32 (k : Int)) h.c0
  have hk := Kp.setCell (S := fun i => i = w.heap.size) V ⟨w.heap.size, 1, none⟩ (.int .u32 (k : Int)) rfl
  have hl := h.lt
  exact ⟨h.bw.trans (hk.below (by omega) (fun i e => by omega)), h3, (hk.block _ (by omega) (by omega)).trans h.c1⟩
theorem Bs.cells {w V : World} {f r : Fz} (h : Bs w V f r) : V.cell? ⟨w.heap.size, 0, none⟩ = some (.int .u32 (f.at_ : Int)) ∧ V.cell? ⟨w.heap.size, 1, none⟩ = some (.int .u32 (f.len : Int)) ∧ V.cell? ⟨w.heap.size, 2, none⟩ = some (.int .u8 (f.kind : Int)) ∧ V.cell? ⟨w.heap.size, 3, none⟩ = some (.int .u8 (f.op : Int)) ∧ V.cell? ⟨w.heap.size, 4, none⟩ = some (.int .u32 (f.a : Int)) ∧ V.cell? ⟨w.heap.size, 5, none⟩ = some (.int .u32 (f.b : Int)) :=
  ⟨obj_cell h.c0 0, obj_cell h.c0 1, obj_cell h.c0 2, obj_cell h.c0 3, obj_cell h.c0 4, obj_cell h.c0 5⟩
/-- a thing laid cell by cell -/
def put6 (V : World) (b : Nat) (f : Fz) : World :=
  (((((V.setCell ⟨b, 0, none⟩ (.int .u32 (f.at_ : Int))).setCell ⟨b, 1, none⟩ (.int .u32 (f.len : Int))).setCell ⟨b, 2, none⟩ (.int .u8 (f.kind : Int))).setCell ⟨b, 3, none⟩ (.int .u8 (f.op : Int))).setCell ⟨b, 4, none⟩ (.int .u32 (f.a : Int))).setCell ⟨b, 5, none⟩ (.int .u32 (f.b : Int))
theorem put6_any {V : World} {b : Nat} {f f' : Fz} (h : V.heap[b]? = some (.cells (fzA f) 30)) : (put6 V b f').heap[b]? = some (.cells (fzA f') 30) ∧ Kp (fun i => i = b) V (put6 V b f') :=
  set6 h rfl rfl rfl rfl rfl rfl
theorem Bs.put {w V : World} {f r : Fz} (h : Bs w V f r) (r' : Fz) : Bs w (put6 V (w.heap.size + 1) r') f r' := by
  obtain ⟨h3, hk⟩ := put6_any (f' := r') h.c1
  have hl := h.lt
  exact ⟨h.bw.trans (hk.below (by omega) (fun i e => by omega)), (hk.block _ (by omega) (by omega)).trans h.c0, h3⟩
theorem fz_cells {V : World} {b : Nat} {f : Fz} (h : V.heap[b]? = some (.cells (fzA f) 30)) : V.cell? ⟨b, 0, none⟩ = some (.int .u32 (f.at_ : Int)) ∧ V.cell? ⟨b, 1, none⟩ = some (.int .u32 (f.len : Int)) ∧ V.cell? ⟨b, 2, none⟩ = some (.int .u8 (f.kind : Int)) ∧ V.cell? ⟨b, 3, none⟩ = some (.int .u8 (f.op : Int)) ∧ V.cell? ⟨b, 4, none⟩ = some (.int .u32 (f.a : Int)) ∧ V.cell? ⟨b, 5, none⟩ = some (.int .u32 (f.b : Int)) :=
  ⟨obj_cell h 0, obj_cell h 1, obj_cell h 2, obj_cell h 3, obj_cell h 4, obj_cell h 5⟩
theorem fz_frozen {V : World} {b : Nat} {f : Fz} (h : V.heap[b]? = some (.cells (fzA f) 30)) : V.frozen? ⟨b, 0, none⟩ = false ∧ V.frozen? ⟨b, 1, none⟩ = false ∧ V.frozen? ⟨b, 2, none⟩ = false ∧ V.frozen? ⟨b, 3, none⟩ = false ∧ V.frozen? ⟨b, 4, none⟩ = false ∧ V.frozen? ⟨b, 5, none⟩ = false :=
  ⟨obj_frozen h 0, obj_frozen h 1, obj_frozen h 2, obj_frozen h 3, obj_frozen h 4, obj_frozen h 5⟩
/-- from B on all blocks of cells are as they were -/
def Fr (B : Nat) (w W : World) : Prop := w.heap.size ≤ W.heap.size ∧ ∀ i cs t fr, B ≤ i → w.heap[i]? = some (.cells cs t fr) → W.heap[i]? = some (.cells cs t fr)
theorem Fr.of {B : Nat} {w W : World} (h : Below w.heap.size w W) : Fr B w W := ⟨h.size, fun i _ _ _ _ hi => (h.block i (Array.getElem?_eq_some_iff.1 hi).1).trans hi⟩
theorem Fr.trans {B : Nat} {a b c : World} (h : Fr B a b) (k : Fr B b c) : Fr B a c := ⟨Nat.le_trans h.1 k.1, fun i cs t fr h1 h2 => k.2 i cs t fr h1 (h.2 i cs t fr h1 h2)⟩
theorem Fr.weak {B B' : Nat} {a b : World} (h : Fr B a b) (hB : B ≤ B') : Fr B' a b := ⟨h.1, fun i cs t fr h1 h2 => h.2 i cs t fr (Nat.le_trans hB h1) h2⟩
theorem Fr.cellv {B : Nat} {w W : World} (h : Fr B w W) {p : Addr} {v : Value} (hB : B ≤ p.block) (hv : w.cell? p = some v) : W.cell? p = some v := by
  have hv0 := hv
  unfold World.cell? at hv
  split at hv
  · rename_i cs t fr ho
    exact (World.cell?_of_block ((h.2 _ cs t fr hB ho).trans ho.symm)).trans hv0
  · cases hv
/-- a function value that is a look -/
def LkS (B : Nat) (w : World) (v : Value) (lk : Lk) : Prop :=
  ∃ g lb, v = .func (.func g) #[] lb ∧ (∀ args w, (callFunc g args).run Try.prog w = .ok (.enter g args) w) ∧ ∀ W, Fr B w W → ∀ (p : Nat × Nat) (f : Fz), p.1 < 256 → p.2 < 4294967296 →
    Calls Try.prog g (#[.agg #[.int .u8 (p.1 : Int), .int .u32 (p.2 : Int)], .agg (fzA f)] ++ lb) W fun e w' => e = .returned (.tuple #[.agg (fzA (lk p f).1), .bool (lk p f).2]) ∧ Below W.heap.size W w'
abbrev Pt := List (Nat × Nat) → Fz → Fz × Bool
/-- a function value that is a part -/
def PtS (B : Nat) (w : World) (v : Value) (pt : Pt) : Prop :=
  ∃ g lb, v = .func (.func g) #[] lb ∧ (∀ args w, (callFunc g args).run Try.prog w = .ok (.enter g args) w) ∧ ∀ W, Fr B w W → ∀ (ao : Option Addr) (cap : Nat) (L : List (Nat × Nat)) (f : Fz), L.length ≤ cap → f.len + L.length < 4294967296 → Wfc L → CRd W ao L W.heap.size →
    Calls Try.prog g (#[.slice ao L.length cap, .agg (fzA f)] ++ lb) W fun e w' => e = .returned (.tuple #[.agg (fzA (pt L f).1), .bool (pt L f).2]) ∧ Below W.heap.size W w'
abbrev Shp := List (Nat × Nat) → Fz
/-- a function value that is a shape -/
def ShS (B : Nat) (w : World) (v : Value) (sh : Shp) : Prop :=
  ∃ g lb, v = .func (.func g) #[] lb ∧ (∀ args w, (callFunc g args).run Try.prog w = .ok (.enter g args) w) ∧ ∀ W, Fr B w W → ∀ (ao : Option Addr) (cap : Nat) (L : List (Nat × Nat)), 0 < L.length → L.length ≤ cap → L.length < 4294967296 → Wfc L → CRd W ao L W.heap.size →
    Calls Try.prog g (#[.slice ao L.length cap] ++ lb) W fun e w' => e = .returned (.agg (fzA (sh L))) ∧ Below W.heap.size W w'
theorem LkS.nextF {B : Nat} {w w' : World} {v : Value} {lk : Lk} (h : LkS B w v lk) (hb : Fr B w w') : LkS B w' v lk := by
  obtain ⟨g, lb, h1, h2, h3⟩ := h
  exact ⟨g, lb, h1, h2, fun W hW => h3 W (hb.trans hW)⟩
theorem PtS.nextF {B : Nat} {w w' : World} {v : Value} {pt : Pt} (h : PtS B w v pt) (hb : Fr B w w') : PtS B w' v pt := by
  obtain ⟨g, lb, h1, h2, h3⟩ := h
  exact ⟨g, lb, h1, h2, fun W hW => h3 W (hb.trans hW)⟩
theorem ShS.nextF {B : Nat} {w w' : World} {v : Value} {sh : Shp} (h : ShS B w v sh) (hb : Fr B w w') : ShS B w' v sh := by
  obtain ⟨g, lb, h1, h2, h3⟩ := h
  exact ⟨g, lb, h1, h2, fun W hW => h3 W (hb.trans hW)⟩
theorem LkS.next {B : Nat} {w w' : World} {v : Value} {lk : Lk} (h : LkS B w v lk) (hb : Below w.heap.size w w') : LkS B w' v lk := by
  obtain ⟨g, lb, h1, h2, h3⟩ := h
  exact ⟨g, lb, h1, h2, fun W hW => h3 W ((Fr.of hb).trans hW)⟩
theorem PtS.next {B : Nat} {w w' : World} {v : Value} {pt : Pt} (h : PtS B w v pt) (hb : Below w.heap.size w w') : PtS B w' v pt := by
  obtain ⟨g, lb, h1, h2, h3⟩ := h
  exact ⟨g, lb, h1, h2, fun W hW => h3 W ((Fr.of hb).trans hW)⟩
theorem ShS.next {B : Nat} {w w' : World} {v : Value} {sh : Shp} (h : ShS B w v sh) (hb : Below w.heap.size w w') : ShS B w' v sh := by
  obtain ⟨g, lb, h1, h2, h3⟩ := h
  exact ⟨g, lb, h1, h2, fun W hW => h3 W ((Fr.of hb).trans hW)⟩
/-- one instruction that a look wants -/
def ptSingle (lk : Lk) : Pt := fun L f => match L with
  | [] => (f, false)
  | p :: _ => if erV p.1 p.2 = 0 then lk p { f with len := f.len + 1 } else (f, false)
set_option maxHeartbeats 4000000 in
theorem single1_any {B : Nat} (gb : Nat) (lk : Lk) (v : Value) (ao : Option Addr) (cap : Nat) (L : List (Nat × Nat)) (f : Fz) (w : World) (hg : gb < w.heap.size) (hv : w.cell? ⟨gb, 0, none⟩ = some v) (hlk : LkS B w v lk)
    (hlen : f.len + L.length < 4294967296) (hwf : Wfc L) (hr : CRd w ao L w.heap.size) :
    Calls Try.prog 59 #[.slice ao L.length cap, .agg (fzA f), .pointer (some ⟨gb, 0, none⟩)] w fun e w' => e = .returned (.tuple #[.agg (fzA (ptSingle lk L f).1), .bool (ptSingle lk L f).2]) ∧ Below w.heap.size w w' := by
  obtain ⟨f0, f1, f2, f3, f4, f5⟩ := f
  cases L with
  | nil =>
    rw [show ptSingle lk [] ⟨f0, f1, f2, f3, f4, f5⟩ = (⟨f0, f1, f2, f3, f4, f5⟩, false) from rfl]
    simp only [fzA, List.length_nil]
    clear hlk hr
    go_enter Try.func59, Try.ntmps59
    go_wp2
    exact bodyPost_ret (resFzB (p := 5) (u := 6) (by kernel_rfl) _ _ (w.heap.size + 1) _ rfl (zheap2 _ _ _) _ rfl rfl) rfl ⟨rfl, zbel2 _ _ _⟩
  | cons p R =>
    obtain ⟨b, off, rfl, hbl, hc⟩ := hr (by simp)
    have x0 := (hc 0 (by simp)).1
    have x1 := (hc 0 (by simp)).2
    obtain ⟨hop, harg⟩ := hwf p (by simp)
    rw [show (p :: R).getD 0 (0, 0) = p from rfl] at x0 x1
    simp only [Nat.zero_mul, Nat.add_zero] at x0 x1
    have hlen' : f1 + (R.length + 1) < 4294967296 := hlen
    clear hlen
    have hn0 : (p :: R).length = R.length + 1 := rfl
    rw [hn0]
    obtain ⟨op, arg⟩ := p
    simp only at x0 x1 hop harg
    have HC := dhid (fun w' => fcheck_any op arg w' hop)
    have HN := dhid (Bs.new w ⟨f0, f1, f2, f3, f4, f5⟩ fz0)
    have y0 : ∀ a b', ((w.alloc a).alloc b').cell? ⟨b, off, none⟩ = some (.int .u8 (op : Int)) := fun a b' => ((zbel2 w a b').cell (p := ⟨b, off, none⟩) hbl).trans x0
    have y1 : ∀ a b', ((w.alloc a).alloc b').cell? ⟨b, off + 1, none⟩ = some (.int .u32 (arg : Int)) := fun a b' => ((zbel2 w a b').cell (p := ⟨b, off + 1, none⟩) hbl).trans x1
    have g1 : b < w.heap.size + 1 := by omega
    have dn : (((R.length : Int) + 1) == 0) = false := by rw [beq_eq_false_iff_ne]; omega
    have dn' : ¬ (R.length : Int) + 1 = 0 := by omega
    have dn2 : (0 : Int) < (R.length : Int) + 1 := by omega
    have HLV := dhid (fun V (hV : Below w.heap.size w V) => And.intro ((hV.cell (p := ⟨gb, 0, none⟩) hg).trans hv) (And.intro ((hV.cell (p := ⟨b, off, none⟩) hbl).trans x0) ((hV.cell (p := ⟨b, off + 1, none⟩) hbl).trans x1)))
    clear hc hr hwf hn0
    by_cases her : erV op arg = 0
    · rw [show ptSingle lk ((op, arg) :: R) ⟨f0, f1, f2, f3, f4, f5⟩ = lk (op, arg) ⟨f0, f1 + 1, f2, f3, f4, f5⟩ from if_pos her]
      rw [her] at HC
      obtain ⟨g, lb, rfl, eg, hcall⟩ := hlk
      have HL := dhid (fun W (hW : Below w.heap.size w W) => hcall W (Fr.of hW) (op, arg) ⟨f0, f1 + 1, f2, f3, f4, f5⟩ hop harg)
      generalize lk (op, arg) ⟨f0, f1 + 1, f2, f3, f4, f5⟩ = q at HL ⊢
      obtain ⟨⟨r0, r1, r2, r3, r4, r5⟩, q2⟩ := q
      simp only [fzA, fz0] at HN HL ⊢
      have hq : ((f1 : Int) + 1) % 4294967296 = ((f1 + 1 : Nat) : Int) := by omega
      clear hcall
      go_enter Try.func59, Try.ntmps59
      go_wp2_with (go_at_call 13; with_reducible refine (HC.out _).mono ?_; rintro e w1 ⟨rfl, hb1⟩
                   have N1 := dhid (HN.out.next hb1)
                   have k1 := N1.out.cells.2.1
                   have k2 := obj_frozen N1.out.c0 1)
      obtain ⟨V1, hV1⟩ : ∃ V1, w1.setCell ⟨w.heap.size, 1, none⟩ (.int .u32 ((f1 : Int) + 1)) = V1 := ⟨_, rfl⟩
      rw [hV1]
      have M1 : Hid (Bs w V1 ⟨f0, f1 + 1, f2, f3, f4, f5⟩ fz0) := dhid (by rw [← hV1]; exact N1.out.setLen (f1 + 1))
      have HS1 := dhid (fun V (hh : Below V1.heap.size V1 V) => And.intro (HLV.out V (M1.out.next hh).bw) (M1.out.next hh).cells)
      have hc1 : ((f1 + 1 : Nat) : Int) = (f1 : Int) + 1 := rfl
      rw [hc1] at HL
      simp only [hc1] at HS1
      have D1 : Hid (Below V1.heap.size V1 V1.drew) := dhid (Below.refl _ _).drew
      have MD := dhid (M1.out.next D1.out)
      clear hV1 N1 k1 k2 hb1 HN HC y0 y1 x0 x1 hv
      go_region_held3 (fun V => (V.cell? ⟨gb, 0, none⟩ = some (.func (.func g) #[] lb) ∧ V.cell? ⟨b, off, none⟩ = some (.int .u8 (op : Int)) ∧ V.cell? ⟨b, off + 1, none⟩ = some (.int .u32 (arg : Int))) ∧ V.cell? ⟨w.heap.size, 0, none⟩ = some (.int .u32 (f0 : Int)) ∧ V.cell? ⟨w.heap.size, 1, none⟩ = some (.int .u32 ((f1 : Int) + 1)) ∧ V.cell? ⟨w.heap.size, 2, none⟩ = some (.int .u8 (f2 : Int)) ∧ V.cell? ⟨w.heap.size, 3, none⟩ = some (.int .u8 (f3 : Int)) ∧ V.cell? ⟨w.heap.size, 4, none⟩ = some (.int .u32 (f4 : Int)) ∧ V.cell? ⟨w.heap.size, 5, none⟩ = some (.int .u32 (f5 : Int)))
        (first | with_reducible exact HS1.out _ D1.out | with_reducible exact HS2.out | with_reducible exact HS3.out | with_reducible exact HS1.out _ (Below.refl _ _))
        (first
          | (with_reducible refine (HL.out _ MD.out.bw).mono ?_; rintro e w2 ⟨rfl, hb2⟩
             have M2 := dhid (MD.out.next hb2)
             have HS2 := dhid (HS1.out w2 (D1.out.trans (hb2.mono D1.out.size)))
             have M3 := dhid (M2.out.put ⟨r0, r1, r2, r3, r4, r5⟩)
             obtain ⟨z0, z1, z2, z3, z4, z5⟩ := fz_cells M2.out.c1
             obtain ⟨v0, v1, v2, v3, v4, v5⟩ := fz_frozen M2.out.c1
             have HS3 := dhid (And.intro (HLV.out _ M3.out.bw) M3.out.cells)
             simp only [put6, hc1] at HS3))
      all_goals go_wp2_with fail
      all_goals exact bodyPost_ret (resFzB (p := 5) (u := 6) (by kernel_rfl) _ _ (w.heap.size + 1) _ rfl M3.out.c1 _ rfl rfl) rfl ⟨rfl, M3.out.bw⟩
    · rw [show ptSingle lk ((op, arg) :: R) ⟨f0, f1, f2, f3, f4, f5⟩ = (⟨f0, f1, f2, f3, f4, f5⟩, false) from if_neg her]
      have hE1 : ((erV op arg : Int) != 0) = true := by simp; omega
      have hE2 : ¬ (erV op arg : Int) = 0 := by omega
      simp only [fzA, fz0] at HN ⊢
      generalize erV op arg = er at *
      go_enter Try.func59, Try.ntmps59
      go_wp2_with (first
        | (go_at_call 13; with_reducible refine (HC.out _).mono ?_; rintro e w1 ⟨rfl, hb1⟩
           have N1 := dhid (HN.out.next hb1)
           obtain ⟨k0, k1, k2, k3, k4, k5⟩ := N1.out.cells)
        | (refine wpList_storeF rfl _ _ rfl (w.heap.size + 1) fz0 ⟨f0, f1, f2, f3, f4, f5⟩ rfl rfl N1.out.c1 ?_))
      have N2 := N1.out.row ⟨f0, f1, f2, f3, f4, f5⟩
      exact bodyPost_ret (resFzB (p := 5) (u := 6) (by kernel_rfl) _ _ (w.heap.size + 1) _ rfl N2.c1 _ rfl rfl) rfl ⟨rfl, N2.bw⟩
end Go.Proofs.Ytonmoidalkcmoaa
