import Derived.Test.YtcmfephbhbgoiaaDoorJKl
import Derived.Test.YtcmfephbhbgoiaaDoorJLm
namespace Go.Proofs.YtcmfephbhbgoiaaDoor
open Go.RowKit Go.WideShapes
set_option maxRecDepth 100000
def bsA : List Int := wrL (List.replicate 256 0) 16 ((by4 1).take 4)
def bsB : List Int := wrL bsA 20 ((by4 2).take 4)
def bsC : List Int := wrL bsB 24 ((by4 3).take 4)
def bsK : List Int := wrL bsC 252 ((by4 4).take 4)
def wsK : List (Nat × List Int) := [(254, [1, 2, 3, 4]), (255, [9])]
def bsM : List Int := applyL bsK wsK
theorem bsK_len : bsK.length = 256 := by simp [bsK, bsC, bsB, bsA, wrL_len]
theorem w16 : wdL bsK 16 2 = [1, 2] := by decide +kernel
theorem w252 : wdL bsK 4294967292 2 = [4, 0] := by decide +kernel
theorem m254 : n4 (rdL bsM 254 4) = 67307777 := by decide +kernel
abbrev KS (w0 : World) (B gg a : Nat) (bs : List Int) (W : World) : Prop := KSt w0 B gg a f7 bs W
theorem words12 {w0 : World} {B gg a : Nat} {W : World} (h : Hid (KS w0 B gg a bsK W)) :
    Calls Tryd.prog 9 #[.pointer (some ⟨gg, 0, none⟩), .pointer (some ⟨a, 0, none⟩), .int .u32 12, .int .u32 7] W fun e w' => e = .returned (.tuple #[.slice (some ⟨W.heap.size, 0, none⟩) 2 2, .bool true]) ∧ Hid (KS w0 B gg a bsK w') ∧ w'.cell? ⟨W.heap.size, 0, none⟩ = some (.int .u32 1) ∧ w'.cell? ⟨W.heap.size, 1, none⟩ = some (.int .u32 2) :=
  (words_k h.out 12 7 2 (by decide) (by decide) (by decide) bsK_len).mono fun e w' ⟨he, hK, hc⟩ => by
    have c0 := hc 0 (by decide)
    have c1 := hc 1 (by decide)
    rw [show (12 + 4) % 4294967296 = 16 from rfl, w16] at c0 c1
    exact ⟨he, hK, c0, c1⟩
theorem words288 {w0 : World} {B gg a : Nat} {W : World} (h : Hid (KS w0 B gg a bsK W)) :
    Calls Tryd.prog 9 #[.pointer (some ⟨gg, 0, none⟩), .pointer (some ⟨a, 0, none⟩), .int .u32 4294967288, .int .u32 7] W fun e w' => e = .returned (.tuple #[.slice (some ⟨W.heap.size, 0, none⟩) 2 2, .bool true]) ∧ Hid (KS w0 B gg a bsK w') ∧ w'.cell? ⟨W.heap.size, 0, none⟩ = some (.int .u32 4) ∧ w'.cell? ⟨W.heap.size, 1, none⟩ = some (.int .u32 0) :=
  (words_k h.out 4294967288 7 2 (by decide) (by decide) (by decide) bsK_len).mono fun e w' ⟨he, hK, hc⟩ => by
    have c0 := hc 0 (by decide)
    have c1 := hc 1 (by decide)
    rw [show (4294967288 + 4) % 4294967296 = 4294967292 from rfl, w252] at c0 c1
    exact ⟨he, hK, c0, c1⟩
theorem st_k {w0 : World} {B gg a : Nat} {bs : List Int} {W : World} (h : Hid (KS w0 B gg a bs W)) (x : Nat) (v : Int) (hx : x < 4294967296) (hv : 0 ≤ v ∧ v < 4294967296) :
    Calls Tryd.prog 19 #[.pointer (some ⟨a, 0, none⟩), .int .u32 x, .int .u32 v] W fun e w' => e = .returned (.tuple #[]) ∧ Hid (KS w0 B gg a (wrL bs x ((by4 v).take 4)) w') :=
  (store4_any B a x v bs W h.out.seg h.out.lo hx hv).mono fun _ _ ⟨he, hs, hb⟩ => ⟨he, h.out.step hs hb⟩
theorem st16 {w0 : World} {B gg a : Nat} {W : World} (h : Hid (KS w0 B gg a (List.replicate 256 0) W)) : Calls Tryd.prog 19 #[.pointer (some ⟨a, 0, none⟩), .int .u32 16, .int .u32 1] W fun e w' => e = .returned (.tuple #[]) ∧ Hid (KS w0 B gg a bsA w') := st_k h 16 1 (by decide) (by decide)
theorem st20 {w0 : World} {B gg a : Nat} {W : World} (h : Hid (KS w0 B gg a bsA W)) : Calls Tryd.prog 19 #[.pointer (some ⟨a, 0, none⟩), .int .u32 20, .int .u32 2] W fun e w' => e = .returned (.tuple #[]) ∧ Hid (KS w0 B gg a bsB w') := st_k h 20 2 (by decide) (by decide)
theorem st24 {w0 : World} {B gg a : Nat} {W : World} (h : Hid (KS w0 B gg a bsB W)) : Calls Tryd.prog 19 #[.pointer (some ⟨a, 0, none⟩), .int .u32 24, .int .u32 3] W fun e w' => e = .returned (.tuple #[]) ∧ Hid (KS w0 B gg a bsC w') := st_k h 24 3 (by decide) (by decide)
theorem st252 {w0 : World} {B gg a : Nat} {W : World} (h : Hid (KS w0 B gg a bsC W)) : Calls Tryd.prog 19 #[.pointer (some ⟨a, 0, none⟩), .int .u32 252, .int .u32 4] W fun e w' => e = .returned (.tuple #[]) ∧ Hid (KS w0 B gg a bsK w') := st_k h 252 4 (by decide) (by decide)
theorem ld254 {w0 : World} {B gg a : Nat} {W : World} (h : Hid (KS w0 B gg a bsM W)) : Calls Tryd.prog 20 #[.pointer (some ⟨a, 0, none⟩), .int .u32 254] W fun e w' => e = .returned (.int .u32 67307777) ∧ Hid (KS w0 B gg a bsM w') :=
  (load4_any B a 254 bsM W h.out.seg h.out.lo (by decide)).mono fun e w' ⟨he, hs, hb⟩ => by
    rw [m254] at he
    exact ⟨he, h.out.step hs hb⟩
abbrev oB1 : Obj := .cells #[.int .u8 1, .int .u8 2, .int .u8 3, .int .u8 4] 5
abbrev oB2 : Obj := .cells #[.int .u8 9] 5
abbrev oB3 (V : World) : Obj := .cells #[.int .u32 254, .slice (some ⟨V.heap.size, 0, none⟩) 4 4, .int .u32 255, .slice (some ⟨V.heap.size + 1, 0, none⟩) 1 1] 62
theorem three_blk (w : World) (o1 o2 o3 : Obj) : (((w.alloc o1).alloc o2).alloc o3).heap[w.heap.size]? = some o1 ∧ (((w.alloc o1).alloc o2).alloc o3).heap[w.heap.size + 1]? = some o2 ∧ (((w.alloc o1).alloc o2).alloc o3).heap[w.heap.size + 1 + 1]? = some o3 ∧ (((w.alloc o1).alloc o2).alloc o3).heap.size = w.heap.size + 1 + 1 + 1 ∧ Below w.heap.size w (((w.alloc o1).alloc o2).alloc o3) := by
  refine ⟨?_, ?_, ?_, by simp, (((Below.refl w.heap.size w).alloc (Nat.le_refl _) o1).alloc (by simp) o2).alloc (by simp; omega) o3⟩
  · rw [Below.heap_alloc _ _ _ (by simp; omega), Below.heap_alloc _ _ _ (by simp)]
    exact (MapKept.heap_alloc w o1).1
  · rw [Below.heap_alloc _ _ _ (by simp)]
    have := (MapKept.heap_alloc (w.alloc o1) o2).1
    simpa using this
  · have := (MapKept.heap_alloc ((w.alloc o1).alloc o2) o3).1
    simpa using this
theorem ap_lit {w0 : World} {B gg a : Nat} {V : World} (h : Hid (KS w0 B gg a bsK V)) :
    Calls Tryd.prog 14 #[.pointer (some ⟨gg, 0, none⟩), .pointer (some ⟨a, 0, none⟩), .agg #[.int .u32 0, .slice (some ⟨V.heap.size + 1 + 1, 0, none⟩) 2 2]] (((V.alloc oB1).alloc oB2).alloc (oB3 V)) fun e w' => e = .returned (.int .i64 0) ∧ Hid (KS w0 B gg a bsM w') := by
  obtain ⟨t1, t2, t3, t4, t5⟩ := three_blk V oB1 oB2 (oB3 V)
  generalize (((V.alloc oB1).alloc oB2).alloc (oB3 V)) = W at *
  refine apply_k h.out t5 0 (some ⟨V.heap.size + 1 + 1, 0, none⟩) 2 [(254, some ⟨V.heap.size, 0, none⟩, 4, 4), (255, some ⟨V.heap.size + 1, 0, none⟩, 1, 1)] wsK ⟨rfl, fun k hk => ?_, fun _ => ⟨V.heap.size + 1 + 1, 0, rfl, by omega, by omega, fun j hj => ?_⟩⟩ rfl bsK_len
  · rcases (show k = 0 ∨ k = 1 by simp [wsK] at hk; omega) with rfl | rfl
    · refine ⟨rfl, rfl, Nat.le_refl _, by decide, (show 254 < 4294967296 by decide), V.heap.size, 0, fun _ => ⟨rfl, by omega, fun i hi => ?_⟩, by omega, by omega⟩
      have := gobj_cell t1 (0 + i)
      rw [this]
      rcases (show i = 0 ∨ i = 1 ∨ i = 2 ∨ i = 3 by simp [wsK] at hi; omega) with rfl | rfl | rfl | rfl <;> rfl
    · refine ⟨rfl, rfl, Nat.le_refl _, by decide, (show 255 < 4294967296 by decide), V.heap.size + 1, 0, fun _ => ⟨rfl, by omega, fun i hi => ?_⟩, by omega, by omega⟩
      have := gobj_cell t2 (0 + i)
      rw [this]
      rcases (show i = 0 by simp [wsK] at hi; omega) with rfl
      rfl
  · rcases (show j = 0 ∨ j = 1 by simp at hj; omega) with rfl | rfl
    · exact ⟨gobj_cell t3 0, gobj_cell t3 1⟩
    · exact ⟨gobj_cell t3 2, gobj_cell t3 3⟩
theorem f7_at (x v : Int) (h : lessF f7 [7, 3] x = some v) : x = 0 ∧ v = 0 := by
  simp only [lessF] at h
  split at h
  · cases h
  · rename_i hn
    have h7 : x ≠ 7 := fun e => hn ⟨7, by simp, e⟩
    simp only [f7, ofL, List.foldl_cons, List.foldl_nil, putF] at h
    by_cases h0 : x = 0
    · subst h0
      simp at h
      exact ⟨rfl, h.symm⟩
    · simp [h0, h7] at h
theorem len1 {M : List (Nat × Int)} (hs : SrtG M) (hm : ∀ p, p ∈ M ↔ lessF f7 [7, 3] p.1 = some p.2) : M.length = 1 := by
  have h0 : ((0 : Nat), (0 : Int)) ∈ M := (hm (0, 0)).2 (by decide)
  have hpos : 0 < M.length := List.length_pos_of_mem h0
  have hz : ∀ k, k < M.length → (M.getD k (0, 0)).1 = 0 := fun k hk => by
    have := (hm _).1 (getD_memG (zs := M) hk)
    have := (f7_at _ _ this).1
    omega
  by_cases h2 : 1 < M.length
  · have := hs 0 1 (by decide) h2
    rw [hz 0 hpos, hz 1 h2] at this
    omega
  · omega
theorem within73 : withinP (lessF f7 [7, 3]) f7 := withinP_less f7 [7, 3]
theorem nwithin73 : ¬ withinP f7 (lessF f7 [7, 3]) := fun h => by
  have := h 7 2 (by decide)
  have := (f7_at _ _ this).1
  omega
theorem glen73 (g : Nat) (W : World) (h : GtS W g (lessF f7 [7, 3])) : Calls Tryd.prog 12 #[.pointer (some ⟨g, 0, none⟩)] W fun e w' => ∃ ao cap, e = .returned (.slice ao 1 cap) ∧ Below W.heap.size W w' :=
  (grants_any g _ W h).mono fun e w' ⟨ao, cap, M, he, _, _, hs, hm, _, hb⟩ => by
    rw [len1 hs hm] at he
    exact ⟨ao, cap, he, hb⟩
end Go.Proofs.YtcmfephbhbgoiaaDoor
