import Derived.Test.YtnalnlbainghoaaGreatDoorPKp
import Derived.Defers
import Derived.Recover
import Derived.WalkLawsBesides
import Derived.Test.YtnalnlbainghoaaGreatDoorCVRw
import Derived.Lib.Bytealg
namespace Go.Proofs.YtnalnlbainghoaaGreatDoor
open Go.RowKit Go.WideShapes
set_option maxRecDepth 100000
/-- a module that is none -/
def NoMd (w : World) (v : Value) : Prop := v = .pointer none ∨ ∃ a, a < w.heap.size ∧ v = .pointer (some ⟨a, 0, none⟩) ∧ w.cell? ⟨a, 0, none⟩ = some (.pointer none)
theorem NoMd.below {w w' : World} {v : Value} (h : NoMd w v) (hb : Below w.heap.size w w') : NoMd w' v := by
  rcases h with h | ⟨a, h1, h2, h3⟩
  · exact .inl h
  · exact .inr ⟨a, Nat.lt_of_lt_of_le h1 hb.size, h2, (hb.cell (p := ⟨a, 0, none⟩) h1).trans h3⟩
theorem nomd_eq (a : Nat) (w : World) : (binOp .eql 22 (.pointer none) (.pointer (some ⟨a, 0, none⟩))).run Tryz.prog w = .ok (.bool false) w := by
  have h : ∀ d : Nat, (Op.equalIn (d + 1) 22 (.pointer none) (.pointer (some ⟨a, 0, none⟩))).run Tryz.prog w = .ok false w := fun d => by
    simp [Op.equalIn, run_underlying Tryz.underlying22]
  simp only [binOp]
  simp [Op.equal, Op.maxDepth, h 9999]
theorem vmade_no (v : Value) (w : World) (h : NoMd w v) : Calls Tryz.prog 21 #[v] w fun e w' => e = .returned (.bool false) ∧ w' = w := by
  rcases h with rfl | ⟨a, _, rfl, hc⟩
  · go_enter Tryz.func21, Tryz.ntmps21
    go_wp2
    go_ret
    exact ⟨rfl, rfl⟩
  · have hq := nomd_eq a w
    go_enter Tryz.func21, Tryz.ntmps21
    go_wp2
    go_ret
    exact ⟨rfl, rfl⟩
theorem vbits_no (v : Value) (w : World) (h : NoMd w v) : Calls Tryz.prog 7 #[v] w fun e w' => e = .returned (.int .i64 0) ∧ w' = w := by
  have hM := vmade_no v w h
  clear h
  go_enter Tryz.func7, Tryz.ntmps7
  go_wp2_with (go_at_call 21; with_reducible refine hM.mono ?_; rintro e wq ⟨rfl, hq⟩; subst wq)
  go_ret
  exact ⟨rfl, rfl⟩
end Go.Proofs.YtnalnlbainghoaaGreatDoor
namespace Go.Proofs.YtnalnlbainghoaaGreatDoor
open Go.RowKit Go.WideShapes
set_option maxRecDepth 100000
/-- the zero image -/
def imZ : Array Value := #[.slice none 0 0, .slice none 0 0, .slice none 0 0, .int .u32 0, .int .u32 0, .slice none 0 0]
theorem nimage (v : Value) (w : World) (h : NoMd w v) : Calls Tryz.prog 31 #[v] w fun e w' => e = .returned (.agg imZ) ∧ Below w.heap.size w w' := by
  have hM := fun o => vmade_no v (w.alloc o) (h.below (belP (Below.refl _ _)))
  clear h
  go_enter Tryz.func31, Tryz.ntmps31
  go_wp2_with (go_at_call 21; with_reducible refine (hM _).mono ?_; rintro e wq ⟨rfl, hq⟩; subst wq)
  refine bodyPost_ret (resVIm (p := 2) (by kernel_rfl) _ w.heap.size imZ rfl (heap_alloc_last w _) _ rfl) rfl ?_
  exact ⟨rfl, belP (Below.refl _ _)⟩
theorem ncount (v : Value) (w : World) (h : NoMd w v) : Calls Tryz.prog 20 #[v] w fun e w' => e = .returned (.int .i64 0) ∧ w' = w := by
  have hM := vmade_no v w h
  clear h
  go_enter Tryz.func20, Tryz.ntmps20
  go_wp2_with (go_at_call 21; with_reducible refine hM.mono ?_; rintro e wq ⟨rfl, hq⟩; subst wq)
  go_ret
  exact ⟨rfl, rfl⟩
theorem nprocs (v : Value) (w : World) (h : NoMd w v) : Calls Tryz.prog 8 #[v] w fun e w' => e = .returned (.slice none 0 0) ∧ w' = w := by
  have hM := vmade_no v w h
  clear h
  go_enter Tryz.func8, Tryz.ntmps8
  go_wp2_with (go_at_call 21; with_reducible refine hM.mono ?_; rintro e wq ⟨rfl, hq⟩; subst wq)
  go_ret
  exact ⟨rfl, rfl⟩
theorem ndigest (v : Value) (w : World) (h : NoMd w v) : Calls Tryz.prog 33 #[v] w fun e w' => e = .returned (.int .u64 0) ∧ w' = w := by
  have hM := vmade_no v w h
  clear h
  go_enter Tryz.func33, Tryz.ntmps33
  go_wp2_with (go_at_call 21; with_reducible refine hM.mono ?_; rintro e wq ⟨rfl, hq⟩; subst wq)
  go_ret
  exact ⟨rfl, rfl⟩
theorem ndepth (v i : Value) (w : World) (h : NoMd w v) : Calls Tryz.prog 10 #[v, i] w fun e w' => e = .returned (.int .i64 (-1)) ∧ w' = w := by
  have hM := vmade_no v w h
  clear h
  go_enter Tryz.func10, Tryz.ntmps10
  go_wp2_with (go_at_call 21; with_reducible refine hM.mono ?_; rintro e wq ⟨rfl, hq⟩; subst wq)
  go_ret
  exact ⟨rfl, rfl⟩
theorem nbegins (v i : Value) (w : World) (h : NoMd w v) : Calls Tryz.prog 12 #[v, i] w fun e w' => e = .returned (.bool false) ∧ w' = w := by
  have hM := vmade_no v w h
  clear h
  go_enter Tryz.func12, Tryz.ntmps12
  go_wp2_with (go_at_call 21; with_reducible refine hM.mono ?_; rintro e wq ⟨rfl, hq⟩; subst wq)
  go_ret
  exact ⟨rfl, rfl⟩
theorem nlegal (v i j : Value) (w : World) (h : NoMd w v) : Calls Tryz.prog 34 #[v, i, j] w fun e w' => e = .returned (.bool false) ∧ w' = w := by
  have hM := vmade_no v w h
  clear h
  go_enter Tryz.func34, Tryz.ntmps34
  go_wp2_with (go_at_call 21; with_reducible refine hM.mono ?_; rintro e wq ⟨rfl, hq⟩; subst wq)
  go_ret
  exact ⟨rfl, rfl⟩
theorem nentry (v s : Value) (w : World) (h : NoMd w v) : Calls Tryz.prog 9 #[v, s] w fun e w' => e = .returned (.tuple #[.int .u32 0, .bool false]) ∧ w' = w := by
  have hM := vmade_no v w h
  clear h
  go_enter Tryz.func9, Tryz.ntmps9
  go_wp2_with (go_at_call 21; with_reducible refine hM.mono ?_; rintro e wq ⟨rfl, hq⟩; subst wq)
  go_ret2
  exact ⟨rfl, rfl⟩
theorem nat_ (v : Value) (i : Nat) (w : World) (h : NoMd w v) : Calls Tryz.prog 27 #[v, .int .u32 i] w fun e w' => e = .returned (.tuple #[.agg #[.int .u8 0, .int .u32 0], .bool false]) ∧ Below w.heap.size w w' := by
  have hM := fun o => ncount v (w.alloc o) (h.below (belP (Below.refl _ _)))
  have hI : (0 : Int) ≤ (i : Int) := by omega
  clear h
  go_enter Tryz.func27, Tryz.ntmps27
  go_wp2_with (go_at_call 20; with_reducible refine (hM _).mono ?_; rintro e wq ⟨rfl, hq⟩; subst wq)
  refine bodyPost_ret (resWIn (p := 4) (u := 5) (by kernel_rfl) (.bool false) _ w.heap.size #[.int .u8 0, .int .u32 0] rfl (heap_alloc_last w _) _ rfl rfl) rfl ?_
  exact ⟨rfl, belP (Below.refl _ _)⟩
theorem nprocof (v i : Value) (w : World) (h : NoMd w v) : Calls Tryz.prog 32 #[v, i] w fun e w' => e = .returned (.tuple #[.agg #[.int .u32 0, .int .u32 0, .int .u32 0, .int .i64 0], .bool false]) ∧ Below w.heap.size w w' := by
  have hM := fun o => vmade_no v (w.alloc o) (h.below (belP (Below.refl _ _)))
  clear h
  go_enter Tryz.func32, Tryz.ntmps32
  go_wp2_with (go_at_call 21; with_reducible refine (hM _).mono ?_; rintro e wq ⟨rfl, hq⟩; subst wq)
  refine bodyPost_ret (resWPr (p := 4) (u := 5) (by kernel_rfl) (.bool false) _ w.heap.size #[.int .u32 0, .int .u32 0, .int .u32 0, .int .i64 0] rfl (heap_alloc_last w _) _ rfl rfl) rfl ?_
  exact ⟨rfl, belP (Below.refl _ _)⟩
theorem nback (v : Value) (w : World) (h : NoMd w v) : Calls Tryz.prog 11 #[v, .int .u32 1] w fun e w' => e = .returned (.bool false) ∧ Below w.heap.size w w' := by
  have hM : Calls Tryz.prog 27 #[v, .int .u32 0] w fun e w' => e = .returned (.tuple #[.agg #[.int .u8 0, .int .u32 0], .bool false]) ∧ Below w.heap.size w w' := nat_ v 0 w h
  clear h
  go_enter Tryz.func11, Tryz.ntmps11
  go_wp2_with (go_at_call 27; with_reducible refine hM.mono ?_; rintro e w1 ⟨rfl, hb1⟩)
  go_ret
  exact ⟨rfl, belP hb1⟩
end Go.Proofs.YtnalnlbainghoaaGreatDoor
namespace Go.Proofs.YtnalnlbainghoaaGreatDoor
open Go.RowKit Go.WideShapes
set_option maxRecDepth 100000
set_option maxHeartbeats 4000000 in
theorem nothing_any (v : Value) (w : World) (h : NoMd w v) : Calls Tryz.prog 14 #[v] w fun e w' => e = .returned (.bool true) ∧ Below w.heap.size w w' := by
  have HN : Hid (∀ W, Below w.heap.size w W → NoMd W v) := hidS (fun W hW => h.below hW)
  have hI := nimage v w h
  have HB := hidS (Below.refl w.heap.size w)
  clear h
  go_enter Tryz.func14, Tryz.ntmps14
  go_wp2_with fail
  refine hI.mono ?_
  rintro e w1 ⟨rfl, hb1⟩
  simp only [imZ]
  have hb2 : Below w.heap.size w (w1.alloc (.cells #[.slice none 0 0, .slice none 0 0, .slice none 0 0, .int .u32 0, .int .u32 0, .slice none 0 0] 32)) := belP hb1
  have hA : Calls Tryz.prog 27 #[v, .int .u32 0] (w1.alloc (.cells #[.slice none 0 0, .slice none 0 0, .slice none 0 0, .int .u32 0, .int .u32 0, .slice none 0 0] 32)) _ := nat_ v 0 _ (HN.out _ hb2)
  go_wp2_with fail
  refine hA.mono ?_
  rintro e w3 ⟨rfl, hb3⟩
  obtain ⟨W4, hW4⟩ : ∃ W4, w3.alloc (.cells #[.int .u8 0, .int .u32 0] 46) = W4 := ⟨_, rfl⟩
  have hb4 : Below w.heap.size w W4 := by rw [← hW4]; exact belP (btP hb2 hb3)
  have o4 : W4.heap[w3.heap.size]? = some (.cells #[.int .u8 0, .int .u32 0] 46) := by rw [← hW4]; exact heap_alloc_last w3 _
  have hP := nprocof v (.int .u32 0) W4 (HN.out _ hb4)
  have HW4 := hidS hW4
  clear hW4
  go_wp2_with fail
  rw [HW4.out]
  refine hP.mono ?_
  rintro e w5 ⟨rfl, hb5⟩
  obtain ⟨W6, hW6⟩ : ∃ W6, w5.alloc (.cells #[.int .u32 0, .int .u32 0, .int .u32 0, .int .i64 0] 39) = W6 := ⟨_, rfl⟩
  have hb56 : Below W4.heap.size W4 W6 := by rw [← hW6]; exact belP hb5
  have hb6 := btP hb4 hb56
  have o6 : W6.heap[w5.heap.size]? = some (.cells #[.int .u32 0, .int .u32 0, .int .u32 0, .int .i64 0] 39) := by rw [← hW6]; exact heap_alloc_last w5 _
  have o64 := (hb56.block _ (Array.getElem?_eq_some_iff.1 o4).1).trans o4
  have k0 : W6.cell? ⟨w3.heap.size, 0, none⟩ = some (.int .u8 0) := (obj_cell o64 0).trans rfl
  have k1 : W6.cell? ⟨w3.heap.size, 1, none⟩ = some (.int .u32 0) := (obj_cell o64 1).trans rfl
  have m0 : W6.cell? ⟨w5.heap.size, 0, none⟩ = some (.int .u32 0) := (obj_cell o6 0).trans rfl
  have m1 : W6.cell? ⟨w5.heap.size, 1, none⟩ = some (.int .u32 0) := (obj_cell o6 1).trans rfl
  have m2 : W6.cell? ⟨w5.heap.size, 2, none⟩ = some (.int .u32 0) := (obj_cell o6 2).trans rfl
  have m3 : W6.cell? ⟨w5.heap.size, 3, none⟩ = some (.int .i64 0) := (obj_cell o6 3).trans rfl
  have hNo := HN.out _ hb6
  have hE := nentry v (.string ⟨#[]⟩) W6 hNo
  have hPr := nprocs v W6 hNo
  have hBi := vbits_no v W6 hNo
  have hCo := ncount v W6 hNo
  have hDi := ndigest v W6 hNo
  have hDe := ndepth v (.int .u32 0) W6 hNo
  have hBe := nbegins v (.int .u32 0) W6 hNo
  have hLe := nlegal v (.int .u32 0) (.int .u32 0) W6 hNo
  have hBa := nback v W6 hNo
  have HW6 := hidS hW6
  clear hW6 o4 o6 o64 hNo
  go_wp2_with fail
  rw [HW6.out]
  refine hE.mono ?_
  rintro e wq ⟨rfl, hq⟩
  subst wq
  clear hE HW6 HW4
  go_wp2_with (first
    | (go_at_call 8; with_reducible refine hPr.mono ?_; rintro e wq ⟨rfl, hq⟩; subst wq)
    | (go_at_call 7; with_reducible refine hBi.mono ?_; rintro e wq ⟨rfl, hq⟩; subst wq)
    | (go_at_call 20; with_reducible refine hCo.mono ?_; rintro e wq ⟨rfl, hq⟩; subst wq)
    | (go_at_call 33; with_reducible refine hDi.mono ?_; rintro e wq ⟨rfl, hq⟩; subst wq)
    | (go_at_call 10; with_reducible refine hDe.mono ?_; rintro e wq ⟨rfl, hq⟩; subst wq)
    | (go_at_call 12; with_reducible refine hBe.mono ?_; rintro e wq ⟨rfl, hq⟩; subst wq)
    | (go_at_call 34; with_reducible refine hLe.mono ?_; rintro e wq ⟨rfl, hq⟩; subst wq)
    | (go_at_call 11; with_reducible refine hBa.mono ?_; rintro e w9 ⟨rfl, hb9⟩))
  go_ret
  exact ⟨rfl, btP hb6 hb9⟩
theorem cmpstr_any (a b : ByteArray) (w : World) : Calls Tryz.prog 51 #[.string a, .string b] w fun e w' => e = .returned (.int .i64 (Lib.compareBytes a.data.toList b.data.toList)) ∧ w' = w := by
  go_enter Tryz.func51, Tryz.ntmps51
  go_wp2
  rw [run_callFunc_extern Tryz.func77 (by kernel_rfl) (by kernel_rfl) (by kernel_rfl) (e := Extern.BytealgCompare.compare) (by kernel_rfl), Lib.run_compareString]
  simp only [Result.andThen]
  rw [Oper.upon_value]
  go_wp2
  go_ret
  exact ⟨rfl, rfl⟩
theorem scompare_any (a b : ByteArray) (w : World) : Calls Tryz.prog 25 #[.string a, .string b] w fun e w' => e = .returned (.int .i64 (Lib.compareBytes a.data.toList b.data.toList)) ∧ w' = w := by
  have hC := cmpstr_any a b w
  generalize Lib.compareBytes a.data.toList b.data.toList = z at *
  go_enter Tryz.func25, Tryz.ntmps25
  go_wp2_with (go_at_call 51; with_reducible refine hC.mono ?_; rintro e wq ⟨rfl, hq⟩; subst wq)
  go_ret
  exact ⟨rfl, rfl⟩
theorem ecmp_any (s t : ByteArray) (at_ : Int) (w : World) : Calls Tryz.prog 24 #[.agg #[.string s, .int .u32 at_], .string t] w fun e w' => e = .returned (.int .i64 (Lib.compareBytes s.data.toList t.data.toList)) ∧ Below w.heap.size w w' := by
  have hC := fun o => scompare_any s t (w.alloc o)
  generalize Lib.compareBytes s.data.toList t.data.toList = z at *
  go_enter Tryz.func24, Tryz.ntmps24
  go_wp2_with (go_at_call 25; with_reducible refine (hC _).mono ?_; rintro e wq ⟨rfl, hq⟩; subst wq)
  go_ret
  exact ⟨rfl, belP (Below.refl _ _)⟩
end Go.Proofs.YtnalnlbainghoaaGreatDoor
namespace Go.Proofs.YtnalnlbainghoaaGreatDoor
open Go.RowKit Go.WideShapes
set_option maxRecDepth 100000
set_option maxHeartbeats 4000000 in
theorem bsf_one (b cap : Nat) (s t : ByteArray) (at_ z : Int) (w : World) (hlt : b < w.heap.size) (c0 : w.cell? ⟨b, 0, none⟩ = some (.string s)) (c1 : w.cell? ⟨b, 1, none⟩ = some (.int .u32 at_)) (hz : Lib.compareBytes s.data.toList t.data.toList = z) (h0 : z = 0 ∨ z = 1) :
    Calls Tryz.prog 23 #[.slice (some ⟨b, 0, none⟩) 1 cap, .string t, .func (.func 24) #[] #[]] w fun e w' => e = .returned (.tuple #[.int .i64 0, .bool (z == 0)]) ∧ Below w.heap.size w w' := by
  have HC : Hid (∀ W, Below w.heap.size w W → W.cell? ⟨b, 0, none⟩ = some (.string s) ∧ W.cell? ⟨b, 1, none⟩ = some (.int .u32 at_)) := hidS (fun W hW => ⟨(hW.cell (p := ⟨b, 0, none⟩) hlt).trans c0, (hW.cell (p := ⟨b, 1, none⟩) hlt).trans c1⟩)
  have HE : Hid (∀ W, Calls Tryz.prog 24 #[.agg #[.string s, .int .u32 at_], .string t] W fun e w' => e = .returned (.int .i64 z) ∧ Below W.heap.size W w') := hidS (fun W => by have := ecmp_any s t at_ W; rw [hz] at this; exact this)
  have hz0 : ¬ z < 0 := by omega
  clear c0 c1 hz
  go_enter Tryz.func23, Tryz.ntmps23
  go_wp2
  go_loopw [9, 10] (fun i j wr => i = .int .i64 0 ∧ (j = .int .i64 1 ∨ j = .int .i64 0) ∧ Below w.heap.size w wr) (fun _ j _ => (intOf j).toNat)
  case atStart => exact ⟨rfl, .inl rfl, Below.refl _ _⟩
  case round =>
    obtain ⟨rfl, hj, hb⟩ := hrel
    obtain ⟨d0, d1⟩ := HC.out wr hb
    have hE := HE.out wr
    rcases hj with rfl | rfl
    · go_wp2_with (go_at_call 24; with_reducible refine hE.mono ?_; rintro e w1 ⟨rfl, hb1⟩)
      go_roundw
      case rel => exact ⟨rfl, .inr rfl, btP hb hb1⟩
      case measure => simp [intOf]
    · go_wp2_with (go_at_call 24; with_reducible refine hE.mono ?_; rintro e w1 ⟨rfl, hb1⟩)
      go_ret2
      exact ⟨rfl, btP hb hb1⟩
/-- headers that are too short -/
theorem hdr_short (ao : Option Addr) (cap : Nat) (w : World) : Calls Tryz.prog 53 #[.slice ao 63 cap] w fun e w' => e = .returned (.tuple #[.int .i64 63, .int .i64 80]) ∧ w' = w := by
  go_enter Tryz.func53, Tryz.ntmps53
  go_wp2
  go_ret2
  exact ⟨rfl, rfl⟩
theorem res3Im {fn : Func} {p u v : Tmp} (hf : fn.results = #[.cell p 32, .tmp u, .tmp v]) (W : World) (b : Nat) (cs : Array Value) (hs : cs.size = 6) (hb : W.heap[b]? = some (.cells cs 32)) (tmps : Array Value) (h2 : tmps.getD p undef = .pointer (some ⟨b, 0, none⟩)) :
    (results fn tmps).run Tryz.prog W = .ok (.tuple #[.agg cs, tmps.getD u undef, tmps.getD v undef]) W := by
  obtain ⟨fs, hu⟩ := undVIm
  have := run_loadVar_row (P := Tryz.prog) W b 32 32 cs (0, 0) _ hb hu rfl (by rw [sizeVIm, hs])
  rw [Array.getD_eq_getD_getElem?] at h2
  simp [results, hf, h2, asAddr, this]
theorem parse_short (ao : Option Addr) (cap : Nat) (w : World) : Calls Tryz.prog 30 #[.slice ao 63 cap] w fun e w' => e = .returned (.tuple #[.agg imZ, .int .i64 63, .int .i64 80]) ∧ Below w.heap.size w w' := by
  have hH := fun o => hdr_short ao cap (w.alloc o)
  go_enter Tryz.func30, Tryz.ntmps30
  go_wp2_with (go_at_call 53; with_reducible refine (hH _).mono ?_; rintro e wq ⟨rfl, hq⟩; subst wq)
  refine bodyPost_ret (res3Im (p := 2) (u := 3) (v := 4) (by kernel_rfl) _ w.heap.size imZ rfl (heap_alloc_last w _) _ rfl) rfl ?_
  exact ⟨rfl, belP (Below.refl _ _)⟩
theorem load_short (ao : Option Addr) (cap : Nat) (w : World) : Calls Tryz.prog 13 #[.slice ao 63 cap] w fun e w' => e = .returned (.tuple #[.pointer none, .int .i64 63, .int .i64 80]) ∧ Below w.heap.size w w' := by
  have hH := parse_short ao cap w
  go_enter Tryz.func13, Tryz.ntmps13
  go_wp2_with (go_at_call 30; with_reducible refine hH.mono ?_; rintro e w1 ⟨rfl, hb1⟩; simp only [imZ])
  refine bodyPost_ret (v := .tuple #[.pointer none, .int .i64 63, .int .i64 80]) (by simp [results, Tryz.f13, go_sem]) rfl ?_
  exact ⟨rfl, belP hb1⟩
end Go.Proofs.YtnalnlbainghoaaGreatDoor
