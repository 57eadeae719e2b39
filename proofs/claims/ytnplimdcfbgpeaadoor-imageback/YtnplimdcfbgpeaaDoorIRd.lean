import Derived.Test.YtnplimdcfbgpeaaDoorCIFit
import Derived.Deep.RegionHeld3
namespace Go.Proofs.YtnplimdcfbgpeaaDoor
open Go.RowKit
set_option maxRecDepth 100000

set_option maxHeartbeats 1000000 in
theorem opd_any (ao : Option Addr) (cap wi : Nat) (zs : List Int) (W : World) (hw : wi = 0 ∨ wi = 1 ∨ wi = 2 ∨ wi = 4) (hn : zs.length ≤ 140737488355328) (hcp : zs.length ≤ cap) (hwf : ∀ z ∈ zs, 0 ≤ z ∧ z ≤ 255) (hr : Reads W ao zs W.heap.size) :
    Calls Tryd.prog 92 #[.slice ao zs.length cap, .int .i64 wi] W fun e w' => e = .returned (.tuple #[.int .u32 (atv wi zs 0), .int .i64 (ate wi zs.length 0)]) ∧ w' = W := by
  rcases hw with rfl | rfl | rfl | rfl
  · go_enter Tryd.func92, Tryd.ntmps92
    go_wp2
    go_ret2
    refine ⟨?_, rfl⟩
    simp [atv, ate, num]
  · have ha := at_u8 ao cap zs 0 W hn hcp hwf hr (by omega) (by omega)
    have hrg := atv_range 1 zs 0 hwf
    rw [show (256 : Int) ^ 1 = 256 from rfl] at hrg
    generalize atv 1 zs 0 = v at ha hrg ⊢
    generalize ate 1 zs.length 0 = v2 at ha ⊢
    obtain ⟨h0, h1⟩ := hrg
    clear hn hcp hwf hr
    go_enter Tryd.func92, Tryd.ntmps92
    go_wp2_with (go_at_call 73; refine ha.mono ?_; rintro e wq ⟨rfl, hq⟩; subst wq)
    go_ret2
    exact ⟨by congr, rfl⟩
  · have ha := at_u16 ao cap zs 0 W hn hcp hwf hr (by omega) (by omega)
    have hrg := atv_range 2 zs 0 hwf
    rw [show (256 : Int) ^ 2 = 65536 from rfl] at hrg
    generalize atv 2 zs 0 = v at ha hrg ⊢
    generalize ate 2 zs.length 0 = v2 at ha ⊢
    obtain ⟨h0, h1⟩ := hrg
    clear hn hcp hwf hr
    go_enter Tryd.func92, Tryd.ntmps92
    go_wp2_with (go_at_call 98; refine ha.mono ?_; rintro e wq ⟨rfl, hq⟩; subst wq)
    go_ret2
    exact ⟨by congr, rfl⟩
  · have ha := at_u32 ao cap zs 0 W hn hcp hwf hr (by omega) (by omega)
    generalize atv 4 zs 0 = v at ha ⊢
    generalize ate 4 zs.length 0 = v2 at ha ⊢
    clear hn hcp hwf hr
    go_enter Tryd.func92, Tryd.ntmps92
    go_wp2_with (go_at_call 49; refine ha.mono ?_; rintro e wq ⟨rfl, hq⟩; subst wq)
    go_ret2
    exact ⟨rfl, rfl⟩
abbrev Rd := Nat × Nat × Nat × Nat
def rdV (zs : List Int) : Rd :=
  if isOp (zs.getD 0 0).toNat = false then (0, 0, 0, 70)
  else if zs.length < 1 + opWi (zs.getD 0 0).toNat then (0, 0, 0, 72)
  else if opMo (zs.getD 0 0).toNat < (num ((zs.drop 1).take (opWi (zs.getD 0 0).toNat))).toNat then (0, 0, 0, 71)
  else ((zs.getD 0 0).toNat, (num ((zs.drop 1).take (opWi (zs.getD 0 0).toNat))).toNat, 1 + opWi (zs.getD 0 0).toNat, 0)
abbrev rdA (r : Rd) : Array Value := #[.int .u8 r.1, .int .u32 r.2.1, .int .i64 r.2.2.1, .int .i64 r.2.2.2]
theorem rd_all (r : Rd) : (rdA r).all (·.oneCell') = true := by kernel_rfl
theorem infoRd : (Tryd.prog.info? 126).map (·.size) = some 4 := by kernel_rfl
set_option maxRecDepth 100000 in
theorem undRd : ∃ fs, Tryd.prog.underlying 126 = some (.struct fs) := by
  have h : (match Tryd.prog.underlying 126 with | some (.struct _) => true | _ => false) = true := by kernel_rfl
  split at h
  · exact ⟨_, by assumption⟩
  · cases h
theorem rdRes (W : World) (b : Nat) (cs : Array Value) (h4 : cs.size = 4) (hb : W.heap[b]? = some (.cells cs 126)) (tmps : Array Value) (h2 : tmps.getD 2 undef = .pointer (some ⟨b, 0, none⟩)) :
    (results Tryd.f80 tmps).run Tryd.prog W = .ok (.agg cs) W := by
  obtain ⟨fs, hu⟩ := undRd
  exact results_cell_row (p := 2) (ty := 126) (by kernel_rfl) tmps W b 126 cs (0, 0) _ h2 hb hu rfl (by rw [infoRd, h4])
theorem wpList_store_row {P : Program} {ops : Array Oper} {Q : Exit → Act → World → Prop} {rest : List Oper} {o : Oper} {a : Act} {w : World} (hg : o.guard = none) (t : TypeId) (p q : Operand) (ho : o.op = .store t p q)
    (b : Nat) (cs cs' : Array Value) (h0 : a.eval p = .pointer (some ⟨b, 0, none⟩)) (h1 : a.eval q = .agg cs') (hb : w.heap[b]? = some (.cells cs t)) (hi : (P.info? t).map (·.size) = some cs'.size) (hs : cs.size = cs'.size) (h2 : cs'.all (·.oneCell') = true)
    (h : wpList P ops Q rest (a.put o.dst undef) (w.setRow b cs')) : wpList P ops Q (o :: rest) a w := by
  refine wpList_plain hg fun _ hK => ?_
  have := run_storeVar_row (P := P) w b t t cs cs' hb hi hs h2
  unfold Oper.wp
  have hr : (execOp a.eval o).run P w = .ok .skip (w.setRow b cs') := by
    simp only [execOp, ho, h0, h1, Instr.storeAt, Instr.sureAddr, Sem.run_bind, Sem.run_pure, Result.andThen, this]
  rw [hr]
  exact hK _ _ h
theorem hpR {w W : World} {o : Obj} (h : Below (w.alloc o).heap.size (w.alloc o) W) (o' : Obj) : (W.alloc o').heap[w.heap.size]? = some o := by
  have h1 := h.size
  simp at h1
  rw [Below.heap_alloc _ _ _ (by omega), h.block w.heap.size (by simp)]
  exact heap_alloc_last w o
theorem gS {w W : World} {cs : Array Value} {t : Nat} (h : Below (w.alloc (.cells cs t)).heap.size (w.alloc (.cells cs t)) W) (i : Nat) (v : Value) (hv : cs[i]? = some v) : W.cell? ⟨w.heap.size, i, none⟩ = some v := by
  rw [cellB h i, hv]
theorem bt3 {w w1 w2 W : World} {o : Obj} (h1 : Below w.heap.size w w1) (_ : Below (w1.alloc o).heap.size (w1.alloc o) w2) (h3 : Below (w1.alloc o).heap.size (w1.alloc o) W) : Below w.heap.size w W := bt (bel h1) h3
set_option maxRecDepth 100000 in
set_option maxHeartbeats 2000000 in
theorem read_any (b off cap : Nat) (zs : List Int) (w : World) (hn : zs.length ≤ 140737488355328) (hcp : zs.length ≤ cap) (hpos : 0 < zs.length) (hwf : ∀ z ∈ zs, 0 ≤ z ∧ z ≤ 255) (hbl : b < w.heap.size)
    (hc : ∀ j, j < zs.length → w.cell? ⟨b, off + j, none⟩ = some (.int .u8 (zs.getD j 0))) :
    Calls Tryd.prog 80 #[.slice (some ⟨b, off, none⟩) zs.length cap] w fun e w' => e = .returned (.agg (rdA (rdV zs))) ∧ Below w.heap.size w w' := by
  obtain ⟨op, hop⟩ : ∃ op : Nat, zs.getD 0 0 = op := ⟨(zs.getD 0 0).toNat, by have := (hwf _ (getD_mem hpos)).1; omega⟩
  have hop2 : op < 256 := by have := (hwf _ (getD_mem hpos)).2; omega
  have c0 := hc 0 hpos
  rw [hop, Nat.add_zero] at c0
  have hI := fun w => info_any op w hop2
  have c0' : ∀ o, (w.alloc o).cell? ⟨b, off, none⟩ = some (.int .u8 op) := fun o => by rw [World.cell?_alloc_old _ _ _ (by show b ≠ w.heap.size; omega)]; exact c0
  have hWi := opWi_le op
  have hWc := opWi_cases op
  have hMo := opMo_lt op
  cases hb : isOp op
  · have HV : Hid (rdV zs = (0, 0, 0, 70)) := by rw [Hid, rdV, hop, Int.toNat_natCast, if_pos hb]
    rw [hb] at hI
    generalize opWd op = a0 at *
    generalize opWi op = a1 at *
    generalize opMo op = a2 at *
    generalize opTa op = a3 at *
    generalize opGi op = a4 at *
    generalize opKi op = a5 at *
    have hlI : (0 : Int) < (zs.length : Int) := by omega
    clear hb hMo hc hwf c0 hWi hWc
    go_enter Tryd.func80, Tryd.ntmps80
    go_wp2_with (first | (go_at_call 46; refine (hI _).mono ?_; rintro e w1 ⟨rfl, hq1⟩) | (refine wpList_store_row rfl _ _ _ rfl w.heap.size _ (rdA (0, 0, 0, 70)) rfl rfl (hpR hq1 _) (by rw [infoRd]; rfl) rfl (rd_all _) ?_))
    exact bodyPost_ret (rdRes _ w.heap.size (rdA (0, 0, 0, 70)) rfl (setRow_heap _ _ _ _ _ _ (hpR hq1 _)) _ rfl) rfl ⟨by rw [HV.out], below_setRow (bel (bt (bel (Below.refl _ _)) hq1)) (Nat.le_refl _) _⟩
  · rw [hb] at hI
    have hlI : (0 : Int) < (zs.length : Int) := by omega
    have hlI1 : (1 : Int) ≤ (zs.length : Int) := by omega
    have hfz : ∀ W : World, Below w.heap.size w W → Calls Tryd.prog 92 #[.slice (if cap = 1 then some (⟨b, off, none⟩ : Addr) else some ⟨b, off + 1, none⟩) (zs.length - 1) (cap - 1), .int .i64 (opWi op)] W fun e w' => e = .returned (.tuple #[.int .u32 (atv (opWi op) (zs.drop 1) 0), .int .i64 (ate (opWi op) (zs.length - 1) 0)]) ∧ w' = W := by
      intro W hW
      have h1 : (zs.drop 1).length = zs.length - 1 := by simp
      rw [← h1]
      refine opd_any _ _ _ _ _ hWc (by omega) (by omega) (fun z hz => hwf z (List.mem_of_mem_drop hz)) ?_
      intro hp
      have hcap : ¬ cap = 1 := by omega
      rw [if_neg hcap]
      refine ⟨b, off + 1, rfl, Nat.lt_of_lt_of_le hbl hW.size, fun j hj => ?_⟩
      have hj' : j + 1 < zs.length := by omega
      have := hc (j + 1) hj'
      rw [(hW.cell (p := ⟨b, off + 1 + j, none⟩) hbl), Nat.add_assoc, Nat.add_comm 1 j, this]
      simp [List.getD]
    have hxr := atv_range (opWi op) (zs.drop 1) 0 (fun z hz => hwf z (List.mem_of_mem_drop hz))
    have hx0 : atv (opWi op) (zs.drop 1) 0 = if zs.length < 1 + opWi op then 0 else num ((zs.drop 1).take (opWi op)) := by
      unfold atv
      rw [List.length_drop]
      by_cases hl : zs.length < 1 + opWi op
      · rw [if_pos hl, if_neg (by omega)]
      · rw [if_neg hl, if_pos (by omega)]; rfl
    have he0 : ate (opWi op) (zs.length - 1) 0 = if zs.length < 1 + opWi op then 20 else 0 := by
      unfold ate
      by_cases hl : zs.length < 1 + opWi op
      · rw [if_pos hl, if_neg (by omega)]
      · rw [if_neg hl, if_pos (by omega)]
    obtain ⟨x, hx⟩ : ∃ x : Nat, atv (opWi op) (zs.drop 1) 0 = x := ⟨(atv (opWi op) (zs.drop 1) 0).toNat, by omega⟩
    rw [hx] at hx0 hfz
    have HV : Hid (rdV zs = if zs.length < 1 + opWi op then (0, 0, 0, 72) else if opMo op < x then (0, 0, 0, 71) else (op, x, 1 + opWi op, 0)) := by
      rw [Hid, rdV, hop, Int.toNat_natCast, if_neg (by simp [hb])]
      by_cases hl : zs.length < 1 + opWi op
      · rw [if_pos hl, if_pos hl]
      · rw [if_neg hl] at hx0
        rw [if_neg hl, if_neg hl, ← hx0, Int.toNat_natCast]
    rw [he0] at hfz
    clear hx hx0 hxr he0 hb hc hwf c0
    generalize opWd op = a0 at *
    generalize opWi op = a1 at *
    generalize opMo op = a2 at *
    generalize opTa op = a3 at *
    generalize opGi op = a4 at *
    generalize opKi op = a5 at *
    obtain ⟨ad, hif⟩ : ∃ ad, (if cap = 1 then some (⟨b, off, none⟩ : Addr) else some ⟨b, off + 1, none⟩) = some ad := by split <;> exact ⟨_, rfl⟩
    rw [hif] at hfz
    by_cases hl : zs.length < 1 + a1
    · rw [Hid, if_pos hl] at HV
      rw [if_pos hl] at hfz
      clear hl hMo
      go_enter Tryd.func80, Tryd.ntmps80
      go_wp2_with (go_at_call 46; refine (hI _).mono ?_; rintro e w1 ⟨rfl, hq1⟩)
      have R1 : Below w.heap.size w w1 := bt (bel (Below.refl _ _)) hq1
      have HB : Below (w1.alloc (.cells #[.string a0, .int .i64 a1, .int .u32 a2, .int .i64 a3, .int .i64 a4, .int .u8 a5] 91)).heap.size (w1.alloc (.cells #[.string a0, .int .i64 a1, .int .u32 a2, .int .i64 a3, .int .i64 a4, .int .u8 a5] 91)) (w1.alloc (.cells #[.string a0, .int .i64 a1, .int .u32 a2, .int .i64 a3, .int .i64 a4, .int .u8 a5] 91)) := Below.refl _ _
      go_region_held3 (fun w' => w'.cell? ⟨w1.heap.size, 1, none⟩ = some (.int .i64 a1)) ((refine gS (cs := #[.string a0, .int .i64 a1, .int .u32 a2, .int .i64 a3, .int .i64 a4, .int .u8 a5]) (t := 91) ?_ 1 _ rfl; (repeat (first | exact HB | exact Below.refl _ _ | with_reducible refine Below.drew ?_)))) (first
        | (go_at_call 92; with_reducible refine (hfz _ (bt3 R1 HB (by (repeat (first | exact HB | exact Below.refl _ _ | with_reducible refine Below.drew ?_))))).mono ?_; rintro e wq ⟨rfl, hq⟩; subst wq))
      clear hfz hI
      go_wp2_with (refine wpList_store_row rfl _ _ _ rfl w.heap.size _ (rdA (0, 0, 0, 72)) rfl rfl (hpR hq1 _) (by rw [infoRd]; rfl) rfl (rd_all _) ?_)
      exact bodyPost_ret (rdRes _ w.heap.size (rdA (0, 0, 0, 72)) rfl (setRow_heap (w1.alloc _).drew w.heap.size _ _ _ _ (hpR hq1 _)) _ rfl) rfl ⟨by rw [HV], below_setRow (Below.drew (bel R1)) (Nat.le_refl _) _⟩
    rw [if_neg hl] at hfz
    rw [Hid, if_neg hl] at HV
    by_cases hm : a2 < x
    · rw [if_pos hm] at HV
      have hm' : (a2 : Int) < (x : Int) := by omega
      clear hl hMo hm
      go_enter Tryd.func80, Tryd.ntmps80
      go_wp2_with (go_at_call 46; refine (hI _).mono ?_; rintro e w1 ⟨rfl, hq1⟩)
      have R1 : Below w.heap.size w w1 := bt (bel (Below.refl _ _)) hq1
      have HB : Below (w1.alloc (.cells #[.string a0, .int .i64 a1, .int .u32 a2, .int .i64 a3, .int .i64 a4, .int .u8 a5] 91)).heap.size (w1.alloc (.cells #[.string a0, .int .i64 a1, .int .u32 a2, .int .i64 a3, .int .i64 a4, .int .u8 a5] 91)) (w1.alloc (.cells #[.string a0, .int .i64 a1, .int .u32 a2, .int .i64 a3, .int .i64 a4, .int .u8 a5] 91)) := Below.refl _ _
      go_region_held3 (fun w' => w'.cell? ⟨w1.heap.size, 1, none⟩ = some (.int .i64 a1)) ((refine gS (cs := #[.string a0, .int .i64 a1, .int .u32 a2, .int .i64 a3, .int .i64 a4, .int .u8 a5]) (t := 91) ?_ 1 _ rfl; (repeat (first | exact HB | exact Below.refl _ _ | with_reducible refine Below.drew ?_)))) (first
        | (go_at_call 92; with_reducible refine (hfz _ (bt3 R1 HB (by (repeat (first | exact HB | exact Below.refl _ _ | with_reducible refine Below.drew ?_))))).mono ?_; rintro e wq ⟨rfl, hq⟩; subst wq))
      clear hfz hI
      go_wp2_with (refine wpList_store_row rfl _ _ _ rfl w.heap.size _ (rdA (0, 0, 0, 71)) rfl rfl (hpR hq1 _) (by rw [infoRd]; rfl) rfl (rd_all _) ?_)
      exact bodyPost_ret (rdRes _ w.heap.size (rdA (0, 0, 0, 71)) rfl (setRow_heap (w1.alloc _).drew w.heap.size _ _ _ _ (hpR hq1 _)) _ rfl) rfl ⟨by rw [HV], below_setRow (Below.drew (bel R1)) (Nat.le_refl _) _⟩
    · rw [if_neg hm] at HV
      have hm' : ¬ (a2 : Int) < (x : Int) := by omega
      have hwr : wrap64 (1 + (a1 : Int)) = 1 + a1 := by unfold wrap64; omega
      clear hl hMo hm
      go_enter Tryd.func80, Tryd.ntmps80
      go_wp2_with (go_at_call 46; refine (hI _).mono ?_; rintro e w1 ⟨rfl, hq1⟩)
      have R1 : Below w.heap.size w w1 := bt (bel (Below.refl _ _)) hq1
      have HB : Below (w1.alloc (.cells #[.string a0, .int .i64 a1, .int .u32 a2, .int .i64 a3, .int .i64 a4, .int .u8 a5] 91)).heap.size (w1.alloc (.cells #[.string a0, .int .i64 a1, .int .u32 a2, .int .i64 a3, .int .i64 a4, .int .u8 a5] 91)) (w1.alloc (.cells #[.string a0, .int .i64 a1, .int .u32 a2, .int .i64 a3, .int .i64 a4, .int .u8 a5] 91)) := Below.refl _ _
      go_region_held3 (fun w' => w'.cell? ⟨w1.heap.size, 1, none⟩ = some (.int .i64 a1)) ((refine gS (cs := #[.string a0, .int .i64 a1, .int .u32 a2, .int .i64 a3, .int .i64 a4, .int .u8 a5]) (t := 91) ?_ 1 _ rfl; (repeat (first | exact HB | exact Below.refl _ _ | with_reducible refine Below.drew ?_)))) (first
        | (go_at_call 92; with_reducible refine (hfz _ (bt3 R1 HB (by (repeat (first | exact HB | exact Below.refl _ _ | with_reducible refine Below.drew ?_))))).mono ?_; rintro e wq ⟨rfl, hq⟩; subst wq))
      clear hfz hI
      go_wp2_with (refine wpList_store_row rfl _ _ _ rfl w.heap.size _ (rdA (op, x, 1 + a1, 0)) rfl rfl (hpR hq1 _) (by rw [infoRd]; rfl) rfl (rd_all _) ?_)
      exact bodyPost_ret (rdRes _ w.heap.size (rdA (op, x, 1 + a1, 0)) rfl (setRow_heap (w1.alloc _).drew w.heap.size _ _ _ _ (hpR hq1 _)) _ rfl) rfl ⟨by rw [HV], below_setRow (Below.drew (bel R1)) (Nat.le_refl _) _⟩
end Go.Proofs.YtnplimdcfbgpeaaDoor
