import Derived.Test.YtdpghhkimnifjaaCZAw
namespace Go.Proofs.Ytdpghhkimnifjaa
open Go.RowKit Go.WideShapes Go.Shelf
set_option maxRecDepth 100000

def tnP (L O : List (Nat × Nat)) (a e i : Nat) : Nat × Nat := if (i < a ∨ e ≤ i) ∧ i < O.length then O.getD i (0, 0) else L.getD i (0, 0)
def tnL (L O : List (Nat × Nat)) (a e k : Nat) : List (Nat × Nat) := (List.range k).map (tnP L O a e)
theorem tnL_len (L O : List (Nat × Nat)) (a e k : Nat) : (tnL L O a e k).length = k := by simp [tnL]
theorem tnL_succ (L O : List (Nat × Nat)) (a e k : Nat) : tnL L O a e (k + 1) = tnL L O a e k ++ [tnP L O a e k] := by simp [tnL, List.range_succ]
theorem tnL_get {L O : List (Nat × Nat)} {a e k i : Nat} (h : i < k) : (tnL L O a e k)[i]? = some (tnP L O a e i) := by simp [tnL, h]
theorem tnL_wf {L O : List (Nat × Nat)} (hL : Wfc L) (hO : Wfc O) (a e k : Nat) (hk : k ≤ L.length) : Wfc (tnL L O a e k) := by
  intro p hp
  simp only [tnL, List.mem_map, List.mem_range] at hp
  obtain ⟨i, hi, rfl⟩ := hp
  unfold tnP
  split
  · rename_i h; exact hO.at h.2
  · exact hL.at (by omega)
theorem tnL_mid {L O : List (Nat × Nat)} {a e : Nat} (he : e ≤ L.length) : ((tnL L O a e L.length).drop a).take (e - a) = (L.drop a).take (e - a) := by
  apply List.ext_getElem?
  intro i
  by_cases hi : i < e - a
  · rw [List.getElem?_take_of_lt hi, List.getElem?_take_of_lt hi, List.getElem?_drop, List.getElem?_drop, tnL_get (by omega)]
    unfold tnP
    rw [if_neg (by omega), List.getD_eq_getElem?_getD, List.getElem?_eq_getElem (by omega)]
    rfl
  · rw [List.getElem?_eq_none (by rw [List.length_take]; omega), List.getElem?_eq_none (by rw [List.length_take]; omega)]
theorem tnL_E (L O : List (Nat × Nat)) (a e : Nat) : flE (tnL L O a e L.length) a e = flE L a e := by
  show lnE _ _ _ = lnE _ _ _
  unfold lnE
  rw [tnL_len]
  by_cases h : a < e ∧ e ≤ L.length
  · rw [if_pos h, if_pos h, List.getD_eq_getElem?_getD, tnL_get (by omega)]
    unfold tnP
    rw [if_neg (by omega)]
    rfl
  · rw [if_neg h, if_neg h]
theorem tnL_V (L O : List (Nat × Nat)) (a e : Nat) : flV (tnL L O a e L.length) a e = flV L a e := by
  unfold flV
  rw [tnL_E]
  by_cases h : flE L a e = 0
  · rw [if_pos h, if_pos h, tnL_mid]
    exact Decidable.byContradiction fun hn => by
      have : flE L a e = 2 := if_neg (fun q => hn q.2)
      rw [this] at h
      cases h
  · rw [if_neg h, if_neg h]
structure ApW (w : World) (L O : List (Nat × Nat)) (a e k : Nat) (v : Value) (W : World) : Prop where
  own : W.ownsRow w.heap.size 36 2 v k (cv (tnL L O a e k))
  bel : Below w.heap.size w W
theorem grown_below3Z {B e sz : Nat} {a w w' : World} {xs : List Value} {v : Value} {n : Nat} (h : Below B a w) (hB : B ≤ w.heap.size) (hown : w.ownsRow B e sz v n xs) (hg : w.grownBy w' v.ownBlock) : Below B a w' :=
  h.trans (Kp.below (S := fun k => B ≤ k) (Kp.ofGrown hg (fun i hi _ => by
    rcases hown.2 with ⟨rfl, _⟩ | ⟨g, cap, cur, rfl, hh, _⟩
    · cases hi
    · cases hi; exact hh)) hB (fun i e => e))
theorem sizeDIz : (Try.prog.info? 36).map (·.size) = some 2 := by kernel_rfl
theorem own_anyZ {w : World} {B e sz n : Nat} {v : Value} {xs : List Value} (h : w.ownsRow B e sz v n xs) : ∃ a c, v = .slice a n c := by
  rcases h.2 with ⟨rfl, rfl⟩ | ⟨g, cap, cur, rfl, _⟩
  · exact ⟨_, _, rfl⟩
  · exact ⟨_, _, rfl⟩
theorem ApW.newi {w : World} {L O : List (Nat × Nat)} {a e k : Nat} {v : Value} {W : World} (h : ApW w L O a e k v W) (cs : Array Value) : ApW w L O a e k v (W.alloc (.cells cs 36)) :=
  ⟨h.own.alloc _, h.bel.alloc h.bel.size _⟩
theorem ApW.seti {w : World} {L O : List (Nat × Nat)} {a e k : Nat} {v : Value} {W : World} (h : ApW w L O a e k v W) (cs cs' : Array Value) : ApW w L O a e k v ((W.alloc (.cells cs 36)).setRow W.heap.size cs') := by
  have hk := KpSetRow (S := fun i => i = W.heap.size) (W.alloc (.cells cs 36)) W.heap.size cs' rfl
  have hz := h.bel.size
  exact ⟨hk.own (h.own.alloc _) (fun j e q => by have := (h.own.lt j e).2; omega), (h.newi cs).bel.trans (hk.below (by simp; omega) (fun i e => by omega))⟩
theorem ap_put {w : World} {L O : List (Nat × Nat)} {a0 e0 k : Nat} {W : World} {ops : Array Oper} {rest : List Oper} {o : Oper} {a : Act} {Q : Exit → Act → World → Prop} {s x : Operand} {v : Value} {q0 q1 nb : Nat} {t0 : TypeId} (hnb : W.heap.size = nb)
    (H : ApW w L O a0 e0 k v W) (hgd : o.guard = none)
    (ho : o.op = .call { callee := .builtin .append, args := #[s, x], argTypes := #[22, 22] })
    (hs : a.eval s = v) (hx : a.eval x = .slice (some ⟨nb, 0, none⟩) 1 1) (hq : tnP L O a0 e0 k = (q0, q1)) (hk : k * 8 + 8 ≤ 140737488355328)
    (h : ∀ v' w', ApW w L O a0 e0 (k + 1) v' w' → wpList Try.prog ops Q rest (a.put o.dst v') w') : wpList Try.prog ops Q (o :: rest) a (W.alloc (.cells #[.int .u8 (q0 : Int), .int .u32 (q1 : Int)] t0)) := by
  subst hnb
  have hwz : w.heap.size ≤ W.heap.size := H.bel.size
  obtain ⟨i, hi, hz0, hz1, hz2⟩ := infoDI
  refine wpList_append_own _ hgd s x 22 ho w.heap.size 36 i (.agg #[.int .u8 0, .int .u32 0]) 2 8 Try.underlying22 hi hz0 hz1 hz2 rfl (by decide) v k _ hs (H.own.alloc _) ⟨W.heap.size, 0, none⟩ 1 1 [.int .u8 (q0 : Int), .int .u32 (q1 : Int)] hx rfl ?_ ?_ (by unfold maxLen; omega) (by omega) (by simp; omega) (fun v' w' h1 h2 _ => h v' w' ⟨?_, ?_⟩)
  · intro j u hj
    have hb := heap_alloc_new W (.cells #[.int .u8 (q0 : Int), .int .u32 (q1 : Int)] t0)
    match j, hj with
    | 0, hj => simp at hj; subst hj; exact obj_cell hb 0
    | 1, hj => simp at hj; subst hj; exact obj_cell hb 1
  · intro u hu; simp at hu; rcases hu with rfl | rfl <;> rfl
  · rw [tnL_succ, hq]
    have : cv (tnL L O a0 e0 k ++ [(q0, q1)]) = cv (tnL L O a0 e0 k) ++ [.int .u8 (q0 : Int), .int .u32 (q1 : Int)] := by simp [cv]
    rw [this]
    exact h1
  · exact grown_below3Z (H.bel.alloc hwz _) (by simp; omega) (H.own.alloc _) h2
set_option maxHeartbeats 8000000 in
theorem apart_law (ao bo : Option Addr) (ca cb a e : Nat) (L O : List (Nat × Nat)) (w : World) (hn : L.length * 8 ≤ 140737488351232) (hn2 : O.length * 8 ≤ 140737488351232) (hcap : L.length ≤ ca) (ha : a < 4294967296) (he : e < 4294967296)
    (hwf : Wfc L) (hwo : Wfc O) (hr : CRd w ao L w.heap.size) (ho : CRd w bo O w.heap.size) :
    Calls Try.prog 5 #[.slice ao L.length ca, .slice bo O.length cb, .int .u32 (a : Int), .int .u32 (e : Int)] w fun x w' => x = .returned (.bool true) ∧ Below w.heap.size w w' := by
  have HA := dhid (fun w' => zawake_any w')
  have HR := dhid hr
  have HO := dhid ho
  have HLN := dhid (fun (M : List (Nat × Nat)) (mo : Option Addr) (cm : Nat) (W : World) (h1 : M.length ≤ 9223372036854775807) (h2 : M.length ≤ cm) (h3 : Wfc M) (h4 : CRd W mo M W.heap.size) => flongest_any mo cm a e M W h1 h2 ha he h3 h4)
  clear hr ho
  go_enter Try.func5, Try.ntmps5
  go_wp2_with fail
  with_reducible refine (HA.out _).mono ?_
  rintro x w1 ⟨rfl, R1⟩
  clear HA
  have H0 : Hid (ApW w L O a e 0 (.slice none 0 0) w1) := dhid ⟨World.ownsRow_nil _ _ _ _, R1⟩
  go_wp2_with fail
  go_loopw [9, 10] (fun u v wr => ∃ (k : Nat) (ax : Option Addr) (cx : Nat), u = .slice ax k cx ∧ v = .int .i64 (k : Int) ∧ k ≤ L.length ∧ Hid (ApW w L O a e k (.slice ax k cx) wr)) (fun _ v _ => L.length - (intOf v).toNat)
  case atStart => exact ⟨0, none, 0, rfl, rfl, Nat.zero_le _, H0⟩
  case round =>
    clear H0
    obtain ⟨k, ax, cx, rfl, rfl, hk, H⟩ := hrel
    by_cases hlt : k < L.length
    · have hltI : (k : Int) < (L.length : Int) := by omega
      have hkn : k * 8 + 8 ≤ 140737488355328 := by omega
      have hwz : w.heap.size ≤ wr.heap.size := H.out.bel.size
      obtain ⟨b, off, rfl, hbl, hc⟩ := HR.out (by omega)
      have x0 := (H.out.bel.cell (p := ⟨b, off + k * 2, none⟩) hbl).trans (hc k hlt).1
      have x1 := (H.out.bel.cell (p := ⟨b, off + k * 2 + 1, none⟩) hbl).trans (hc k hlt).2
      have HBA := dhid (H.out.bel.alloc hwz (.cells #[.int .u8 (L.getD k (0, 0)).1, .int .u32 (L.getD k (0, 0)).2] 36))
      generalize hpp : L.getD k (0, 0) = pp at *
      obtain ⟨op, arg⟩ := pp
      simp only at x0 x1 HBA
      clear hbl hc
      by_cases hA : k < a
      · by_cases hM : k < O.length
        · have hE : True := trivial
          have fA : (k : Int) < (a : Int) := by omega
          have fM : (k : Int) < (O.length : Int) := by omega
          obtain ⟨c, offc, rfl, hcl, hcc⟩ := HO.out (by omega)
          have y0 := dhid (fun (W : World) (hW : Below w.heap.size w W) => (hW.cell (p := ⟨c, offc + k * 2, none⟩) hcl).trans (hcc k hM).1)
          have y1 := dhid (fun (W : World) (hW : Below w.heap.size w W) => (hW.cell (p := ⟨c, offc + k * 2 + 1, none⟩) hcl).trans (hcc k hM).2)
          have hq : tnP L O a e k = O.getD k (0, 0) := if_pos ⟨by omega, hM⟩
          clear hcl hcc
          generalize O.getD k (0, 0) = pp at y0 y1 hq
          obtain ⟨p0, p1⟩ := pp
          have u0 := y0.out _ HBA.out
          have u1 := y1.out _ HBA.out
          have HQ := dhid hq
          clear hq hA hE hM hlt hk hpp
          have hb0 := dhid (heap_alloc_new wr (.cells #[.int .u8 (op : Int), .int .u32 (arg : Int)] 36))
          go_wp2_with (first
            | (refine wpList_store_rowD rfl _ _ _ rfl wr.heap.size #[.int .u8 (op : Int), .int .u32 (arg : Int)] #[.int .u8 (p0 : Int), .int .u32 (p1 : Int)] rfl rfl hb0.out (by rw [sizeDIz]; rfl) rfl (by simp [Value.oneCell']) ?_
               have hb1 := setRow_heap _ wr.heap.size _ #[.int .u8 (p0 : Int), .int .u32 (p1 : Int)] _ _ hb0.out
               have ow1 := dhid (ApW.seti H.out #[.int .u8 (op : Int), .int .u32 (arg : Int)] #[.int .u8 (p0 : Int), .int .u32 (p1 : Int)])
               generalize (wr.alloc (Obj.cells #[.int .u8 (op : Int), .int .u32 (arg : Int)] 36)).setRow wr.heap.size #[.int .u8 (p0 : Int), .int .u32 (p1 : Int)] = W1 at *
               have z0 := obj_cell hb1 0
               have z1 := obj_cell hb1 1)
            | (at_builtin; refine ap_put rfl ow1.out rfl rfl rfl rfl HQ.out (by omega) ?_; intro v' w' hN; obtain ⟨a9, c9, rfl⟩ := own_anyZ hN.own; replace hN := dhid hN))
          go_roundw
          case rel => exact ⟨k + 1, a9, c9, rfl, by go_num, by omega, hN⟩
          case measure => simp [intOf]; omega
        · have hE : True := trivial
          have fA : (k : Int) < (a : Int) := by omega
          have fM : ¬ (k : Int) < (O.length : Int) := by omega
          have hq : tnP L O a e k = L.getD k (0, 0) := if_neg (by omega)
          rw [hpp] at hq
          have HQ := dhid hq
          clear hq hA hE hM hlt hk hpp
          have ow1 := dhid (ApW.newi H.out #[.int .u8 (op : Int), .int .u32 (arg : Int)])
          go_wp2_with (at_builtin; refine ap_put (by simp : _ = wr.heap.size + 1) ow1.out rfl rfl rfl rfl HQ.out (by omega) ?_; intro v' w' hN; obtain ⟨a9, c9, rfl⟩ := own_anyZ hN.own; replace hN := dhid hN)
          go_roundw
          case rel => exact ⟨k + 1, a9, c9, rfl, by go_num, by omega, hN⟩
          case measure => simp [intOf]; omega
      · by_cases hE : e ≤ k
        · by_cases hM : k < O.length
          · have fA : ¬ (k : Int) < (a : Int) := by omega
            have fE : (e : Int) ≤ (k : Int) := by omega
            have fM : (k : Int) < (O.length : Int) := by omega
            obtain ⟨c, offc, rfl, hcl, hcc⟩ := HO.out (by omega)
            have y0 := dhid (fun (W : World) (hW : Below w.heap.size w W) => (hW.cell (p := ⟨c, offc + k * 2, none⟩) hcl).trans (hcc k hM).1)
            have y1 := dhid (fun (W : World) (hW : Below w.heap.size w W) => (hW.cell (p := ⟨c, offc + k * 2 + 1, none⟩) hcl).trans (hcc k hM).2)
            have hq : tnP L O a e k = O.getD k (0, 0) := if_pos ⟨by omega, hM⟩
            clear hcl hcc
            generalize O.getD k (0, 0) = pp at y0 y1 hq
            obtain ⟨p0, p1⟩ := pp
            have u0 := y0.out _ HBA.out
            have u1 := y1.out _ HBA.out
            have HQ := dhid hq
            clear hq hA hE hM hlt hk hpp
            have hb0 := dhid (heap_alloc_new wr (.cells #[.int .u8 (op : Int), .int .u32 (arg : Int)] 36))
            go_wp2_with (first
              | (refine wpList_store_rowD rfl _ _ _ rfl wr.heap.size #[.int .u8 (op : Int), .int .u32 (arg : Int)] #[.int .u8 (p0 : Int), .int .u32 (p1 : Int)] rfl rfl hb0.out (by rw [sizeDIz]; rfl) rfl (by simp [Value.oneCell']) ?_
                 have hb1 := setRow_heap _ wr.heap.size _ #[.int .u8 (p0 : Int), .int .u32 (p1 : Int)] _ _ hb0.out
                 have ow1 := dhid (ApW.seti H.out #[.int .u8 (op : Int), .int .u32 (arg : Int)] #[.int .u8 (p0 : Int), .int .u32 (p1 : Int)])
                 generalize (wr.alloc (Obj.cells #[.int .u8 (op : Int), .int .u32 (arg : Int)] 36)).setRow wr.heap.size #[.int .u8 (p0 : Int), .int .u32 (p1 : Int)] = W1 at *
                 have z0 := obj_cell hb1 0
                 have z1 := obj_cell hb1 1)
              | (at_builtin; refine ap_put rfl ow1.out rfl rfl rfl rfl HQ.out (by omega) ?_; intro v' w' hN; obtain ⟨a9, c9, rfl⟩ := own_anyZ hN.own; replace hN := dhid hN))
            go_roundw
            case rel => exact ⟨k + 1, a9, c9, rfl, by go_num, by omega, hN⟩
            case measure => simp [intOf]; omega
          · have fA : ¬ (k : Int) < (a : Int) := by omega
            have fE : (e : Int) ≤ (k : Int) := by omega
            have fM : ¬ (k : Int) < (O.length : Int) := by omega
            have hq : tnP L O a e k = L.getD k (0, 0) := if_neg (by omega)
            rw [hpp] at hq
            have HQ := dhid hq
            clear hq hA hE hM hlt hk hpp
            have ow1 := dhid (ApW.newi H.out #[.int .u8 (op : Int), .int .u32 (arg : Int)])
            go_wp2_with (at_builtin; refine ap_put (by simp : _ = wr.heap.size + 1) ow1.out rfl rfl rfl rfl HQ.out (by omega) ?_; intro v' w' hN; obtain ⟨a9, c9, rfl⟩ := own_anyZ hN.own; replace hN := dhid hN)
            go_roundw
            case rel => exact ⟨k + 1, a9, c9, rfl, by go_num, by omega, hN⟩
            case measure => simp [intOf]; omega
        · have hM : True := trivial
          have fA : ¬ (k : Int) < (a : Int) := by omega
          have fE : ¬ (e : Int) ≤ (k : Int) := by omega
          have hq : tnP L O a e k = L.getD k (0, 0) := if_neg (by omega)
          rw [hpp] at hq
          have HQ := dhid hq
          clear hq hA hE hM hlt hk hpp
          have ow1 := dhid (ApW.newi H.out #[.int .u8 (op : Int), .int .u32 (arg : Int)])
          go_wp2_with (at_builtin; refine ap_put (by simp : _ = wr.heap.size + 1) ow1.out rfl rfl rfl rfl HQ.out (by omega) ?_; intro v' w' hN; obtain ⟨a9, c9, rfl⟩ := own_anyZ hN.own; replace hN := dhid hN)
          go_roundw
          case rel => exact ⟨k + 1, a9, c9, rfl, by go_num, by omega, hN⟩
          case measure => simp [intOf]; omega
    · have hltI : ¬ (k : Int) < (L.length : Int) := by omega
      have hkq : k = L.length := by omega
      subst hkq
      have own : wr.ownsRow w.heap.size 36 2 (.slice ax L.length cx) (tnL L O a e L.length).length (cv (tnL L O a e L.length)) := by rw [tnL_len]; exact H.out.own
      obtain ⟨a9, c9, e9, hc9, hr9⟩ := own_crdD own
      rw [tnL_len] at e9
      cases e9
      have z0 := H.out.bel.size
      have C1 := HLN.out L ao ca wr (by omega) hcap hwf ((HR.out.below H.out.bel).mono z0)
      have C2 := dhid (fun W (hW : Below wr.heap.size wr W) => HLN.out (tnL L O a e L.length) ax cx W (by rw [tnL_len]; omega) hc9 (tnL_wf hwf hwo a e _ (Nat.le_refl _)) ((hr9.below hW).mono hW.size))
      rw [tnL_E, tnL_V, tnL_len] at C2
      generalize flV L a e = f at C1 C2
      generalize flE L a e = er at C1 C2
      obtain ⟨f0, f1, f2, f3, f4, f5⟩ := f
      simp only [fzA] at C1 C2
      have HB := dhid H.out.bel
      clear own hc9 hr9 HLN H HR HO
      go_wp2_with fail
      refine C1.mono ?_
      rintro x w2 ⟨rfl, hb2⟩
      clear C1
      have C3 := dhid (fun o => C2.out (w2.alloc o) (hb2.alloc hb2.size o))
      have HB2 := dhid (HB.out.trans (hb2.mono z0))
      clear C2 HB
      go_wp2_with fail
      refine (C3.out _).mono ?_
      rintro x w3 ⟨rfl, hb3⟩
      have hz2 := HB2.out.size
      have HB3 := dhid ((HB2.out.alloc hz2 (.cells #[.int .u32 (f0 : Int), .int .u32 (f1 : Int), .int .u8 (f2 : Int), .int .u8 (f3 : Int), .int .u32 (f4 : Int), .int .u32 (f5 : Int)] 30)).trans (hb3.mono (by simp; omega)))
      have o3 := (hb3.block w2.heap.size (by simp)).trans (heap_alloc_new w2 (.cells #[.int .u32 (f0 : Int), .int .u32 (f1 : Int), .int .u8 (f2 : Int), .int .u8 (f3 : Int), .int .u32 (f4 : Int), .int .u32 (f5 : Int)] 30))
      obtain ⟨e0, e1, e2, e3, e4, e5⟩ := fz_cells (f := ⟨f0, f1, f2, f3, f4, f5⟩) o3
      simp only at e0 e1 e2 e3 e4 e5
      have hl3 : w2.heap.size < w3.heap.size := (Array.getElem?_eq_some_iff.1 o3).1
      clear C3 o3
      have HB4 := dhid (fun o => HB3.out.alloc HB3.out.size o)
      go_wp2_with fail
      go_ret
      exact ⟨rfl, HB4.out _⟩
end Go.Proofs.Ytdpghhkimnifjaa
