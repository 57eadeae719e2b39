import Derived.Test.YtncankiaobioaaaDoorFDec
namespace Go.Proofs.YtncankiaobioaaaDoor
open Go.RowKit
set_option maxRecDepth 100000
theorem Tryd.infoB : (Tryd.prog.info? 5).map (fun i => (i.zero, i.size, i.bytes)) = some (some (.int .u8 0), 1, 1) := by kernel_rfl
theorem Tryd.infoW : (Tryd.prog.info? 22).map (fun i => (i.zero, i.size, i.bytes)) = some (some (.int .u32 0), 1, 4) := by kernel_rfl
theorem hid_mk {p : Prop} (h : p) : Hid p := h
theorem cell_alloc (w : World) (o : Obj) (p : Addr) (h : p.block < w.heap.size) : (w.alloc o).cell? p = w.cell? p := ((Below.refl w.heap.size w).alloc (Nat.le_refl _) o).cell h
theorem ownsRow_fm {w : World} {base size n : Nat} {e : TypeId} {v : Value} {xs : List Value} (h : w.ownsRow base e size v n xs) (hn : 0 < n) : ∃ g cap, v = .slice (some ⟨g, 0, none⟩) n cap := by
  rcases h.2 with ⟨_, rfl⟩ | ⟨g, cap, cur, rfl, _⟩
  · omega
  · exact ⟨g, cap, rfl⟩
def bvs (L : List Int) : List Value := L.map (Value.int .u8)
set_option maxRecDepth 100000 in
set_option maxHeartbeats 2000000 in
theorem decimal_any (av : Value) (V : Nat) (w : World) (hV : V < 4294967296) (ha : AV w av V) :
    Calls Tryd.prog 16 #[av] w fun e w' => e = .returned (.string ⟨(Lib.decDigits V).toArray⟩) ∧ Below w.heap.size w w' := by
  obtain ⟨i0, hi, hz0, hz1, hz2⟩ := info_parts Tryd.infoB
  obtain ⟨j0, hj, hy0, hy1, hy2⟩ := info_parts Tryd.infoW
  go_enter Tryd.func16, Tryd.ntmps16
  go_wp2
  go_loopg [0, 3] V (fun v av ov wr => ∃ L : List Int, AV wr av v ∧ (L = [] → ov = .slice none 0 0) ∧ wr.ownsRow w.heap.size 5 1 ov L.length (bvs L) ∧ L.length + v ≤ V ∧ v < 4294967296 ∧ (Lib.decDigits V = if v = 0 then (if L = [] then Lib.decDigits 0 else bts L) else Lib.decDigits v ++ bts L) ∧ Below w.heap.size w wr)
  case atStart =>
    refine ⟨[], ha, fun _ => rfl, World.ownsRow_nil _ _ _ _, by simp, hV, ?_, Below.refl _ _⟩
    by_cases h0 : V = 0
    · subst h0; rfl
    · rw [if_neg h0]; simp [bts]
  case round =>
    clear ha
    obtain ⟨L, hAV, hLn, hown, hlen, hgl, hdec, hB⟩ := hrel
    by_cases hv : gk = 0
    · subst hv
      obtain ⟨ao, c, rfl, -⟩ := hAV
      rw [if_pos rfl] at hdec ⊢
      by_cases hL : L = []
      · subst hL
        obtain rfl := hLn rfl
        have hd0 : Hid (Lib.decDigits V = [48]) := by rw [Hid, hdec, if_pos rfl, Lib.decDigits]; rfl
        clear hdec
        go_wp2
        go_ret
        exact ⟨by rw [hd0.out]; rfl, hB⟩
      · have hLp : 0 < L.length := List.length_pos_iff.2 hL
        obtain ⟨go, co, rfl⟩ := ownsRow_fm hown hLp
        rw [if_neg hL] at hdec
        have HD0 := hid_mk hdec
        have hl0 : ((L.length : Int) == 0) = false := by simp; omega
        have hcv := run_convert_bytes_arg (P := Tryd.prog) wr 52 5 Tryd.underlying52 Tryd.underlying5 go 0 L.length co L rfl (fun i hi => by
          have := hown.cellAt i (by omega)
          rw [Nat.zero_add, this]
          simp [bvs, List.getD, List.getElem?_eq_getElem hi]) 9 Tryd.underlying9
        clear hdec hown
        go_wp2
        go_ret
        exact ⟨by rw [HD0.out]; rfl, hB⟩
    · obtain ⟨ao, c, rfl, hcell⟩ := hAV
      obtain ⟨b, off, rfl, hbl, hc⟩ := hcell hv
      rw [if_neg hv] at hdec ⊢
      have hB0 := hB.size
      have hstp := dec_step gk L hv
      obtain ⟨R, hR⟩ : ∃ R, gk % 10 = R := ⟨_, rfl⟩
      obtain ⟨Q, hQ⟩ : ∃ Q, gk / 10 = Q := ⟨_, rfl⟩
      rw [hR, hQ] at hstp
      have HD : Hid (Lib.decDigits V = if Q = 0 then bts (((48 + R : Nat) : Int) :: L) else Lib.decDigits Q ++ bts (((48 + R : Nat) : Int) :: L)) := by rw [Hid, hdec, hstp]
      have HQ : Hid (Q < gk) := by rw [Hid]; omega
      have HLQ : Hid (L.length + 1 + Q ≤ V) := by rw [Hid]; omega
      have hR1 : R < 10 := by omega
      have hQ1 : Q < 4294967296 := by omega
      have eR : (gk : Int) % 10 = (R : Int) := by omega
      have eQ : (gk : Int) / 10 = (Q : Int) := by omega
      have HL : Hid (L.length ≤ 4294967296) := by rw [Hid]; omega
      clear hstp hdec hR hQ hlen
      go_wp2
      go_loopw [4, 5, 6] (fun r nx i w2 => (i = .int .i64 0 ∧ r = .int .u64 0 ∧ nx = .slice none 0 0 ∧ w2 = wr) ∨ (i = .int .i64 (-1) ∧ r = .int .u64 (R : Int) ∧ ∃ g c', nx = .slice (some ⟨g, 0, none⟩) 1 c' ∧ w2.cell? ⟨g, 0, none⟩ = some (.int .u32 (Q : Int)) ∧ 1 ≤ c' ∧ g < w2.heap.size ∧ Below wr.heap.size wr w2)) (fun _ _ i _ => (intOf i + 1).toNat)
      case atStart => exact Or.inl ⟨rfl, rfl, rfl, rfl⟩
      case round =>
        rcases hrel with ⟨rfl, rfl, rfl, rfl⟩ | ⟨rfl, rfl, g, c', rfl, hg1, hg4, hg2, hg3⟩
        · go_wp2
          go_roundw
          case rel => exact Or.inr ⟨rfl, congrArg (Value.int .u64) eR, _, _, rfl, by simp, by decide, by simp, (Below.refl _ _).alloc (Nat.le_refl _) _⟩
          case measure => simp [intOf]
        · rename World => w2
          have hB2 : Below w.heap.size w w2 := hB.trans (hg3.mono hB0)
          have hown2 := hown.kept (w' := w2) ⟨hg3.os, hg3.tape, hg3.output, hg3.size, fun k hk _ => hg3.block k hk⟩ (row := none) (by cases hv' : Value.ownBlock _ <;> simp)
          have hB2s := hB2.size
          have ownL := World.ownsRow_lit (size := 1) (base := w.heap.size) (e := 5) w2 #[.int .u8 ((48 + R : Nat) : Int)] 1 (by omega) (by decide) rfl
          have e48 : (48 + (R : Int)) % 256 = ((48 + R : Nat) : Int) := by omega
          by_cases hL : L = []
          · subst hL
            obtain rfl := hLn rfl
            have hb3 : Below w.heap.size w (w2.alloc (.cells #[.int .u8 ((48 + R : Nat) : Int)] 5)) := hB2.alloc (by omega) _
            have hgc : (w2.alloc (.cells #[.int .u8 ((48 + R : Nat) : Int)] 5)).cell? ⟨g, 0, none⟩ = some (.int .u32 (Q : Int)) := by rw [cell_alloc w2 _ _ hg2]; exact hg1
            have hgs : g < (w2.alloc (.cells #[.int .u8 ((48 + R : Nat) : Int)] 5)).heap.size := by simp; omega
            have own4 : (w2.alloc (.cells #[.int .u8 ((48 + R : Nat) : Int)] 5)).ownsRow w.heap.size 5 1 (.slice (some ⟨w2.heap.size, 0, none⟩) 1 1) [((48 + R : Nat) : Int)].length (bvs [((48 + R : Nat) : Int)]) := ownL
            by_cases hQ0 : Q = 0
            · subst hQ0
              go_wp2
              go_loop [7] (fun n => n = .int .i64 1 ∨ n = .int .i64 0) (fun n => (intOf n).toNat)
              case atStart => exact Or.inl rfl
              case round =>
                rcases hrel with rfl | rfl
                · go_wp2
                  go_round
                  case rel => exact Or.inr rfl
                  case measure => simp [intOf]
                · go_wp2
                  go_roundg 0
                  case rel => exact ⟨[((48 + R : Nat) : Int)], ⟨_, _, rfl, fun h => absurd rfl h⟩, (fun h => by cases h), own4, by have := HLQ.out; simp only [List.length_cons, List.length_nil] at *; omega, by omega, by rw [HD.out]; rfl, hb3⟩
                  case measure => exact HQ.out
            · have hq : ((Q : Int) == 0) = false := by simp; omega
              go_wp2
              go_loop [7] (fun n => n = .int .i64 1) (fun n => (intOf n).toNat)
              case atStart => rfl
              case round =>
                subst hrel
                go_wp2
                go_roundg Q
                case rel => exact ⟨[((48 + R : Nat) : Int)], ⟨_, _, by rw [if_neg hQ0], fun _ => ⟨_, _, rfl, hgs, hgc⟩⟩, (fun h => by cases h), own4, by have := HLQ.out; simp only [List.length_cons, List.length_nil] at *; omega, hQ1, by rw [HD.out, if_neg hQ0, if_neg hQ0], hb3⟩
                case measure => exact HQ.out
          · have hLp : 0 < L.length := List.length_pos_iff.2 hL
            obtain ⟨go, co, rfl⟩ := ownsRow_fm hown2 hLp
            have hcs : ∀ j u, (bvs L)[j]? = some u → (w2.alloc (.cells #[.int .u8 ((48 + R : Nat) : Int)] 5)).cell? ((⟨go, 0, none⟩ : Addr).add j) = some u := (hown2.alloc _).cells (g := go) rfl
            have HCS := hid_mk hcs
            clear hcs
            go_wp2_with (at_builtin; refine wpList_append_own _ rfl _ _ 52 rfl w.heap.size 5 i0 (.int .u8 0) 1 1 Tryd.underlying52 hi hz0 hz1 hz2 rfl (by decide) _ 1 [.int .u8 ((48 + R : Nat) : Int)] rfl ownL ⟨go, 0, none⟩ L.length co (bvs L) rfl ?d0 HCS.out ?d2 ?d3 ?d4 ?d5 ?_)
            case d0 => simp [bvs]
            case d2 => intro u hu; simp [bvs] at hu; obtain ⟨z, _, rfl⟩ := hu; rfl
            case d3 => have := HL.out; unfold maxLen; omega
            case d4 => have := HL.out; omega
            case d5 => first | omega | (simp; omega)
            intro v3 w3 own3 hgrow _
            have hb3 : Below w.heap.size w w3 := (hB2.alloc (by omega) _).grown hgrow (by simp; omega) (fun k e => by simp [Value.ownBlock] at e; omega)
            have hgc : w3.cell? ⟨g, 0, none⟩ = some (.int .u32 (Q : Int)) := (hgrow.cell_far ⟨g, 0, none⟩ (by simp; omega) (by simp [Value.ownBlock]; omega)).trans (by rw [cell_alloc w2 _ _ hg2]; exact hg1)
            have hgs : g < w3.heap.size := by have := hgrow.size; simp at this; omega
            have own4 : w3.ownsRow w.heap.size 5 1 v3 (((48 + R : Nat) : Int) :: L).length (bvs (((48 + R : Nat) : Int) :: L)) := by
              have := own3
              rw [show 1 + L.length = (((48 + R : Nat) : Int) :: L).length by simp; omega] at this
              exact this
            clear own3 hgrow
            by_cases hQ0 : Q = 0
            · subst hQ0
              go_wp2
              go_loop [7] (fun n => n = .int .i64 1 ∨ n = .int .i64 0) (fun n => (intOf n).toNat)
              case atStart => exact Or.inl rfl
              case round =>
                rcases hrel with rfl | rfl
                · go_wp2
                  go_round
                  case rel => exact Or.inr rfl
                  case measure => simp [intOf]
                · go_wp2
                  go_roundg 0
                  case rel => exact ⟨((48 + R : Nat) : Int) :: L, ⟨_, _, rfl, fun h => absurd rfl h⟩, (fun h => by cases h), own4, by have := HLQ.out; simp only [List.length_cons]; omega, by omega, by rw [HD.out]; rfl, hb3⟩
                  case measure => exact HQ.out
            · have hq : ((Q : Int) == 0) = false := by simp; omega
              go_wp2
              go_loop [7] (fun n => n = .int .i64 1) (fun n => (intOf n).toNat)
              case atStart => rfl
              case round =>
                subst hrel
                go_wp2
                go_roundg Q
                case rel => exact ⟨((48 + R : Nat) : Int) :: L, ⟨_, _, by rw [if_neg hQ0], fun _ => ⟨_, _, rfl, hgs, hgc⟩⟩, (fun h => by cases h), own4, by have := HLQ.out; simp only [List.length_cons]; omega, hQ1, by rw [HD.out, if_neg hQ0, if_neg hQ0], hb3⟩
                case measure => exact HQ.out
end Go.Proofs.YtncankiaobioaaaDoor
