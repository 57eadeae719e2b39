import Derived.Test.YtipgpigcpbckgaaDoorMRdJ
namespace Go.Proofs.YtipgpigcpbckgaaDoor
open Go.RowKit Go.WideShapes Go.Sort Go.Lib
set_option maxRecDepth 100000

theorem conv_ownM {w : World} {B : Nat} {v : Value} {L : List Int} (h : w.ownsRow B 5 1 v L.length (bv L)) : ∀ dst, Tryd.prog.underlying dst = some .string → (convert 22 dst v).run Tryd.prog w = .ok (.string (strOfNums L)) w := by
  intro dst hd
  rcases h.2 with ⟨rfl, h0⟩ | ⟨g, cap, cur, rfl, _⟩
  · have : L = [] := List.eq_nil_of_length_eq_zero h0
    subst this
    exact run_convert_bytes_nil w 22 5 Tryd.underlying22 Tryd.underlying5 0 0 dst hd
  · refine run_convert_bytes_arg w 22 5 Tryd.underlying22 Tryd.underlying5 g 0 L.length cap L rfl (fun i hi => ?_) dst hd
    exact own_cell h hi
theorem undE : ∃ fs, Tryd.prog.underlying 58 = some (.struct fs) := by
  have h : (match Tryd.prog.underlying 58 with | some (.struct _) => true | _ => false) = true := by kernel_rfl
  split at h
  · exact ⟨_, by assumption⟩
  · cases h
theorem infoE : (Tryd.prog.info? 58).map (·.size) = some 2 := by kernel_rfl
/-- an entry that lies in its own block is read whole -/
theorem enRes (t2 : Value) (W : World) (b : Nat) (cs : Array Value) (h6 : cs.size = 2) (hb : W.heap[b]? = some (.cells cs 58)) (tmps : Array Value) (h2 : tmps.getD 2 undef = .pointer (some ⟨b, 0, none⟩)) (h3 : tmps.getD 3 undef = t2) :
    (results Tryd.f47 tmps).run Tryd.prog W = .ok (.tuple #[.agg cs, t2]) W := by
  obtain ⟨fs, hu⟩ := undE
  rw [results_cell_tmp (p := 2) (u := 3) (ty := 58) (by kernel_rfl), h2, h3]
  have := run_loadVar_row (P := Tryd.prog) W b 58 58 cs (0, 0) _ hb hu rfl (by rw [infoE, h6])
  simp only [asAddr, Sem.run_pure, Result.andThen, this]
theorem en_all (s : ByteArray) (x : Int) : (#[Value.string s, Value.int .u32 x] : Array Value).all (·.oneCell') = true :=
  Array.all_eq_true_iff_forall_mem.2 (fun v hv => by simp at hv; rcases hv with rfl | rfl <;> rfl)
def EnPost (n : Nat) (e : Ending) : Prop := ∃ (s : ByteArray) (x sz : Nat), e = .returned (.tuple #[.agg #[.string s, .int .u32 (x : Int)], .int .i64 (sz : Int)]) ∧ sz ≤ n ∧ x < 4294967296 ∧ s.size ≤ 255
set_option maxHeartbeats 2000000 in
theorem readEntry_any (b off cap : Nat) (zs : List Int) (w : World) (hn : zs.length ≤ 1048576) (hcp : zs.length ≤ cap) (hwf : ∀ z ∈ zs, 0 ≤ z ∧ z ≤ 255) (hr : Reads w (some ⟨b, off, none⟩) zs w.heap.size) :
    Calls Tryd.prog 47 #[.slice (some ⟨b, off, none⟩) zs.length cap] w fun e w' => EnPost zs.length e ∧ Below w.heap.size w w' := by
  have hA := fun W (hW : Below w.heap.size w W) => at_u32 (some ⟨b, off, none⟩) cap zs 0 W (by omega) hcp hwf ((hr.below hW).mono hW.size) (by decide) (by decide)
  have hA8 := fun W (hW : Below w.heap.size w W) => at_u8 (some ⟨b, off, none⟩) cap zs 4 W (by omega) hcp hwf ((hr.below hW).mono hW.size) (by decide) (by decide)
  have hr32 := atv_range 4 zs 0 hwf
  have hr8 := atv_range 1 zs 4 hwf
  obtain ⟨x, hx⟩ : ∃ x : Nat, atv 4 zs 0 = x := ⟨(atv 4 zs 0).toNat, by omega⟩
  obtain ⟨y, hy⟩ : ∃ y : Nat, atv 1 zs 4 = y := ⟨(atv 1 zs 4).toNat, by omega⟩
  rw [hx] at hA hr32
  rw [hy] at hA8 hr8
  have hC := fun W (hW : Below w.heap.size w W) => lcut_any b off cap zs (5, y) W hn hcp ⟨by show 5 < _; decide, by show y < _; omega⟩ ((hr.below hW).mono hW.size)
  have HA := hidS hA
  have HA8 := hidS hA8
  have HC := hidS hC
  have hx2 : x < 4294967296 := by omega
  have hy2 : y < 256 := by omega
  clear hr hwf hA hA8 hC hr32 hr8 hx hy
  go_enter Tryd.func47, Tryd.ntmps47
  go_wp2_with fail
  have bR : Below w.heap.size w (w.alloc (.cells #[.string ⟨#[]⟩, .int .u32 0] 58)) := belS (Below.refl _ _)
  have h1 := HA.out _ bR
  by_cases h4 : 4 ≤ zs.length
  · rw [show ate 4 zs.length 0 = 0 from if_pos ⟨by decide, by omega⟩] at h1
    have h2 := HA8.out _ bR
    with_reducible refine h1.mono ?_
    rintro e wq ⟨rfl, hq⟩
    subst wq
    by_cases h5 : 5 ≤ zs.length
    · rw [show ate 1 zs.length 4 = 0 from if_pos ⟨by decide, by omega⟩] at h2
      go_wp2_with fail
      with_reducible refine h2.mono ?_
      rintro e wq ⟨rfl, hq⟩
      subst wq
      go_wp2_with fail
      have h3 := HC.out _ bR
      change Calls Tryd.prog 46 #[.slice (some ⟨b, off, none⟩) zs.length cap, .agg #[.int .u32 5, .int .u32 (y : Int)]] _ _ at h3
      with_reducible refine h3.mono ?_
      rintro e w3 ⟨⟨v, er, rfl, her, own3⟩, b3⟩
      have B3 := btS bR b3
      have hR3 : w3.heap[w.heap.size]? = some (.cells #[.string ⟨#[]⟩, .int .u32 0] 58) := (b3.block w.heap.size (by simp)).trans (heap_alloc_last w _)
      have r0 : w3.cell? ⟨w.heap.size, 0, none⟩ = some (.string ⟨#[]⟩) := by unfold World.cell?; simp only [hR3]; rfl
      have r1 : w3.cell? ⟨w.heap.size, 1, none⟩ = some (.int .u32 0) := by unfold World.cell?; simp only [hR3]; rfl
      have hcv := conv_ownM own3 9 Tryd.underlying9
      have hyl : (cutV zs (5, y)).length ≤ y := by
        unfold cutV
        split
        · rw [List.length_take]; exact Nat.min_le_left _ _
        · simp
      by_cases hin : 5 + y ≤ zs.length
      · rw [if_pos hin] at her
        subst her
        obtain ⟨a4, c4, rfl, _⟩ := own_cap2 own3
        have hsz : (strOfNums (cutV zs (5, y))).size ≤ 255 := by
          have : (strOfNums (cutV zs (5, y))).size = (cutV zs (5, y)).length := strOfNums_size _
          omega
        have HSZ := hidS hsz
        generalize strOfNums (cutV zs (5, y)) = st at *
        have hyI : (y : Int) < 256 := by omega
        clear own3 h3 hsz hyl r0 r1
        go_wp2_with (refine wpList_store_row rfl _ _ _ rfl w.heap.size _ #[.string st, .int .u32 (x : Int)] rfl rfl hR3 (by rw [infoE]; rfl) rfl (en_all _ _) ?_)
        refine bodyPost_ret (enRes _ _ w.heap.size #[.string st, .int .u32 (x : Int)] rfl (setRow_heap w3 w.heap.size _ _ _ _ hR3) _ rfl rfl) rfl ?_
        exact ⟨⟨st, x, 5 + y, by first | rfl | (push_cast; rfl), hin, hx2, HSZ.out⟩, below_setRow B3 (Nat.le_refl _) _⟩
      · rw [if_neg hin] at her
        subst her
        obtain ⟨a4, c4, rfl, _⟩ := own_cap2 own3
        clear own3 hcv h3 r0 r1
        go_wp2_with (refine wpList_store_row rfl _ _ _ rfl w.heap.size _ #[.string ⟨#[]⟩, .int .u32 0] rfl rfl hR3 (by rw [infoE]; rfl) rfl (en_all _ _) ?_)
        refine bodyPost_ret (enRes _ _ w.heap.size #[.string ⟨#[]⟩, .int .u32 0] rfl (setRow_heap w3 w.heap.size _ _ _ _ hR3) _ rfl rfl) rfl ?_
        exact ⟨⟨⟨#[]⟩, 0, 0, rfl, Nat.zero_le _, by decide, by decide⟩, below_setRow B3 (Nat.le_refl _) _⟩
    · rw [show ate 1 zs.length 4 = 20 from if_neg (by omega)] at h2
      go_wp2_with fail
      with_reducible refine h2.mono ?_
      rintro e wq ⟨rfl, hq⟩
      subst wq
      go_wp2_with fail
      refine bodyPost_ret (enRes _ _ w.heap.size #[.string ⟨#[]⟩, .int .u32 0] rfl (heap_alloc_last w _) _ rfl rfl) rfl ?_
      exact ⟨⟨⟨#[]⟩, 0, 0, rfl, Nat.zero_le _, by decide, by decide⟩, bR⟩
  · rw [show ate 4 zs.length 0 = 20 from if_neg (by omega)] at h1
    with_reducible refine h1.mono ?_
    rintro e wq ⟨rfl, hq⟩
    subst wq
    go_wp2_with fail
    refine bodyPost_ret (enRes _ _ w.heap.size #[.string ⟨#[]⟩, .int .u32 0] rfl (heap_alloc_last w _) _ rfl rfl) rfl ?_
    exact ⟨⟨⟨#[]⟩, 0, 0, rfl, Nat.zero_le _, by decide, by decide⟩, bR⟩
end Go.Proofs.YtipgpigcpbckgaaDoor
