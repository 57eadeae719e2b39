import Derived.Test.YtnplimdcfbgpeaaDoorCMCut
namespace Go.Proofs.YtnplimdcfbgpeaaDoor
open Go.RowKit Go.WideShapes Go.Sort Go.Lib
set_option maxRecDepth 100000

theorem conv_ownM {w : World} {B : Nat} {v : Value} {L : List Int} (h : w.ownsRow B 5 1 v L.length (bv L)) : ∀ dst, Tryd.prog.underlying dst = some .string → (convert 24 dst v).run Tryd.prog w = .ok (.string (strOfNums L)) w := by
  intro dst hd
  rcases h.2 with ⟨rfl, h0⟩ | ⟨g, cap, cur, rfl, _⟩
  · have : L = [] := List.eq_nil_of_length_eq_zero h0
    subst this
    exact run_convert_bytes_nil w 24 5 Tryd.underlying24 Tryd.underlying5 0 0 dst hd
  · refine run_convert_bytes_arg w 24 5 Tryd.underlying24 Tryd.underlying5 g 0 L.length cap L rfl (fun i hi => ?_) dst hd
    exact own_cell h hi
theorem undE : ∃ fs, Tryd.prog.underlying 59 = some (.struct fs) := by
  have h : (match Tryd.prog.underlying 59 with | some (.struct _) => true | _ => false) = true := by kernel_rfl
  split at h
  · exact ⟨_, by assumption⟩
  · cases h
theorem infoE : (Tryd.prog.info? 59).map (·.size) = some 2 := by kernel_rfl
/-- an entry that lies in its own block is read whole -/
theorem enRes (t2 : Value) (W : World) (b : Nat) (cs : Array Value) (h6 : cs.size = 2) (hb : W.heap[b]? = some (.cells cs 59)) (tmps : Array Value) (h2 : tmps.getD 2 undef = .pointer (some ⟨b, 0, none⟩)) (h3 : tmps.getD 3 undef = t2) :
    (results Tryd.f60 tmps).run Tryd.prog W = .ok (.tuple #[.agg cs, t2]) W := by
  obtain ⟨fs, hu⟩ := undE
  rw [results_cell_tmp (p := 2) (u := 3) (ty := 59) (by kernel_rfl), h2, h3]
  have := run_loadVar_row (P := Tryd.prog) W b 59 59 cs (0, 0) _ hb hu rfl (by rw [infoE, h6])
  simp only [asAddr, Sem.run_pure, Result.andThen, this]
theorem en_all (s : ByteArray) (x : Int) : (#[Value.string s, Value.int .u32 x] : Array Value).all (·.oneCell') = true :=
  Array.all_eq_true_iff_forall_mem.2 (fun v hv => by simp at hv; rcases hv with rfl | rfl <;> rfl)
def EnPost (n : Nat) (e : Ending) : Prop := ∃ (s : ByteArray) (x sz : Nat), e = .returned (.tuple #[.agg #[.string s, .int .u32 (x : Int)], .int .i64 (sz : Int)]) ∧ sz ≤ n ∧ x < 4294967296 ∧ s.size ≤ 255
set_option maxHeartbeats 2000000 in
theorem readEntry_any (b off cap : Nat) (zs : List Int) (w : World) (hn : zs.length ≤ 1048576) (hcp : zs.length ≤ cap) (hwf : ∀ z ∈ zs, 0 ≤ z ∧ z ≤ 255) (hr : Reads w (some ⟨b, off, none⟩) zs w.heap.size) :
    Calls Tryd.prog 60 #[.slice (some ⟨b, off, none⟩) zs.length cap] w fun e w' => EnPost zs.length e ∧ Below w.heap.size w w' := by
  have hA := fun W (hW : Below w.heap.size w W) => at_u32 (some ⟨b, off, none⟩) cap zs 0 W (by omega) hcp hwf ((hr.below hW).mono hW.size) (by decide) (by decide)
  have hA8 := fun W (hW : Below w.heap.size w W) => at_u8 (some ⟨b, off, none⟩) cap zs 4 W (by omega) hcp hwf ((hr.below hW).mono hW.size) (by decide) (by decide)
  have hr32 := atv_range 4 zs 0 hwf
  have hr8 := atv_range 1 zs 4 hwf
  obtain ⟨x, hx⟩ : ∃ x : Nat, atv 4 zs 0 = x := ⟨(atv 4 zs 0).toNat, by omega⟩
  obtain ⟨y, hy⟩ : ∃ y : Nat, atv 1 zs 4 = y := ⟨(atv 1 zs 4).toNat, by omega⟩
  rw [hx] at hA hr32
  rw [hy] at hA8 hr8
  have hC := fun W (hW : Below w.heap.size w W) => lcut_any b off cap zs (5, y) W hn hcp ⟨by show 5 < _; decide, by show y < _; omega⟩ ((hr.below hW).mono hW.size)
  have HA := hidS hA
  have HA8 := hidS hA8
  have HC := hidS hC
  have hx2 : x < 4294967296 := by omega
  have hy2 : y < 256 := by omega
  clear hr hwf hA hA8 hC hr32 hr8 hx hy
  go_enter Tryd.func60, Tryd.ntmps60
  go_wp2_with fail
  have bR : Below w.heap.size w (w.alloc (.cells #[.string ⟨#[]⟩, .int .u32 0] 59)) := belS (Below.refl _ _)
  have h1 := HA.out _ bR
  by_cases h4 : 4 ≤ zs.length
  · rw [show ate 4 zs.length 0 = 0 from if_pos ⟨by decide, by omega⟩] at h1
    have h2 := HA8.out _ bR
    with_reducible refine h1.mono ?_
    rintro e wq ⟨rfl, hq⟩
    subst wq
    by_cases h5 : 5 ≤ zs.length
    · rw [show ate 1 zs.length 4 = 0 from if_pos ⟨by decide, by omega⟩] at h2
      go_wp2_with fail
      with_reducible refine h2.mono ?_
      rintro e wq ⟨rfl, hq⟩
      subst wq
      go_wp2_with fail
      have h3 := HC.out _ bR
      change Calls Tryd.prog 59 #[.slice (some ⟨b, off, none⟩) zs.length cap, .agg #[.int .u32 5, .int .u32 (y : Int)]] _ _ at h3
      with_reducible refine h3.mono ?_
      rintro e w3 ⟨⟨v, er, rfl, her, own3⟩, b3⟩
      have B3 := btS bR b3
      have hR3 : w3.heap[w.heap.size]? = some (.cells #[.string ⟨#[]⟩, .int .u32 0] 59) := (b3.block w.heap.size (by simp)).trans (heap_alloc_last w _)
      have r0 : w3.cell? ⟨w.heap.size, 0, none⟩ = some (.string ⟨#[]⟩) := by unfold World.cell?; simp only [hR3]; rfl
      have r1 : w3.cell? ⟨w.heap.size, 1, none⟩ = some (.int .u32 0) := by unfold World.cell?; simp only [hR3]; rfl
      have hcv := conv_ownM own3 9 Tryd.underlying9
      have hyl : (cutV zs (5, y)).length ≤ y := by
        unfold cutV
        split
        · rw [List.length_take]; exact Nat.min_le_left _ _
        · simp
      by_cases hin : 5 + y ≤ zs.length
      · rw [if_pos hin] at her
        subst her
        obtain ⟨a4, c4, rfl, _⟩ := own_cap2 own3
        have hsz : (strOfNums (cutV zs (5, y))).size ≤ 255 := by
          have : (strOfNums (cutV zs (5, y))).size = (cutV zs (5, y)).length := strOfNums_size _
          omega
        have HSZ := hidS hsz
        generalize strOfNums (cutV zs (5, y)) = st at *
        have hyI : (y : Int) < 256 := by omega
        clear own3 h3 hsz hyl r0 r1
        go_wp2_with (refine wpList_store_row rfl _ _ _ rfl w.heap.size _ #[.string st, .int .u32 (x : Int)] rfl rfl hR3 (by rw [infoE]; rfl) rfl (en_all _ _) ?_)
        refine bodyPost_ret (enRes _ _ w.heap.size #[.string st, .int .u32 (x : Int)] rfl (setRow_heap w3 w.heap.size _ _ _ _ hR3) _ rfl rfl) rfl ?_
        exact ⟨⟨st, x, 5 + y, by first | rfl | (push_cast; rfl), hin, hx2, HSZ.out⟩, below_setRow B3 (Nat.le_refl _) _⟩
      · rw [if_neg hin] at her
        subst her
        obtain ⟨a4, c4, rfl, _⟩ := own_cap2 own3
        clear own3 hcv h3 r0 r1
        go_wp2_with (refine wpList_store_row rfl _ _ _ rfl w.heap.size _ #[.string ⟨#[]⟩, .int .u32 0] rfl rfl hR3 (by rw [infoE]; rfl) rfl (en_all _ _) ?_)
        refine bodyPost_ret (enRes _ _ w.heap.size #[.string ⟨#[]⟩, .int .u32 0] rfl (setRow_heap w3 w.heap.size _ _ _ _ hR3) _ rfl rfl) rfl ?_
        exact ⟨⟨⟨#[]⟩, 0, 0, rfl, Nat.zero_le _, by decide, by decide⟩, below_setRow B3 (Nat.le_refl _) _⟩
    · rw [show ate 1 zs.length 4 = 20 from if_neg (by omega)] at h2
      go_wp2_with fail
      with_reducible refine h2.mono ?_
      rintro e wq ⟨rfl, hq⟩
      subst wq
      go_wp2_with fail
      refine bodyPost_ret (enRes _ _ w.heap.size #[.string ⟨#[]⟩, .int .u32 0] rfl (heap_alloc_last w _) _ rfl rfl) rfl ?_
      exact ⟨⟨⟨#[]⟩, 0, 0, rfl, Nat.zero_le _, by decide, by decide⟩, bR⟩
  · rw [show ate 4 zs.length 0 = 20 from if_neg (by omega)] at h1
    with_reducible refine h1.mono ?_
    rintro e wq ⟨rfl, hq⟩
    subst wq
    go_wp2_with fail
    refine bodyPost_ret (enRes _ _ w.heap.size #[.string ⟨#[]⟩, .int .u32 0] rfl (heap_alloc_last w _) _ rfl rfl) rfl ?_
    exact ⟨⟨⟨#[]⟩, 0, 0, rfl, Nat.zero_le _, by decide, by decide⟩, bR⟩
end Go.Proofs.YtnplimdcfbgpeaaDoor
namespace Go.Proofs.YtnplimdcfbgpeaaDoor
open Go.RowKit Go.WideShapes Go.Sort Go.Lib
set_option maxRecDepth 100000

set_option maxHeartbeats 2000000 in
theorem may_any (a : Option Addr) (k c : Nat) (s s' : ByteArray) (x : Nat) (w : World) (hs : s.size ≤ 255) (hk : k ≤ 1048576) (hr : 0 < k → ∃ g, a = some ⟨g, 0, none⟩ ∧ g < w.heap.size ∧ w.cell? ⟨g, (k - 1) * 2, none⟩ = some (.string s')) :
    Calls Tryd.prog 21 #[.slice a k c, .agg #[.string s, .int .u32 (x : Int)]] w fun e w' => BPost e ∧ Below w.heap.size w w' := by
  have hsI : (s.size : Int) ≤ 255 := by omega
  have bA : Below w.heap.size w (w.alloc (.cells #[.string s, .int .u32 (x : Int)] 59)) := belS (Below.refl _ _)
  by_cases h1 : s.size < 1
  · have h1I : (s.size : Int) < 1 := by omega
    clear hr
    go_enter Tryd.func21, Tryd.ntmps21
    go_wp2_with fail
    go_ret
    exact ⟨⟨_, rfl⟩, bA⟩
  · have h1I : decide ((s.size : Int) < 1) = false := by simp; omega
    by_cases h2 : 32 < s.size
    · have h2I : (32 : Int) < (s.size : Int) := by omega
      clear hr
      go_enter Tryd.func21, Tryd.ntmps21
      go_wp2_with fail
      go_ret
      exact ⟨⟨_, rfl⟩, bA⟩
    · have h2I : decide ((32 : Int) < (s.size : Int)) = false := by simp; omega
      by_cases h0 : k = 0
      · subst h0
        clear hr
        go_enter Tryd.func21, Tryd.ntmps21
        go_wp2_with fail
        go_ret
        exact ⟨⟨_, rfl⟩, bA⟩
      · obtain ⟨g, rfl, hg, hcell⟩ := hr (by omega)
        have h0I : ((k : Int) == 0) = false := by rw [beq_eq_false_iff_ne]; omega
        have hwk : IntKind.i64.wrap ((k : Int) - 1) = (k : Int) - 1 := by rw [IntKind.wrap_i64]; omega
        have ht0 : ¬ ((k : Int) - 1 < 0) := by omega
        have ht1 : (k : Int) - 1 < (k : Int) := by omega
        have ht2 : ((k : Int) - 1).toNat = k - 1 := by omega
        have hlast := heap_alloc_last w (.cells #[.string s, .int .u32 (x : Int)] 59)
        have n0 : (w.alloc (.cells #[.string s, .int .u32 (x : Int)] 59)).cell? ⟨w.heap.size, 0, none⟩ = some (.string s) := by unfold World.cell?; simp only [hlast]; rfl
        clear hlast
        have hc2 := (bA.cell (p := ⟨g, (k - 1) * 2, none⟩) hg).trans hcell
        by_cases h64 : k < 64
        · have h64I : (k : Int) < 64 := by omega
          go_enter Tryd.func21, Tryd.ntmps21
          go_wp2_with fail
          generalize w.alloc (.cells #[.string s, .int .u32 (x : Int)] 59) = W1 at *
          clear hcell
          go_quiet (fail)
          go_wp2_with fail
          go_ret
          exact ⟨⟨_, rfl⟩, below_drewN bA _⟩
        · have h64I : decide ((k : Int) < 64) = false := by simp; omega
          go_enter Tryd.func21, Tryd.ntmps21
          go_wp2_with fail
          generalize w.alloc (.cells #[.string s, .int .u32 (x : Int)] 59) = W1 at *
          clear hcell
          go_quiet (fail)
          go_wp2_with fail
          go_ret
          exact ⟨⟨_, rfl⟩, below_drewN bA _⟩
end Go.Proofs.YtnplimdcfbgpeaaDoor
namespace Go.Proofs.YtnplimdcfbgpeaaDoor
open Go.RowKit Go.WideShapes Go.Sort Go.Lib
set_option maxRecDepth 100000

/-- entries as values -/
def ev (E : List (ByteArray × Nat)) : List Value := E.flatMap fun p => [.string p.1, .int .u32 p.2]
theorem ev_append (L M : List (ByteArray × Nat)) : ev (L ++ M) = ev L ++ ev M := by simp [ev]
theorem ev_len (L : List (ByteArray × Nat)) : (ev L).length = L.length * 2 := by
  induction L with
  | nil => rfl
  | cons p L ih =>
    rw [show ev (p :: L) = [.string p.1, .int .u32 p.2] ++ ev L from rfl, List.length_append, ih, List.length_cons]
    simp; omega
theorem ev_get (L : List (ByteArray × Nat)) : ∀ j, j < L.length → (ev L)[j * 2]? = some (.string (L.getD j (⟨#[]⟩, 0)).1) := by
  induction L with
  | nil => intro j hj; simp at hj
  | cons p L ih =>
    intro j hj
    have e : ev (p :: L) = .string p.1 :: .int .u32 p.2 :: ev L := rfl
    cases j with
    | zero => rw [e]; rfl
    | succ j =>
      have := ih j (by simpa using hj)
      rw [e, show (j + 1) * 2 = j * 2 + 1 + 1 by omega]
      simpa using this
theorem own_posM {w : World} {B e sz : Nat} {a : Option Addr} {n c : Nat} {xs : List Value} (h : w.ownsRow B e sz (.slice a n c) n xs) (hn : 0 < n) : ∃ g, a = some ⟨g, 0, none⟩ := by
  rcases h.2 with ⟨_, hz⟩ | ⟨g, cap, cur, e, _⟩
  · omega
  · simp only [Value.slice.injEq] at e; exact ⟨g, e.1⟩
theorem Tryd.infoEx : (Tryd.prog.info? 59).map (fun i => (i.zero, i.size, i.bytes)) = some (some (.agg #[.string ⟨#[]⟩, .int .u32 0]), 2, 24) := by kernel_rfl
def lenOf : Value → Nat
  | .slice _ n _ => n
  | _ => 0
def NmPost (e : Ending) : Prop := ∃ v, ∃ at_ er : Int, e = .returned (.tuple #[v, .int .i64 at_, .int .i64 er]) ∧ ∃ a n c, v = .slice a n c
set_option maxHeartbeats 2000000 in
theorem readNames_any (b off cap : Nat) (zs : List Int) (p : Nat × Nat) (w : World) (hn : zs.length ≤ 1048576) (hcp : zs.length ≤ cap) (hwf : ∀ z ∈ zs, 0 ≤ z ∧ z ≤ 255) (hp : p.1 < 4294967296 ∧ p.2 < 4294967296) (hr : Reads w (some ⟨b, off, none⟩) zs w.heap.size) :
    Calls Tryd.prog 43 #[.slice (some ⟨b, off, none⟩) zs.length cap, .agg #[.int .u32 p.1, .int .u32 p.2]] w fun e w' => NmPost e ∧ Below w.heap.size w w' := by
  obtain ⟨i0, hi, hz0, hz1, hz2⟩ := info_parts Tryd.infoEx
  have bA : Below w.heap.size w (w.alloc (.cells #[.int .u32 (p.1 : Int), .int .u32 (p.2 : Int)] 47)) := belS (Below.refl _ _)
  have hB := bytesOf_any b off cap zs p (w.alloc (.cells #[.int .u32 (p.1 : Int), .int .u32 (p.2 : Int)] 47)) hn hcp hp ((hr.below bA).mono bA.size)
  have HCW := hidS (cutV_wf hwf p)
  have hcl := cutV_len zs p
  have hwp : IntKind.i64.wrap (p.1 : Int) = (p.1 : Int) := by rw [IntKind.wrap_i64]; omega
  have hp1 : p.1 < 4294967296 := hp.1
  have HP1 := hidS hp1
  have hlA := heap_alloc_last w (.cells #[.int .u32 (p.1 : Int), .int .u32 (p.2 : Int)] 47)
  have hltA : w.heap.size < (w.alloc (.cells #[.int .u32 (p.1 : Int), .int .u32 (p.2 : Int)] 47)).heap.size := by simp
  clear hr hwf hp hp1
  go_enter Tryd.func43, Tryd.ntmps43
  go_wp2_with fail
  go_step3
  go_wp2_with fail
  with_reducible refine hB.mono ?_
  rintro e w1 ⟨a1, c1, rfl, hc1, hr1, _, b1⟩
  have B1 := btS bA b1
  have hl1 : w1.heap[w.heap.size]? = some (.cells #[.int .u32 (p.1 : Int), .int .u32 (p.2 : Int)] 47) := (b1.block w.heap.size hltA).trans hlA
  have c0 : w1.cell? ⟨w.heap.size, 0, none⟩ = some (.int .u32 p.1) := by unfold World.cell?; simp only [hl1]; rfl
  generalize cutV zs p = cz at *
  clear hB hl1 hlA
  go_wp2_with fail
  try go_step3
  go_wp2_with fail
  go_loopw [7, 8, 9] (fun vn vr va wr => ∃ (E : List (ByteArray × Nat)) (rz : List Int) (a : Option Addr) (c at_ : Nat), vr = .slice a rz.length c ∧ rz.length ≤ c ∧ va = .int .i64 (at_ : Int) ∧ at_ + rz.length ≤ 4296015872 ∧ wr.ownsRow w1.heap.size 59 2 vn E.length (ev E) ∧ E.length + rz.length ≤ 1048576 ∧ (∀ z ∈ rz, 0 ≤ z ∧ z ≤ 255) ∧ Reads wr a rz w1.heap.size ∧ Below w1.heap.size w1 wr)
    (fun _ vr _ _ => lenOf vr)
  case atStart => exact ⟨[], cz, a1, c1, p.1, rfl, hc1, rfl, by have := HP1.out; omega, World.ownsRow_nil _ _ _ _, by simp; omega, HCW.out, hr1, Below.refl _ _⟩
  case round =>
    clear hr1 hc1 c0
    obtain ⟨E, rz, a, c, at_, rfl, hc, rfl, hat, hown, hsum, hwz, hrz, hb⟩ := hrel
    have HWZ := hidS hwz
    have HRZ := hidS hrz
    have HAT := hidS hat
    clear hwz hrz hat
    have BW := btS B1 hb
    by_cases hlt : 0 < rz.length
    · have hltI : (0 : Int) < (rz.length : Int) := by omega
      obtain ⟨b2, off2, rfl, hb2, hc2⟩ := HRZ.out hlt
      have hE := readEntry_any b2 off2 c rz wr (by omega) hc HWZ.out (HRZ.out.mono hb.size)
      clear hc2
      go_wp2_with fail
      with_reducible refine hE.mono ?_
      rintro e w2 ⟨⟨st, x, sz, rfl, hsz, hx, hst⟩, b3⟩
      have B2 := btS BW b3
      have own2 := own_below hown b3
      obtain ⟨an, cn, rfl, hcn⟩ := own_cap2 own2
      clear hE hown
      by_cases hz : sz = 0
      · subst hz
        clear own2
        go_wp2_with fail
        change bodyPost Tryd.prog Tryd.f43 (fun e w' => NmPost e ∧ Below w.heap.size w w') Exit.ret _ _
        refine bodyPost_ret (results_tmp3 rfl _ _ _) rfl ?_
        exact ⟨⟨_, _, _, rfl, _, _, _, rfl⟩, (by (repeat (first | exact B2 | with_reducible refine belS ?_ | with_reducible refine Below.drew ?_)))⟩
      · have hzI : ((sz : Int) == 0) = false := by rw [beq_eq_false_iff_ne]; omega
        have bE : Below w2.heap.size w2 (w2.alloc (.cells #[.string st, .int .u32 (x : Int)] 59)) := belS (Below.refl _ _)
        have hM := may_any an E.length cn st (E.getD (E.length - 1) (⟨#[]⟩, 0)).1 x (w2.alloc (.cells #[.string st, .int .u32 (x : Int)] 59)) hst (by omega) (fun hk => by
          obtain ⟨g, hg⟩ := own_posM own2 hk
          subst hg
          have hgl := (own2.lt g rfl).2
          refine ⟨g, rfl, by have := bE.size; omega, ?_⟩
          have hh := own2.cells (g := g) rfl ((E.length - 1) * 2) _ (ev_get E (E.length - 1) (by omega))
          rw [add_plain, Nat.zero_add] at hh
          exact (bE.cell (p := ⟨g, (E.length - 1) * 2, none⟩) hgl).trans hh)
        go_wp2_with fail
        with_reducible refine hM.mono ?_
        rintro e w3 ⟨⟨r, rfl⟩, b4⟩
        have B3 := btS (btS B2 bE) b4
        clear hM
        cases r
        · clear own2
          go_wp2_with fail
          change bodyPost Tryd.prog Tryd.f43 (fun e w' => NmPost e ∧ Below w.heap.size w w') Exit.ret _ _
          refine bodyPost_ret (results_tmp3 rfl _ _ _) rfl ?_
          exact ⟨⟨_, _, _, rfl, _, _, _, rfl⟩, (by (repeat (first | exact B3 | with_reducible refine belS ?_ | with_reducible refine Below.drew ?_)))⟩
        · have hl3 := (b4.block w2.heap.size (by simp)).trans (heap_alloc_last w2 (.cells #[.string st, .int .u32 (x : Int)] 59))
          have e0 : w3.cell? ⟨w2.heap.size, 0, none⟩ = some (.string st) := by unfold World.cell?; simp only [hl3]; rfl
          have e1 : w3.cell? ⟨w2.heap.size, 1, none⟩ = some (.int .u32 x) := by unfold World.cell?; simp only [hl3]; rfl
          have own3 := own_below (own_below own2 bE) b4
          have hb3 : Below w1.heap.size w1 w3 := btS (btS (btS hb b3) bE) b4
          have hbs := hb3.size
          clear own2 hl3
          go_wp2_with (at_builtin; refine wpList_append_own _ rfl _ _ 26 rfl w1.heap.size 59 i0 (.agg #[.string ⟨#[]⟩, .int .u32 0]) 2 24 Tryd.underlying26 hi hz0 hz1 hz2 rfl (by decide) _ _ _ rfl (own3.alloc _) ⟨_, 0, none⟩ 1 1 [.string st, .int .u32 (x : Int)] rfl rfl ?c1 ?c2 ?c3 ?c4 ?c5 ?_)
          case c1 =>
            intro j u hj
            match j, hj with
            | 0, hj => simp at hj; subst hj; simp [Addr.add]
            | 1, hj => simp at hj; subst hj; simp [Addr.add]
          case c2 => intro u hu; simp at hu; rcases hu with rfl | rfl <;> rfl
          case c3 => unfold maxLen; omega
          case c4 => omega
          case c5 => simp; omega
          intro v' w5 hown' hgrow _
          have R1 : w5.ownsRow w1.heap.size 59 2 v' (E ++ [(st, x)]).length (ev (E ++ [(st, x)])) := by
            rw [ev_append, List.length_append]; exact hown'
          have R2 : Below w1.heap.size w1 w5 := (hb3.alloc hbs _).grown hgrow (by simp; omega) (fun j e => (own3.lt j e).1)
          have R5 : Below w1.heap.size w3 w5 := (((Below.refl w1.heap.size w3).alloc hbs _).grown hgrow (by simp; omega) (fun j e => (own3.lt j e).1))
          have hszI : (sz : Int) ≤ (rz.length : Int) := by omega
          have hszC : (sz : Int) ≤ (c : Int) := by omega
          have hw9 : IntKind.i64.wrap ((at_ : Int) + (sz : Int)) = (at_ : Int) + (sz : Int) := by have := HAT.out; rw [IntKind.wrap_i64]; omega
          clear hown' hgrow own3 e0 e1
          have hdl : (rz.drop sz).length = rz.length - sz := by rw [List.length_drop]
          by_cases hcs : c = sz
          · go_wp2_with fail
            refine ⟨⟨E ++ [(st, x)], rz.drop sz, _, _, at_ + sz, by rw [hdl], by rw [hdl]; omega, by push_cast; rfl, by rw [hdl]; have := HAT.out; omega, R1, by rw [hdl, List.length_append]; simp; omega, fun z hz' => HWZ.out z (List.mem_of_mem_drop hz'), ?_, R2⟩, by simp only [lenOf]; omega⟩
            intro hp0
            rw [hdl] at hp0
            omega
          · go_wp2_with fail
            refine ⟨⟨E ++ [(st, x)], rz.drop sz, _, _, at_ + sz, by rw [hdl], by rw [hdl]; omega, by push_cast; rfl, by rw [hdl]; have := HAT.out; omega, R1, by rw [hdl, List.length_append]; simp; omega, fun z hz' => HWZ.out z (List.mem_of_mem_drop hz'), ?_, R2⟩, by simp only [lenOf]; omega⟩
            intro hp0
            obtain ⟨b5, off5, e5, hb5, hc5⟩ := (HRZ.out.below ((b3.mono hb.size).trans (bE.mono (by have := b3.size; have := hb.size; omega)) |>.trans (b4.mono (by have := bE.size; have := b3.size; have := hb.size; omega)))) hlt
            cases e5
            have hR5 := R5.block b2 hb5
            refine ⟨b2, off2 + sz, rfl, hb5, fun j hj => ?_⟩
            rw [hdl] at hj
            have := hc5 (sz + j) (by omega)
            rw [← Nat.add_assoc] at this
            rw [World.cell?_of_block hR5, this]
            simp [List.getD_eq_getElem?_getD]
    · have hltI : ¬ (0 : Int) < (rz.length : Int) := by omega
      obtain ⟨an, cn, rfl, hcn⟩ := own_cap2 hown
      clear hown
      go_wp2_with fail
      refine bodyPost_ret (results_tmp3 rfl _ _ _) rfl ?_
      exact ⟨⟨_, _, _, rfl, _, _, _, rfl⟩, BW⟩
end Go.Proofs.YtnplimdcfbgpeaaDoor
