import Derived.Test.YtnjglagfpghbjaaDoorCP2
import Derived.Test.YtnjglagfpghbjaaDoorCP0
import Derived.Deep.QuietTactic
import Derived.Laws.BytesArg
import Derived.Lib.Bytes
namespace Go.Proofs.YtnjglagfpghbjaaDoor
open Go.RowKit Go.WideShapes
set_option maxRecDepth 100000

/-- Go's table, as far as it is read here -/
def Tab (w : World) : Prop := w.cell? ⟨1, 61, none⟩ = some (.int .u8 8)
theorem Tab.below {B : Nat} {w w' : World} (h : Tab w) (hb : Below B w w') (hB : 1 < B) : Tab w' := (hb.cell (p := ⟨1, 61, none⟩) hB).trans h
theorem tz64_any (w : World) (hT : Tab w) : Calls Tryd.prog 72 #[.int .u64 256] w fun e w' => e = .returned (.int .i64 8) ∧ w' = w := by
  have hb : bits .and .u64 256 18446744073709551360 = 256 := by kernel_rfl
  have hw0 : IntKind.u64.wrap (-256) = 18446744073709551360 := by kernel_rfl
  have hw1 : IntKind.u64.wrap 73182774541146589440 = 17842542320017934592 := by kernel_rfl
  have hc : w.cell? ⟨1, 61, none⟩ = some (.int .u8 8) := hT
  go_enter Tryd.func72, Tryd.ntmps72
  go_wp2
  go_ret
  exact ⟨rfl, rfl⟩
theorem tz_any (w : World) (hT : Tab w) : Calls Tryd.prog 65 #[.int .u64 256] w fun e w' => e = .returned (.int .i64 8) ∧ w' = w := by
  have hO := tz64_any w hT
  go_enter Tryd.func65, Tryd.ntmps65
  go_wp2_with (first
    | (go_at_call 72; with_reducible refine hO.mono ?_; rintro e wq ⟨rfl, hq⟩; subst wq)
    | fail)
  go_ret
  exact ⟨rfl, rfl⟩
theorem bits8_any (B a : Nat) (bs : List Int) (w : World) (hS : Seg B w a bs) (hl : bs.length = 256) (hT : Tab w) :
    Calls Tryd.prog 51 #[.pointer (some ⟨a, 0, none⟩)] w fun e w' => e = .returned (.int .i64 8) ∧ w' = w := by
  obtain ⟨g, cap, tv, ts, h, _⟩ := hS
  have hO := tz_any w hT
  have hM := made_yes a w ((obj_cell h.obj 0).trans rfl)
  have c1 : w.cell? ⟨a, 1, none⟩ = some (.slice (some ⟨g, 0, none⟩) 256 cap) := by rw [← hl]; exact (obj_cell h.obj 1).trans rfl
  clear h hT
  go_enter Tryd.func51, Tryd.ntmps51
  go_wp2_with (first
    | (go_at_call 24; with_reducible refine hM.mono ?_; rintro e wq ⟨rfl, hq⟩; subst wq)
    | (go_at_call 65; with_reducible refine hO.mono ?_; rintro e wq ⟨rfl, hq⟩; subst wq)
    | fail)
  go_ret
  exact ⟨rfl, rfl⟩
theorem Seg.below {B a : Nat} {bs : List Int} {w w' : World} (h : Seg B w a bs) (hb : Below w.heap.size w w') : Seg B w' a bs := by
  obtain ⟨g, cap, tv, ts, h, h2⟩ := h
  exact ⟨g, cap, tv, ts, h.kept (S := fun _ => False) (Kp.ofBelow hb) (fun _ _ h => h), h2⟩
set_option maxHeartbeats 1000000 in
theorem bytes_any (B a : Nat) (bs : List Int) (w : World) (hS : Seg B w a bs) :
    Calls Tryd.prog 20 #[.pointer (some ⟨a, 0, none⟩)] w fun e w' => ∃ g c, e = .returned (.slice (some ⟨g, 0, none⟩) bs.length c) ∧ w'.ownsRow w.heap.size 5 1 (.slice (some ⟨g, 0, none⟩) bs.length c) bs.length (bv bs) ∧ Below w.heap.size w w' := by
  obtain ⟨g, cap, tv, ts, h, _⟩ := hS
  have hb := h.pw.bd
  have hM := made_yes a w ((obj_cell h.obj 0).trans rfl)
  have c1 : w.cell? ⟨a, 1, none⟩ = some (.slice (some ⟨g, 0, none⟩) bs.length cap) := (obj_cell h.obj 1).trans rfl
  have hC := clone_any (some ⟨g, 0, none⟩) cap bs w (by omega) (fun e => by cases e) (reads_own h.row (by simp))
  have HC : Hid (Calls Tryd.prog 53 #[.slice (some ⟨g, 0, none⟩) bs.length cap] w fun e w1 => ∃ g c, e = .returned (.slice (some ⟨g, 0, none⟩) bs.length c) ∧ Hid (w1.ownsRow w.heap.size 5 1 (.slice (some ⟨g, 0, none⟩) bs.length c) bs.length (bv bs) ∧ Below w.heap.size w w1)) := hC.mono fun e w1 ⟨v, he, ho, hb⟩ => by
    obtain ⟨g, c, rfl, _⟩ := own_form ho (by omega)
    exact ⟨g, c, he, ho, hb⟩
  clear h hC
  go_enter Tryd.func20, Tryd.ntmps20
  go_wp2_with (first
    | (go_at_call 24; with_reducible refine hM.mono ?_; rintro e wq ⟨rfl, hq⟩; subst wq)
    | (go_at_call 53; with_reducible refine HC.out.mono ?_; rintro e w1 ⟨g2, c2, rfl, HQ⟩)
    | fail)
  go_ret
  exact ⟨_, _, rfl, HQ.out.1, HQ.out.2⟩
set_option maxHeartbeats 1000000 in
theorem writes_any (B a x cap : Nat) (bo : Option Addr) (bs zs : List Int) (w : World) (hS : Seg B w a bs) (hB : B ≤ w.heap.size) (hx : x < 4294967296) (hn : zs.length ≤ 4096) (hc : zs.length ≤ cap) (hwf : ∀ z ∈ zs, 0 ≤ z ∧ z ≤ 255) (hr : Reads w bo zs B) :
    Calls Tryd.prog 47 #[.pointer (some ⟨a, 0, none⟩), .int .u32 x, .slice bo zs.length cap] w fun e w' => e = .returned (.int .i64 0) ∧ Seg B w' a (wrL bs x zs) ∧ Below B w w' := by
  obtain ⟨g, cp, tv, ts, h, ha, hg, ht⟩ := hS
  have hM := made_yes a w ((obj_cell h.obj 0).trans rfl)
  have hW : Calls Tryd.prog 56 #[.pointer (some ⟨a, 0, none⟩), .int .u32 x, .slice bo zs.length cap] w fun e w' => e = .returned (.tuple #[]) ∧ Hid (Seg B w' a (wrL bs x zs) ∧ Below B w w') := by
    by_cases h0 : 0 < zs.length
    · obtain ⟨b, off, rfl, hlt, hcell⟩ := hr h0
      refine (write_any false (note_ok_off _ _) a g cp cap x zs.length b off (some ⟨b, off, none⟩) bs zs tv ts w h hx (by omega) rfl hc hwf (fun _ => ⟨rfl, by omega, hcell⟩) ?_).mono fun e w' ⟨he, h1, h2⟩ => ⟨he, Seg.after h ha hg ht hB h1 h2⟩
      rintro (e | e | e)
      · omega
      · omega
      · have := ht b e; omega
    · refine (write_any false (note_ok_off _ _) a g cp cap x zs.length w.heap.size 0 bo bs zs tv ts w h hx (by omega) rfl hc hwf (fun h => absurd h h0) ?_).mono fun e w' ⟨he, h1, h2⟩ => ⟨he, Seg.after h ha hg ht hB h1 h2⟩
      intro hF
      have := h.lt _ hF
      omega
  have hI : ¬ (4096 : Int) < (zs.length : Int) := by omega
  clear h hwf hr
  go_enter Tryd.func47, Tryd.ntmps47
  go_wp2_with (first
    | (go_at_call 24; with_reducible refine hM.mono ?_; rintro e wq ⟨rfl, hq⟩; subst wq)
    | (go_at_call 56; with_reducible refine hW.mono ?_; rintro e w1 ⟨rfl, HQ⟩)
    | fail)
  go_ret
  exact ⟨rfl, HQ.out.1, HQ.out.2⟩
set_option maxHeartbeats 1000000 in
theorem reads_any (B a x n : Nat) (bs : List Int) (w : World) (hS : Seg B w a bs) (hB : B ≤ w.heap.size) (hx : x < 4294967296) (hn : n ≤ 4096) :
    Calls Tryd.prog 44 #[.pointer (some ⟨a, 0, none⟩), .int .u32 x, .int .i64 n] w fun e w' => ∃ gw, e = .returned (.tuple #[.slice (some ⟨gw, 0, none⟩) n n, .int .i64 0]) ∧ Reads w' (some ⟨gw, 0, none⟩) (rdL bs x n) w'.heap.size ∧ Seg B w' a bs ∧ Below B w w' := by
  obtain ⟨g, cp, tv, ts, h, ha, hg, ht⟩ := hS
  have hM := made_yes a w ((obj_cell h.obj 0).trans rfl)
  obtain ⟨w1, hm, hrow, hb⟩ := make_any .i64 n (by omega) w
  have h1 := h.kept (S := fun _ => False) (Kp.ofBelow hb) (fun _ _ h => h)
  have hR : Calls Tryd.prog 63 #[.pointer (some ⟨a, 0, none⟩), .int .u32 x, .slice (some ⟨w.heap.size, 0, none⟩) n n] w1 fun e w2 => e = .returned (.tuple #[]) ∧ Hid (Reads w2 (some ⟨w.heap.size, 0, none⟩) (rdL bs x n) w2.heap.size ∧ Seg B w2 a bs ∧ Below B w w2) := by
    rcases hrow.2 with ⟨e, _⟩ | ⟨g', cap', cur, e, _, hg', _, _, hs, htk⟩
    · simp at e
    · simp only [Value.slice.injEq, Option.some.injEq, Addr.mk.injEq, true_and, and_true] at e
      obtain ⟨rfl, rfl⟩ := e
      have hcur : cur = (bv (List.replicate n 0) ++ []).toArray := by
        rw [Nat.mul_one, List.take_of_length_le (by simpa using Nat.le_of_eq hs)] at htk
        rw [List.append_nil, ← htk]
      rw [hcur] at hg'
      have hwlt : w.heap.size < w1.heap.size := (Array.getElem?_eq_some_iff.1 hg').1
      refine (read_any false (note_ok_off _ _) a g cp w.heap.size n x n bs (List.replicate n 0) [] 5 tv ts w1 h1 hx (by omega) hg' (by simp) (Nat.le_refl _) (by unfold maxLen; omega) (fun hF => by have := h.lt _ hF; omega)).mono fun e w2 ⟨he, ⟨tv', k1, k2⟩, k3, k4⟩ => ⟨he, ?_, ?_, ?_⟩
      · intro _
        refine ⟨w.heap.size, 0, rfl, (Array.getElem?_eq_some_iff.1 k4).1, fun j hj => ?_⟩
        rw [obj_cell k4 (0 + j), Nat.zero_add]
        rw [rdL_len] at hj
        have hj2 : j < (rdL bs x n).length := by rw [rdL_len]; exact hj
        simp [bv, hj2]
      · exact ⟨g, cp, tv', ts, k1, ha, hg, fun k hk => (k2 k hk).elim (ht k) (fun h => by omega)⟩
      · refine (hb.mono hB).trans (k3.below (by omega) ?_)
        rintro i ((e | e | e) | e)
        · omega
        · omega
        · exact ht i e
        · omega
  have hI0 : ¬ (n : Int) < 0 := by omega
  have hI : ¬ (4096 : Int) < (n : Int) := by omega
  clear h h1 hrow hb
  go_enter Tryd.func44, Tryd.ntmps44
  go_wp2_with (first
    | (go_at_call 24; with_reducible refine hM.mono ?_; rintro e wq ⟨rfl, hq⟩; subst wq)
    | (go_at_call 63; with_reducible refine hR.mono ?_; rintro e w2 ⟨rfl, HQ⟩)
    | fail)
  go_ret2
  exact ⟨_, rfl, HQ.out.1, HQ.out.2.1, HQ.out.2.2⟩
end Go.Proofs.YtnjglagfpghbjaaDoor
namespace Go.Proofs.YtnjglagfpghbjaaDoor
open Go.RowKit Go.WideShapes
theorem shl9 (b : Nat) : ∃ N : Nat, Pw N ∧ wrap64 (256 * 2 ^ (b % 9)) = (N : Int) := by
  have h9 : b % 9 < 9 := Nat.mod_lt _ (by decide)
  generalize b % 9 = k at *
  have : k = 0 ∨ k = 1 ∨ k = 2 ∨ k = 3 ∨ k = 4 ∨ k = 5 ∨ k = 6 ∨ k = 7 ∨ k = 8 := by omega
  rcases this with rfl | rfl | rfl | rfl | rfl | rfl | rfl | rfl | rfl
  · exact ⟨256, .inl rfl, by kernel_rfl⟩
  · exact ⟨512, .inr (.inl rfl), by kernel_rfl⟩
  · exact ⟨1024, .inr (.inr (.inl rfl)), by kernel_rfl⟩
  · exact ⟨2048, .inr (.inr (.inr (.inl rfl))), by kernel_rfl⟩
  · exact ⟨4096, .inr (.inr (.inr (.inr (.inl rfl)))), by kernel_rfl⟩
  · exact ⟨8192, .inr (.inr (.inr (.inr (.inr (.inl rfl))))), by kernel_rfl⟩
  · exact ⟨16384, .inr (.inr (.inr (.inr (.inr (.inr (.inl rfl)))))), by kernel_rfl⟩
  · exact ⟨32768, .inr (.inr (.inr (.inr (.inr (.inr (.inr (.inl rfl))))))), by kernel_rfl⟩
  · exact ⟨65536, .inr (.inr (.inr (.inr (.inr (.inr (.inr (.inr rfl))))))), by kernel_rfl⟩
end Go.Proofs.YtnjglagfpghbjaaDoor
namespace Go.Proofs.YtnjglagfpghbjaaDoor
open Go.RowKit Go.WideShapes
set_option maxRecDepth 100000

def gt (bs : List Int) (p : Nat) : Int := bs.getD (p % bs.length) 0
theorem n4_4 (bs : List Int) (p : Nat) : n4 (rdL bs p 4) = gt bs p + 256 * gt bs (p + 1) + 65536 * gt bs (p + 2) + 16777216 * gt bs (p + 3) := by
  simp [n4, rdL, gt, List.range_succ]
theorem n4_2 (bs : List Int) (p : Nat) : n4 (rdL bs p 2) = gt bs p + 256 * gt bs (p + 1) := by
  simp [n4, rdL, gt, List.range_succ]
theorem n4_1 (bs : List Int) (p : Nat) : n4 (rdL bs p 1) = gt bs p := by
  simp [n4, rdL, gt, List.range_succ]
theorem gt_mod (bs : List Int) (p q : Nat) (h : p % bs.length = q % bs.length) : gt bs p = gt bs q := by unfold gt; rw [h]
theorem gt_add (bs : List Int) (p q i : Nat) (h : p % bs.length = q % bs.length) : gt bs (p + i) = gt bs (q + i) := gt_mod _ _ _ (by rw [Nat.add_mod p, Nat.add_mod q, h])
theorem gt_in (bs ds : List Int) (p i : Nat) (h : ds.length ≤ bs.length) (hi : i < ds.length) : gt (wrL bs p ds) (p + i) = ds.getD i 0 := by
  unfold gt; rw [wrL_len]; exact wrL_get ds bs p i h hi
theorem gt_out (bs ds : List Int) (p q : Nat) (hn : ∀ i, i < ds.length → (p + i) % bs.length ≠ q % bs.length) : gt (wrL bs p ds) q = gt bs q := by
  unfold gt; rw [wrL_len]; exact wrL_out ds bs p _ hn
theorem mod_ne (N p i j : Nat) (hN : 4 ≤ N) (hi : i < 4) (hj : j < 4) (hij : i ≠ j) : (p + i) % N ≠ (p + j) % N := by
  intro e
  have h1 : (p + i) % N = (p % N + i) % N := by rw [Nat.mod_add_mod]
  have h2 : (p + j) % N = (p % N + j) % N := by rw [Nat.mod_add_mod]
  rw [h1, h2] at e
  have hm := Nat.mod_lt p (show 0 < N by omega)
  generalize p % N = r at *
  by_cases ha : r + i < N <;> by_cases hb : r + j < N
  · rw [Nat.mod_eq_of_lt ha, Nat.mod_eq_of_lt hb] at e; omega
  · rw [Nat.mod_eq_of_lt ha, Nat.mod_eq_sub_mod (by omega), Nat.mod_eq_of_lt (by omega)] at e; omega
  · rw [Nat.mod_eq_sub_mod (by omega), Nat.mod_eq_of_lt (by omega), Nat.mod_eq_of_lt hb] at e; omega
  · rw [Nat.mod_eq_sub_mod (by omega), Nat.mod_eq_of_lt (by omega), Nat.mod_eq_sub_mod (a := r + j) (by omega), Nat.mod_eq_of_lt (a := r + j - N) (by omega)] at e; omega
/-- what stands there behind the first store -/
theorem bk1 (bs : List Int) (p : Nat) (v : Int) (hN : 256 ≤ bs.length) : gt (wrL bs p (by4 v)) p = v % 256 ∧ gt (wrL bs p (by4 v)) (p + 1) = v / 256 % 256 ∧ gt (wrL bs p (by4 v)) (p + 2) = v / 65536 % 256 ∧ gt (wrL bs p (by4 v)) (p + 3) = v / 16777216 := by
  have h4 : (by4 v).length = 4 := rfl
  exact ⟨gt_in bs (by4 v) p 0 (by omega) (by omega), gt_in bs (by4 v) p 1 (by omega) (by omega), gt_in bs (by4 v) p 2 (by omega) (by omega), gt_in bs (by4 v) p 3 (by omega) (by omega)⟩
/-- .. and behind the second and third -/
theorem bk2 (bs : List Int) (p ag p2 : Nat) (v x y : Int) (hN : 256 ≤ bs.length) (ha : ag % bs.length = p % bs.length) (h2 : p2 % bs.length = (p + 2) % bs.length) :
    n4 (rdL (wrL (wrL (wrL bs p (by4 v)) ag ((by4 x).take 2)) p2 ((by4 y).take 1)) p 4) = x % 256 + 256 * (x / 256 % 256) + 65536 * (y % 256) + 16777216 * (v / 16777216) := by
  obtain ⟨_, _, _, e3⟩ := bk1 bs p v hN
  have l2 : ((by4 x).take 2).length = 2 := rfl
  have l1 : ((by4 y).take 1).length = 1 := rfl
  have hl1 : (wrL bs p (by4 v)).length = bs.length := wrL_len _ _ _
  generalize wrL bs p (by4 v) = b1 at *
  have hl2 : (wrL b1 ag ((by4 x).take 2)).length = bs.length := by rw [wrL_len, hl1]
  have f0 : gt (wrL b1 ag ((by4 x).take 2)) p = x % 256 := by
    rw [gt_mod _ p (ag + 0) (by rw [hl2, Nat.add_zero, ha])]; exact gt_in b1 _ ag 0 (by omega) (by omega)
  have f1 : gt (wrL b1 ag ((by4 x).take 2)) (p + 1) = x / 256 % 256 := by
    rw [gt_add _ p ag 1 (by rw [hl2, ha])]; exact gt_in b1 _ ag 1 (by omega) (by omega)
  have f3 : gt (wrL b1 ag ((by4 x).take 2)) (p + 3) = v / 16777216 := by
    rw [gt_out b1 _ ag (p + 3) (fun i hi => by rw [hl1, Nat.add_mod, ha, ← Nat.add_mod]; exact mod_ne bs.length p i 3 (by omega) (by omega) (by omega) (by omega))]; exact e3
  generalize wrL b1 ag ((by4 x).take 2) = b2 at *
  have hne : ∀ j, j < 4 → j ≠ 2 → ∀ i, i < ((by4 y).take 1).length → (p2 + i) % b2.length ≠ (p + j) % b2.length := fun j hj hj2 i hi => by
    obtain rfl : i = 0 := by omega
    rw [hl2, Nat.add_zero, h2]; exact mod_ne bs.length p 2 j (by omega) (by omega) hj (by omega)
  have hl3 : (wrL b2 p2 ((by4 y).take 1)).length = bs.length := by rw [wrL_len, hl2]
  rw [n4_4, gt_out b2 _ p2 p (by have := hne 0 (by omega) (by omega); simpa using this), gt_out b2 _ p2 (p + 1) (hne 1 (by omega) (by omega)), gt_out b2 _ p2 (p + 3) (hne 3 (by omega) (by omega)), f0, f1, f3]
  have f2 : gt (wrL b2 p2 ((by4 y).take 1)) (p + 2) = y % 256 := by
    rw [gt_mod _ (p + 2) (p2 + 0) (by rw [hl3]; exact h2.symm)]; exact gt_in b2 _ p2 0 (by omega) (by omega)
  rw [f2]
end Go.Proofs.YtnjglagfpghbjaaDoor
namespace Go.Proofs.YtnjglagfpghbjaaDoor
open Go.RowKit Go.WideShapes
set_option maxRecDepth 100000

theorem str_back (bs : List Int) (h : ∀ z ∈ bs, 0 ≤ z ∧ z ≤ 255) : (strOfNums bs).data.toList.map (fun u => (u.toNat : Int)) = bs := by
  rw [strOfNums_data, List.map_map]
  conv => rhs; rw [← List.map_id bs]
  refine List.map_congr_left fun z hz => ?_
  have := h z hz
  simp only [Function.comp, id, UInt8.toNat_ofNat']
  omega
theorem str_inj {bs cs : List Int} (h1 : ∀ z ∈ bs, 0 ≤ z ∧ z ≤ 255) (h2 : ∀ z ∈ cs, 0 ≤ z ∧ z ≤ 255) : strOfNums bs = strOfNums cs ↔ bs = cs :=
  ⟨fun e => by rw [← str_back bs h1, e, str_back cs h2], fun e => by rw [e]⟩
theorem conv_r {w : World} {g cap : Nat} {bs : List Int} (h : w.ownsRow 0 5 1 (.slice (some ⟨g, 0, none⟩) bs.length cap) bs.length (bv bs)) (n : Nat) :
    (convert 32 9 (.slice (some ⟨g, 0, none⟩) bs.length cap)).run Tryd.prog (w.drewN n) = .ok (.string (strOfNums bs)) (w.drewN n) := by
  refine run_convert_bytes_arg (P := Tryd.prog) (w.drewN n) 32 5 Tryd.underlying32 Tryd.underlying5 g 0 bs.length cap bs rfl (fun i hi => ?_) 9 Tryd.underlying9
  rw [Nat.zero_add]; exact own_get h hi
theorem equal_m (g cap g' cap' : Nat) (bs cs : List Int) (w : World) (h : w.ownsRow 0 5 1 (.slice (some ⟨g, 0, none⟩) bs.length cap) bs.length (bv bs)) (h2 : w.ownsRow 0 5 1 (.slice (some ⟨g', 0, none⟩) cs.length cap') cs.length (bv cs)) (hb : ∀ z ∈ bs, 0 ≤ z ∧ z ≤ 255) (hc : ∀ z ∈ cs, 0 ≤ z ∧ z ≤ 255) (k : Nat) :
    Calls Tryd.prog 64 #[.slice (some ⟨g, 0, none⟩) bs.length cap, .slice (some ⟨g', 0, none⟩) cs.length cap'] (w.drewN k) fun e w' => e = .returned (.bool (decide (bs = cs))) ∧ ∃ n, w' = (w.drewN k).drewN n := by
  have q1 := conv_r h k
  have q2 := conv_r h2 k
  have hq : ((strOfNums bs).toList == (strOfNums cs).toList) = decide (bs = cs) := by
    rw [show (strOfNums bs).toList = (strOfNums bs).data.toList from (Lib.strOfNums_toList bs).trans rfl, show (strOfNums cs).toList = (strOfNums cs).data.toList from (Lib.strOfNums_toList cs).trans rfl]
    by_cases e : bs = cs
    · rw [e]; simp
    · rw [decide_eq_false e, beq_eq_false_iff_ne]
      exact fun h => e (by rw [← str_back bs hb, h, str_back cs hc])
  generalize strOfNums bs = s1 at *
  generalize strOfNums cs = s2 at *
  generalize w.drewN k = w1 at *
  clear h h2
  go_enter Tryd.func64, Tryd.ntmps64
  go_wp2
  go_ret
  exact ⟨by rw [← hq]; rfl, 0, rfl⟩
theorem same_m (a g cap o g' cap' : Nat) (bs cs : List Int) (lg lg' : Bool) (tv tv' : Value) (ts ts' : List (Int × Bool)) (w : World) (h : MemS w a g cap bs lg tv ts) (h2 : MemS w o g' cap' cs lg' tv' ts') :
    Calls Tryd.prog 49 #[.pointer (some ⟨a, 0, none⟩), .pointer (some ⟨o, 0, none⟩)] w fun e w' => e = .returned (.bool (decide (bs = cs))) ∧ ∃ n, w' = w.drewN n := by
  have c0 := (obj_cell h.obj 0).trans rfl
  have c1 : w.cell? ⟨a, 1, none⟩ = some (.slice (some ⟨g, 0, none⟩) bs.length cap) := (obj_cell h.obj 1).trans rfl
  have d0 := (obj_cell h2.obj 0).trans rfl
  have d1 : w.cell? ⟨o, 1, none⟩ = some (.slice (some ⟨g', 0, none⟩) cs.length cap') := (obj_cell h2.obj 1).trans rfl
  have HM := hidS (fun n => made_yes a (w.drewN n) c0)
  have HN := hidS (fun n => made_yes o (w.drewN n) d0)
  have HE := hidS (equal_m g cap g' cap' bs cs w h.row h2.row h.wf h2.wf)
  clear h h2 c0 d0
  generalize decide (bs = cs) = q at *
  go_enter Tryd.func49, Tryd.ntmps49
  go_wp2_with fail
  go_quiet (first | (with_reducible refine Calls.quiet_of_same (HM.out _)) | (with_reducible refine Calls.quiet_of_same (HN.out _)) | (with_reducible refine Calls.quiet_of (HE.out _)))
  go_wp2_with fail
  go_ret
  exact ⟨rfl, _, rfl⟩
set_option maxHeartbeats 1000000 in
theorem clone_m (a g cap : Nat) (bs : List Int) (lg : Bool) (tv : Value) (ts : List (Int × Bool)) (w : World) (h : MemS w a g cap bs lg tv ts) :
    Calls Tryd.prog 34 #[.pointer (some ⟨a, 0, none⟩)] w fun e w' => ∃ o g' cap', e = .returned (.pointer (some ⟨o, 0, none⟩)) ∧ MemS w' o g' cap' bs false (.slice none 0 0) [] ∧ w.heap.size ≤ o ∧ w.heap.size ≤ g' ∧ Below w.heap.size w w' := by
  have hb := h.pw.bd
  have hM := made_yes a w ((obj_cell h.obj 0).trans rfl)
  have c1 : w.cell? ⟨a, 1, none⟩ = some (.slice (some ⟨g, 0, none⟩) bs.length cap) := (obj_cell h.obj 1).trans rfl
  have hC := clone_any (some ⟨g, 0, none⟩) cap bs w (by omega) (fun e => by cases e) (reads_own h.row (by simp))
  have HC : Hid (Calls Tryd.prog 53 #[.slice (some ⟨g, 0, none⟩) bs.length cap] w fun e w1 => ∃ g c, e = .returned (.slice (some ⟨g, 0, none⟩) bs.length c) ∧ Hid (w1.ownsRow w.heap.size 5 1 (.slice (some ⟨g, 0, none⟩) bs.length c) bs.length (bv bs) ∧ Below w.heap.size w w1)) := hC.mono fun e w1 ⟨v, he, ho, hb⟩ => by
    obtain ⟨g, c, rfl, _⟩ := own_form ho (by omega)
    exact ⟨g, c, he, ho, hb⟩
  have HH := hidS (fun g c W ho => hold_any g c bs W ho h.pw h.wf)
  clear h hC
  go_enter Tryd.func34, Tryd.ntmps34
  go_wp2_with (first
    | (go_at_call 24; with_reducible refine hM.mono ?_; rintro e wq ⟨rfl, hq⟩; subst wq)
    | (go_at_call 53; with_reducible refine HC.out.mono ?_; rintro e w1 ⟨g2, c2, rfl, HQ⟩)
    | (go_at_call 59; with_reducible refine (HH.out _ _ _ (own_base HQ.out.1 (Nat.zero_le _))).mono ?_; rintro e w2 ⟨rfl, hq1, hq2⟩; have HQ1 := hidS hq1; have HQ2 := hidS hq2; clear hq1 hq2)
    | fail)
  go_ret
  have hgB := (HQ.out.1.lt g2 rfl).1
  exact ⟨_, g2, c2, rfl, HQ1.out, HQ.out.2.size, hgB, HQ.out.2.trans (HQ2.out.mono HQ.out.2.size)⟩
theorem made_form {w w1 : World} {n : Nat} (hrow : w1.ownsRow w.heap.size 5 1 (.slice (some ⟨w.heap.size, 0, none⟩) n n) n (bv (List.replicate n 0))) : w1.heap[w.heap.size]? = some (.cells (bv (List.replicate n 0) ++ []).toArray 5 (0, 0)) := by
  rcases hrow.2 with ⟨e, _⟩ | ⟨g', cap', cur, e, _, hg', _, _, hs, htk⟩
  · simp at e
  · simp only [Value.slice.injEq, Option.some.injEq, Addr.mk.injEq, true_and, and_true] at e
    obtain ⟨rfl, rfl⟩ := e
    have hcur : cur = (bv (List.replicate n 0) ++ []).toArray := by
      rw [Nat.mul_one, List.take_of_length_le (by simpa using Nat.le_of_eq hs)] at htk
      rw [List.append_nil, ← htk]
    rw [hcur] at hg'
    exact hg'
set_option maxHeartbeats 1000000 in
theorem read_m (lg : Bool) (hN : NoteOk 70 false lg) (a g cp x n : Nat) (bs : List Int) (tv : Value) (ts : List (Int × Bool)) (w : World) (h : MemS w a g cp bs lg tv ts) (hx : x < 4294967296) (hn : n ≤ 4096) :
    Calls Tryd.prog 44 #[.pointer (some ⟨a, 0, none⟩), .int .u32 x, .int .i64 n] w fun e w' => e = .returned (.tuple #[.slice (some ⟨w.heap.size, 0, none⟩) n n, .int .i64 0]) ∧
      (∃ tv', MemS w' a g cp bs lg tv' (lgL lg ts (tcs x n bs.length false)) ∧ (∀ j, tv'.ownBlock = some j → tv.ownBlock = some j ∨ w.heap.size + 1 ≤ j)) ∧ Kp (Foot a g tv) w w' ∧ w'.heap[w.heap.size]? = some (.cells (bv (rdL bs x n)).toArray 5 (0, 0)) := by
  have hM := made_yes a w ((obj_cell h.obj 0).trans rfl)
  obtain ⟨w1, hm, hrow, hb⟩ := make_any .i64 n (by omega) w
  have hg' := made_form hrow
  have hwlt : w.heap.size < w1.heap.size := (Array.getElem?_eq_some_iff.1 hg').1
  have h1 := h.kept (S := fun _ => False) (Kp.ofBelow hb) (fun _ _ h => h)
  have hR : Calls Tryd.prog 63 #[.pointer (some ⟨a, 0, none⟩), .int .u32 x, .slice (some ⟨w.heap.size, 0, none⟩) n n] w1 fun e w2 => e = .returned (.tuple #[]) ∧
      Hid ((∃ tv', MemS w2 a g cp bs lg tv' (lgL lg ts (tcs x n bs.length false)) ∧ (∀ j, tv'.ownBlock = some j → tv.ownBlock = some j ∨ w.heap.size + 1 ≤ j)) ∧ Kp (Foot a g tv) w w2 ∧ w2.heap[w.heap.size]? = some (.cells (bv (rdL bs x n)).toArray 5 (0, 0))) := by
    refine (read_any lg hN a g cp w.heap.size n x n bs (List.replicate n 0) [] 5 tv ts w1 h1 hx (by omega) hg' (by simp) (Nat.le_refl _) (by unfold maxLen; omega) (fun hF => by have := h.lt _ hF; omega)).mono fun e w2 ⟨he, ⟨tv', k1, k2⟩, k3, k4⟩ => ⟨he, ⟨tv', k1, fun j hj => (k2 j hj).imp id (fun h => by omega)⟩, ?_, ?_⟩
    · exact (Kp.ofBelow (S := Foot a g tv) hb).trans k3 (fun i hi h => h.elim id (fun e => by omega))
    · rw [List.append_nil] at k4; exact k4
  have hI0 : ¬ (n : Int) < 0 := by omega
  have hI : ¬ (4096 : Int) < (n : Int) := by omega
  clear h h1 hrow hb hg' hN
  go_enter Tryd.func44, Tryd.ntmps44
  go_wp2_with (first
    | (go_at_call 24; with_reducible refine hM.mono ?_; rintro e wq ⟨rfl, hq⟩; subst wq)
    | (go_at_call 63; with_reducible refine hR.mono ?_; rintro e w2 ⟨rfl, HQ⟩)
    | fail)
  go_ret2
  exact ⟨rfl, HQ.out⟩
set_option maxHeartbeats 1000000 in
theorem write_m (lg : Bool) (hN : NoteOk 67 true lg) (a g cp x cap sb so : Nat) (bo : Option Addr) (bs zs : List Int) (tv : Value) (ts : List (Int × Bool)) (w : World) (h : MemS w a g cp bs lg tv ts) (hx : x < 4294967296) (hn : zs.length ≤ 4096) (hc : zs.length ≤ cap) (hwf : ∀ z ∈ zs, 0 ≤ z ∧ z ≤ 255) (hs : Src w bo sb so zs) (nd : ¬ Foot a g tv sb) :
    Calls Tryd.prog 47 #[.pointer (some ⟨a, 0, none⟩), .int .u32 x, .slice bo zs.length cap] w fun e w' => e = .returned (.int .i64 0) ∧
      (∃ tv', MemS w' a g cp (wrL bs x zs) lg tv' (lgL lg ts (tcs x zs.length bs.length true)) ∧ (∀ j, tv'.ownBlock = some j → tv.ownBlock = some j ∨ w.heap.size ≤ j)) ∧ Kp (Foot a g tv) w w' := by
  have hM := made_yes a w ((obj_cell h.obj 0).trans rfl)
  have HW := hidS (write_any lg hN a g cp cap x zs.length sb so bo bs zs tv ts w h hx (by omega) rfl hc hwf hs nd)
  have hI : ¬ (4096 : Int) < (zs.length : Int) := by omega
  clear h hwf hs nd hN
  go_enter Tryd.func47, Tryd.ntmps47
  go_wp2_with (first
    | (go_at_call 24; with_reducible refine hM.mono ?_; rintro e wq ⟨rfl, hq⟩; subst wq)
    | (go_at_call 56; with_reducible refine HW.out.mono ?_; rintro e w1 ⟨rfl, hq⟩; have HQ := hidS hq; clear hq)
    | fail)
  go_ret
  exact ⟨rfl, HQ.out⟩
set_option maxHeartbeats 1000000 in
theorem copy_m (lg : Bool) (hN : NoteOk 70 false lg) (hN2 : NoteOk 67 true lg) (a g cp to fr n : Nat) (bs : List Int) (tv : Value) (ts : List (Int × Bool)) (w : World) (h : MemS w a g cp bs lg tv ts) (ht : to < 4294967296) (hf : fr < 4294967296) (hn : n ≤ 4096) :
    Calls Tryd.prog 42 #[.pointer (some ⟨a, 0, none⟩), .int .u32 to, .int .u32 fr, .int .u32 n] w fun e w' => e = .returned (.int .i64 0) ∧
      (∃ tv', MemS w' a g cp (wrL bs to (rdL bs fr n)) lg tv' (lgL lg (lgL lg ts (tcs fr n bs.length false)) (tcs to n bs.length true)) ∧ (∀ j, tv'.ownBlock = some j → tv.ownBlock = some j ∨ w.heap.size ≤ j)) ∧ Kp (Foot a g tv) w w' := by
  have hM := made_yes a w ((obj_cell h.obj 0).trans rfl)
  obtain ⟨w1, hm, hrow, hb⟩ := make_any .u32 n (by omega) w
  have hg' := made_form hrow
  have hwlt : w.heap.size < w1.heap.size := (Array.getElem?_eq_some_iff.1 hg').1
  have h1 := h.kept (S := fun _ => False) (Kp.ofBelow hb) (fun _ _ h => h)
  have hR : Calls Tryd.prog 63 #[.pointer (some ⟨a, 0, none⟩), .int .u32 fr, .slice (some ⟨w.heap.size, 0, none⟩) n n] w1 fun e w2 => e = .returned (.tuple #[]) ∧
      Hid ((∃ tv', MemS w2 a g cp bs lg tv' (lgL lg ts (tcs fr n bs.length false)) ∧ (∀ j, tv'.ownBlock = some j → tv.ownBlock = some j ∨ w.heap.size + 1 ≤ j)) ∧ Kp (Foot a g tv) w w2 ∧ w2.heap[w.heap.size]? = some (.cells (bv (rdL bs fr n)).toArray 5 (0, 0))) := by
    refine (read_any lg hN a g cp w.heap.size n fr n bs (List.replicate n 0) [] 5 tv ts w1 h1 hf (by omega) hg' (by simp) (Nat.le_refl _) (by unfold maxLen; omega) (fun hF => by have := h.lt _ hF; omega)).mono fun e w2 ⟨he, ⟨tv', k1, k2⟩, k3, k4⟩ => ⟨he, ⟨tv', k1, fun j hj => (k2 j hj).imp id (fun h => by omega)⟩, ?_, ?_⟩
    · exact (Kp.ofBelow (S := Foot a g tv) hb).trans k3 (fun i hi h => h.elim id (fun e => by omega))
    · rw [List.append_nil] at k4; exact k4
  have hW : ∀ w2, ((∃ tv', MemS w2 a g cp bs lg tv' (lgL lg ts (tcs fr n bs.length false)) ∧ (∀ j, tv'.ownBlock = some j → tv.ownBlock = some j ∨ w.heap.size + 1 ≤ j)) ∧ Kp (Foot a g tv) w w2 ∧ w2.heap[w.heap.size]? = some (.cells (bv (rdL bs fr n)).toArray 5 (0, 0))) →
      Calls Tryd.prog 56 #[.pointer (some ⟨a, 0, none⟩), .int .u32 to, .slice (some ⟨w.heap.size, 0, none⟩) n n] w2 fun e w3 => e = .returned (.tuple #[]) ∧
      Hid ((∃ tv', MemS w3 a g cp (wrL bs to (rdL bs fr n)) lg tv' (lgL lg (lgL lg ts (tcs fr n bs.length false)) (tcs to n bs.length true)) ∧ (∀ j, tv'.ownBlock = some j → tv.ownBlock = some j ∨ w.heap.size ≤ j)) ∧ Kp (Foot a g tv) w w3) := fun w2 ⟨⟨tv2, k1, k2⟩, k3, k4⟩ => by
    have hd2 : w.heap.size < w2.heap.size := (Array.getElem?_eq_some_iff.1 k4).1
    refine (write_any lg hN2 a g cp n to n w.heap.size 0 (some ⟨w.heap.size, 0, none⟩) bs (rdL bs fr n) tv2 _ w2 k1 ht (by omega) (rdL_len _ _ _) (Nat.le_refl _) (rdL_wf _ _ _ h.wf (by have := h.pw.bd; omega)) (fun _ => ⟨rfl, hd2, fun i hi => ?_⟩) ?_).mono fun e w3 ⟨he, ⟨tv3, q1, q2⟩, q3⟩ => ⟨he, ⟨tv3, q1, fun j hj => (q2 j hj).elim (fun h => (k2 j h).imp id (fun h => by omega)) (fun h => .inr (by have := k3.size; omega))⟩, k3.trans q3 ?_⟩
    · rw [Nat.zero_add, obj_cell k4 i]
      simp [bv, hi]
    · rintro (e | e | e)
      · have := h.lt a (.inl rfl); omega
      · have := h.lt g (.inr (.inl rfl)); omega
      · rcases k2 _ e with e | e
        · have := h.lt _ (.inr (.inr e)); omega
        · omega
    · rintro i hi (e | e | e)
      · exact .inl e
      · exact .inr (.inl e)
      · rcases k2 _ e with e | e
        · exact .inr (.inr e)
        · omega
  have HW := hidS hW
  have hI : ¬ (4096 : Int) < (n : Int) := by omega
  clear h h1 hrow hb hg' hN hN2 hW
  go_enter Tryd.func42, Tryd.ntmps42
  go_wp2_with (first
    | (go_at_call 24; with_reducible refine hM.mono ?_; rintro e wq ⟨rfl, hq⟩; subst wq)
    | (go_at_call 63; with_reducible refine hR.mono ?_; rintro e w2 ⟨rfl, HQ⟩)
    | (go_at_call 56; with_reducible refine (HW.out _ HQ.out).mono ?_; rintro e w3 ⟨rfl, HQ3⟩)
    | fail)
  go_ret
  exact ⟨rfl, HQ3.out⟩
theorem copy_long (a n : Nat) (to fr : Value) (w : World) (h0 : w.cell? ⟨a, 0, none⟩ = some (.pointer (some ⟨a, 0, none⟩))) (hn : 4096 < n) :
    Calls Tryd.prog 42 #[.pointer (some ⟨a, 0, none⟩), to, fr, .int .u32 n] w fun e w' => e = .returned (.int .i64 92) ∧ w' = w := by
  have hM := made_yes a w h0
  have hI : (4096 : Int) < (n : Int) := by omega
  go_enter Tryd.func42, Tryd.ntmps42
  go_wp2_with (first
    | (go_at_call 24; with_reducible refine hM.mono ?_; rintro e wq ⟨rfl, hq⟩; subst wq)
    | fail)
  go_ret
  exact ⟨rfl, rfl⟩
end Go.Proofs.YtnjglagfpghbjaaDoor
namespace Go.Proofs.YtnjglagfpghbjaaDoor
open Go.RowKit Go.WideShapes
set_option maxRecDepth 100000

theorem load1_m (lg : Bool) (hN : NoteOk 70 false lg) (a g cap x : Nat) (bs : List Int) (tv : Value) (ts : List (Int × Bool)) (w : World) (hS : MemS w a g cap bs lg tv ts) (hx : x < 4294967296) :
    Calls Tryd.prog 36 #[.pointer (some ⟨a, 0, none⟩), .int .u32 x] w fun e w' => e = .returned (.int .u32 (n4 (rdL bs x 1))) ∧
      (∃ tv', MemS w' a g cap bs lg tv' (lgL lg ts (tcs x 1 bs.length false)) ∧ (∀ j, tv'.ownBlock = some j → tv.ownBlock = some j ∨ w.heap.size ≤ j)) ∧ Kp (Foot a g tv) w w' := by
  have HL : Hid (Calls Tryd.prog 61 #[.pointer (some ⟨a, 0, none⟩), .int .u32 x, .int .i64 1] w fun e w' => e = .returned (.int .u32 (n4 (rdL bs x 1))) ∧
      (∃ tv', MemS w' a g cap bs lg tv' (lgL lg ts (tcs x 1 bs.length false)) ∧ (∀ j, tv'.ownBlock = some j → tv.ownBlock = some j ∨ w.heap.size ≤ j)) ∧ Kp (Foot a g tv) w w') := load_any lg hN a g cap x 1 bs tv ts w hS hx (by decide)
  clear hS hN
  go_enter Tryd.func36, Tryd.ntmps36
  go_wp2_with (first
    | (go_at_call 61; with_reducible refine HL.out.mono ?_; rintro e w1 ⟨rfl, hq⟩; have HQ := hidS hq; clear hq)
    | fail)
  go_ret
  exact ⟨rfl, HQ.out⟩
theorem store1_m (lg : Bool) (hN : NoteOk 67 true lg) (a g cap x : Nat) (v : Int) (bs : List Int) (tv : Value) (ts : List (Int × Bool)) (w : World) (hS : MemS w a g cap bs lg tv ts) (hx : x < 4294967296) (hv : 0 ≤ v ∧ v < 4294967296) :
    Calls Tryd.prog 13 #[.pointer (some ⟨a, 0, none⟩), .int .u32 x, .int .u32 v] w fun e w' => e = .returned (.tuple #[]) ∧
      (∃ tv', MemS w' a g cap (wrL bs x ((by4 v).take 1)) lg tv' (lgL lg ts (tcs x 1 bs.length true)) ∧ (∀ j, tv'.ownBlock = some j → tv.ownBlock = some j ∨ w.heap.size ≤ j)) ∧ Kp (Foot a g tv) w w' := by
  have HL : Hid (Calls Tryd.prog 25 #[.pointer (some ⟨a, 0, none⟩), .int .u32 x, .int .u32 v, .int .i64 1] w fun e w' => e = .returned (.tuple #[]) ∧
      (∃ tv', MemS w' a g cap (wrL bs x ((by4 v).take 1)) lg tv' (lgL lg ts (tcs x 1 bs.length true)) ∧ (∀ j, tv'.ownBlock = some j → tv.ownBlock = some j ∨ w.heap.size ≤ j)) ∧ Kp (Foot a g tv) w w') := store_any lg hN a g cap x 1 v bs tv ts w hS hx (by decide) hv
  clear hS hv hN
  go_enter Tryd.func13, Tryd.ntmps13
  go_wp2_with (first
    | (go_at_call 25; with_reducible refine HL.out.mono ?_; rintro e w1 ⟨rfl, hq⟩; have HQ := hidS hq; clear hq)
    | fail)
  go_end0
  exact ⟨rfl, HQ.out⟩
theorem load2_m (lg : Bool) (hN : NoteOk 70 false lg) (a g cap x : Nat) (bs : List Int) (tv : Value) (ts : List (Int × Bool)) (w : World) (hS : MemS w a g cap bs lg tv ts) (hx : x < 4294967296) :
    Calls Tryd.prog 38 #[.pointer (some ⟨a, 0, none⟩), .int .u32 x] w fun e w' => e = .returned (.int .u32 (n4 (rdL bs x 2))) ∧
      (∃ tv', MemS w' a g cap bs lg tv' (lgL lg ts (tcs x 2 bs.length false)) ∧ (∀ j, tv'.ownBlock = some j → tv.ownBlock = some j ∨ w.heap.size ≤ j)) ∧ Kp (Foot a g tv) w w' := by
  have HL : Hid (Calls Tryd.prog 61 #[.pointer (some ⟨a, 0, none⟩), .int .u32 x, .int .i64 2] w fun e w' => e = .returned (.int .u32 (n4 (rdL bs x 2))) ∧
      (∃ tv', MemS w' a g cap bs lg tv' (lgL lg ts (tcs x 2 bs.length false)) ∧ (∀ j, tv'.ownBlock = some j → tv.ownBlock = some j ∨ w.heap.size ≤ j)) ∧ Kp (Foot a g tv) w w') := load_any lg hN a g cap x 2 bs tv ts w hS hx (by decide)
  clear hS hN
  go_enter Tryd.func38, Tryd.ntmps38
  go_wp2_with (first
    | (go_at_call 61; with_reducible refine HL.out.mono ?_; rintro e w1 ⟨rfl, hq⟩; have HQ := hidS hq; clear hq)
    | fail)
  go_ret
  exact ⟨rfl, HQ.out⟩
theorem store2_m (lg : Bool) (hN : NoteOk 67 true lg) (a g cap x : Nat) (v : Int) (bs : List Int) (tv : Value) (ts : List (Int × Bool)) (w : World) (hS : MemS w a g cap bs lg tv ts) (hx : x < 4294967296) (hv : 0 ≤ v ∧ v < 4294967296) :
    Calls Tryd.prog 40 #[.pointer (some ⟨a, 0, none⟩), .int .u32 x, .int .u32 v] w fun e w' => e = .returned (.tuple #[]) ∧
      (∃ tv', MemS w' a g cap (wrL bs x ((by4 v).take 2)) lg tv' (lgL lg ts (tcs x 2 bs.length true)) ∧ (∀ j, tv'.ownBlock = some j → tv.ownBlock = some j ∨ w.heap.size ≤ j)) ∧ Kp (Foot a g tv) w w' := by
  have HL : Hid (Calls Tryd.prog 25 #[.pointer (some ⟨a, 0, none⟩), .int .u32 x, .int .u32 v, .int .i64 2] w fun e w' => e = .returned (.tuple #[]) ∧
      (∃ tv', MemS w' a g cap (wrL bs x ((by4 v).take 2)) lg tv' (lgL lg ts (tcs x 2 bs.length true)) ∧ (∀ j, tv'.ownBlock = some j → tv.ownBlock = some j ∨ w.heap.size ≤ j)) ∧ Kp (Foot a g tv) w w') := store_any lg hN a g cap x 2 v bs tv ts w hS hx (by decide) hv
  clear hS hv hN
  go_enter Tryd.func40, Tryd.ntmps40
  go_wp2_with (first
    | (go_at_call 25; with_reducible refine HL.out.mono ?_; rintro e w1 ⟨rfl, hq⟩; have HQ := hidS hq; clear hq)
    | fail)
  go_end0
  exact ⟨rfl, HQ.out⟩
theorem load4_m (lg : Bool) (hN : NoteOk 70 false lg) (a g cap x : Nat) (bs : List Int) (tv : Value) (ts : List (Int × Bool)) (w : World) (hS : MemS w a g cap bs lg tv ts) (hx : x < 4294967296) :
    Calls Tryd.prog 39 #[.pointer (some ⟨a, 0, none⟩), .int .u32 x] w fun e w' => e = .returned (.int .u32 (n4 (rdL bs x 4))) ∧
      (∃ tv', MemS w' a g cap bs lg tv' (lgL lg ts (tcs x 4 bs.length false)) ∧ (∀ j, tv'.ownBlock = some j → tv.ownBlock = some j ∨ w.heap.size ≤ j)) ∧ Kp (Foot a g tv) w w' := by
  have HL : Hid (Calls Tryd.prog 61 #[.pointer (some ⟨a, 0, none⟩), .int .u32 x, .int .i64 4] w fun e w' => e = .returned (.int .u32 (n4 (rdL bs x 4))) ∧
      (∃ tv', MemS w' a g cap bs lg tv' (lgL lg ts (tcs x 4 bs.length false)) ∧ (∀ j, tv'.ownBlock = some j → tv.ownBlock = some j ∨ w.heap.size ≤ j)) ∧ Kp (Foot a g tv) w w') := load_any lg hN a g cap x 4 bs tv ts w hS hx (by decide)
  clear hS hN
  go_enter Tryd.func39, Tryd.ntmps39
  go_wp2_with (first
    | (go_at_call 61; with_reducible refine HL.out.mono ?_; rintro e w1 ⟨rfl, hq⟩; have HQ := hidS hq; clear hq)
    | fail)
  go_ret
  exact ⟨rfl, HQ.out⟩
theorem store4_m (lg : Bool) (hN : NoteOk 67 true lg) (a g cap x : Nat) (v : Int) (bs : List Int) (tv : Value) (ts : List (Int × Bool)) (w : World) (hS : MemS w a g cap bs lg tv ts) (hx : x < 4294967296) (hv : 0 ≤ v ∧ v < 4294967296) :
    Calls Tryd.prog 41 #[.pointer (some ⟨a, 0, none⟩), .int .u32 x, .int .u32 v] w fun e w' => e = .returned (.tuple #[]) ∧
      (∃ tv', MemS w' a g cap (wrL bs x ((by4 v).take 4)) lg tv' (lgL lg ts (tcs x 4 bs.length true)) ∧ (∀ j, tv'.ownBlock = some j → tv.ownBlock = some j ∨ w.heap.size ≤ j)) ∧ Kp (Foot a g tv) w w' := by
  have HL : Hid (Calls Tryd.prog 25 #[.pointer (some ⟨a, 0, none⟩), .int .u32 x, .int .u32 v, .int .i64 4] w fun e w' => e = .returned (.tuple #[]) ∧
      (∃ tv', MemS w' a g cap (wrL bs x ((by4 v).take 4)) lg tv' (lgL lg ts (tcs x 4 bs.length true)) ∧ (∀ j, tv'.ownBlock = some j → tv.ownBlock = some j ∨ w.heap.size ≤ j)) ∧ Kp (Foot a g tv) w w') := store_any lg hN a g cap x 4 v bs tv ts w hS hx (by decide) hv
  clear hS hv hN
  go_enter Tryd.func41, Tryd.ntmps41
  go_wp2_with (first
    | (go_at_call 25; with_reducible refine HL.out.mono ?_; rintro e w1 ⟨rfl, hq⟩; have HQ := hidS hq; clear hq)
    | fail)
  go_end0
  exact ⟨rfl, HQ.out⟩
end Go.Proofs.YtnjglagfpghbjaaDoor
namespace Go.Proofs.YtnjglagfpghbjaaDoor
open Go.RowKit Go.WideShapes
set_option maxRecDepth 100000

set_option maxHeartbeats 1000000 in
theorem touched_any (a g cap : Nat) (bs : List Int) (lg : Bool) (tv : Value) (ts : List (Int × Bool)) (w : World) (h : MemS w a g cap bs lg tv ts) :
    Calls Tryd.prog 11 #[.pointer (some ⟨a, 0, none⟩)] w fun e w' => e = .returned tv ∧ MemS w' a g cap bs lg (.slice none 0 0) [] ∧ w'.ownsRow 0 56 2 tv ts.length (tvv ts) ∧ Kp (fun k => k = a) w w' := by
  have hM := made_yes a w ((obj_cell h.obj 0).trans rfl)
  have c3 : w.cell? ⟨a, 3, none⟩ = some tv := (obj_cell h.obj 3).trans rfl
  have f3 : w.frozen? ⟨a, 3, none⟩ = false := obj_frozen h.obj 3
  have HH := hidS h
  clear h
  go_enter Tryd.func11, Tryd.ntmps11
  go_wp2_with (first
    | (go_at_call 24; with_reducible refine hM.mono ?_; rintro e wq ⟨rfl, hq⟩; subst wq)
    | fail)
  go_ret
  have hk : Kp (fun k => k = a) w (w.setCell ⟨a, 3, none⟩ (.slice none 0 0)) := Kp.setCell (S := fun k => k = a) _ _ _ rfl
  refine ⟨rfl, HH.out.of_obj (ts' := []) hk (fun e => HH.out.ne e.symm) (set_obj3 HH.out.obj) (World.ownsRow_nil _ _ _ _) (by simp [Value.ownBlock]) (by simp [Value.ownBlock]) (by simp), hk.own HH.out.log (fun k e h => HH.out.na (h ▸ e)), hk⟩
set_option maxHeartbeats 1000000 in
theorem log_any (a g cap : Nat) (bs : List Int) (lg on : Bool) (tv : Value) (ts : List (Int × Bool)) (w : World) (h : MemS w a g cap bs lg tv ts) :
    Calls Tryd.prog 8 #[.pointer (some ⟨a, 0, none⟩), .bool on] w fun e w' => e = .returned (.tuple #[]) ∧ MemS w' a g cap bs on (.slice none 0 0) [] ∧ Kp (fun k => k = a) w w' := by
  have hM := made_yes a w ((obj_cell h.obj 0).trans rfl)
  have f3 : w.frozen? ⟨a, 3, none⟩ = false := obj_frozen h.obj 3
  have f2 : w.frozen? ⟨a, 2, none⟩ = false := obj_frozen h.obj 2
  have c3 : w.cell? ⟨a, 3, none⟩ = some tv := (obj_cell h.obj 3).trans rfl
  have c2 : w.cell? ⟨a, 2, none⟩ = some (.bool lg) := (obj_cell h.obj 2).trans rfl
  have HH := hidS h
  clear h
  go_enter Tryd.func8, Tryd.ntmps8
  go_wp2_with (first
    | (go_at_call 24; with_reducible refine hM.mono ?_; rintro e wq ⟨rfl, hq⟩; subst wq)
    | fail)
  go_end0
  have hk : Kp (fun k => k = a) w ((w.setCell ⟨a, 2, none⟩ (.bool on)).setCell ⟨a, 3, none⟩ (.slice none 0 0)) := (Kp.setCell (S := fun k => k = a) _ _ _ rfl).trans (Kp.setCell (S := fun k => k = a) _ _ _ rfl) (fun _ _ h => h)
  exact ⟨rfl, HH.out.of_obj (ts' := []) hk (fun e => HH.out.ne e.symm) (set_obj3 (set_obj2 HH.out.obj)) (World.ownsRow_nil _ _ _ _) (by simp [Value.ownBlock]) (by simp [Value.ownBlock]) (by simp), hk⟩
end Go.Proofs.YtnjglagfpghbjaaDoor
namespace Go.Proofs.YtnjglagfpghbjaaDoor
open Go.RowKit Go.WideShapes
set_option maxRecDepth 100000

/-- bytes that count up -/
def ramp (n : Nat) : List Int := (List.range n).map fun i : Nat => (i : Int) % 256
theorem ramp_len (n : Nat) : (ramp n).length = n := by simp [ramp]
theorem ramp_succ (n : Nat) : ramp (n + 1) = ramp n ++ [(n : Int) % 256] := by simp [ramp, List.range_succ]
theorem ramp_wf (n : Nat) : ∀ z ∈ ramp n, 0 ≤ z ∧ z ≤ 255 := by
  intro z hz
  simp only [ramp, List.mem_map] at hz
  obtain ⟨i, _, rfl⟩ := hz
  omega
end Go.Proofs.YtnjglagfpghbjaaDoor
namespace Go.Proofs.YtnjglagfpghbjaaDoor
open Go.RowKit Go.WideShapes
set_option maxRecDepth 100000

set_option maxHeartbeats 2000000 in
theorem noteR_on (a g cap bm ba x n K : Nat) (bs : List Int) (to : Option Addr) (tc : Nat) (ts : List (Int × Bool)) (w : World) (hS : MemS w a g cap bs true (.slice to ts.length tc) ts) (hx : x < 4294967296) (hn : n ≤ 65536)
    (hm : w.cell? ⟨bm, 0, none⟩ = some (.pointer (some ⟨a, 0, none⟩))) (ha : w.cell? ⟨ba, 0, none⟩ = some (.int .u32 x)) (nm : ¬ Foot a g (.slice to ts.length tc) bm) (na : ¬ Foot a g (.slice to ts.length tc) ba)
    (hKn : K ≤ n) (hKt : ts.length + K ≤ 65536) (hmin : (if 65536 - (ts.length : Int) < (n : Int) then 65536 - (ts.length : Int) else (n : Int)) = (K : Int)) :
    Calls Tryd.prog 66 #[.pointer (some ⟨a, 0, none⟩), .int .i64 n, .func (.func 70) #[] #[.pointer (some ⟨bm, 0, none⟩), .pointer (some ⟨ba, 0, none⟩)]] w fun e w' => e = .returned (.tuple #[]) ∧
      ∃ tv', MemS w' a g cap bs true tv' (ts ++ tcs x K bs.length false) ∧ Kp (Foot a g (.slice to ts.length tc)) w w' ∧ ∀ j, tv'.ownBlock = some j → (Value.slice to ts.length tc).ownBlock = some j ∨ w.heap.size ≤ j := by
  have hl := hS.tl
  have c2 := (obj_cell hS.obj 2).trans rfl
  have c3 := (obj_cell hS.obj 3).trans rfl
  obtain ⟨i0, hi, hz0, hz1, hz2⟩ := info_parts infoT
  have HS := hidS hS
  have HM := hidS hm
  have HA := hidS ha
  clear hS hm ha
  go_enter Tryd.func66, Tryd.ntmps66
  · go_wp2_with fail
    go_loopw [20] (fun i wr => ∃ (k : Nat) (tv' : Value), k ≤ K ∧ i = .int .i64 k ∧ MemS wr a g cap bs true tv' (ts ++ tcs x k bs.length false) ∧ Kp (Foot a g (.slice to ts.length tc)) w wr ∧ ∀ j, tv'.ownBlock = some j → (Value.slice to ts.length tc).ownBlock = some j ∨ w.heap.size ≤ j)
      (fun i _ => K - (intOf i).toNat)
    case atStart => exact ⟨0, _, Nat.zero_le _, rfl, by simpa [tcs] using HS.out, Kp.refl _ _, fun j h => .inl h⟩
    case round =>
      obtain ⟨k, tv', hk, rfl, hR, hKp, hTv⟩ := hrel
      have HKp := hidS hKp
      have HTv := hidS hTv
      have HR := hidS hR
      clear hKp hTv
      obtain ⟨to', tc', rfl⟩ := own_slice hR.log
      have e3 := (obj_cell hR.obj 3).trans rfl
      clear hR
      by_cases hlt : k < K
      · have hltI : (k : Int) < (K : Int) := by omega
        have hlk : (ts ++ tcs x k bs.length false).length = ts.length + k := by simp [tcs_len]
        have haw : a < wr.heap.size := HR.out.lt a (.inl rfl)
        have hNA := HR.out.na
        have HT : Hid (∀ W, Below wr.heap.size wr W → Calls Tryd.prog 70 #[.int .i64 k, .pointer (some ⟨bm, 0, none⟩), .pointer (some ⟨ba, 0, none⟩)] W fun e w' => e = .returned (.agg #[.int .u32 ((x + k) % bs.length : Nat), .bool false]) ∧ Below W.heap.size W w') := fun W hW =>
          touchR_any a g cap bs.length bm ba x k W ((hW.cell (p := ⟨bm, 0, none⟩) (Nat.lt_of_lt_of_le (World.block_lt_of_cell? w _ HM.out) HKp.out.size)).trans ((HKp.out.cell (World.block_lt_of_cell? w _ HM.out) nm).trans HM.out))
            ((hW.cell (p := ⟨ba, 0, none⟩) (Nat.lt_of_lt_of_le (World.block_lt_of_cell? w _ HA.out) HKp.out.size)).trans ((HKp.out.cell (World.block_lt_of_cell? w _ HA.out) na).trans HA.out)) ((hW.cell (p := ⟨a, 1, none⟩) haw).trans ((obj_cell HR.out.obj 1).trans rfl)) hx (by omega) HR.out.pw
        have HL : Hid (∀ W, Below wr.heap.size wr W → W.ownsRow 0 56 2 (.slice to' (ts ++ tcs x k bs.length false).length tc') (ts ++ tcs x k bs.length false).length (tvv (ts ++ tcs x k bs.length false))) := fun W hW => (Kp.ofBelow (S := fun _ => False) hW).own HR.out.log (fun _ _ h => h)
        have HG : Hid (∀ W, Below wr.heap.size wr W → (W.cell? ⟨a, 3, none⟩ = some (.slice to' (ts ++ tcs x k bs.length false).length tc') ∧ W.frozen? ⟨a, 3, none⟩ = false)) := fun W hW => ⟨(hW.cell (p := ⟨a, 3, none⟩) haw).trans ((obj_cell HR.out.obj 3).trans rfl), (hW.frozen (p := ⟨a, 3, none⟩) haw).trans (obj_frozen HR.out.obj 3)⟩
        have HB : Below wr.heap.size wr wr := Below.refl _ _
        have HK0 := hidS HKp.out.size
        generalize hpl : ((((x + k) % bs.length : Nat)) : Int) = pl at HT
        have HPL := hidS hpl
        clear hpl
        rw [hlk] at HL HG e3 hNA
        go_wp2_with fail
        have HG0 := HG.out wr HB
        obtain ⟨g0c, g0f⟩ := HG0
        have HHI := hidS hi
        have HZ0 := hidS hz0
        have HZ1 := hidS hz1
        have HZ2 := hidS hz2
        have HNA := hidS hNA
        have HKT := hidS hKt
        have HLK := hidS hlk
        have hk6 : k < 65536 := by omega
        clear c2 c3 e3 hmin hlk hi hz0 hz1 hz2 hNA hKt hKn hltI hk hl hx
        go_region_law (first
          | (refine step_append_lies _ (by rfl) _ _ _ (by rfl) 0 56 i0 (.agg #[.int .u32 0, .bool false]) 2 8 Tryd.underlying40 HHI.out HZ0.out HZ1.out HZ2.out rfl (by decide) (.slice to' (ts.length + k) tc') (ts.length + k) (tvv (ts ++ tcs x k bs.length false)) rfl (HL.out _ (by (repeat (first | exact HB | exact Below.refl _ _ | with_reducible refine belS ?_ | with_reducible refine Below.drew ?_)))) ⟨_, 0, none⟩ 1 1 [.int .u32 pl, .bool false] rfl rfl (World.news_of_block (cs := #[.int .u32 pl, .bool false]) (heap_alloc_new _ _)) (tvv_one' [(pl, false)]) (by decide) (by have := HKT.out; unfold maxLen; omega) (by have := HKT.out; omega) (Nat.zero_le _) _ rfl ?_; intro gg cc w2 own2 hg2 hgg hlt2; have HG2 := hg2; have HGG : (Value.slice to' (ts ++ tcs x k bs.length false).length tc').ownBlock = some gg ∨ wr.heap.size ≤ gg := hgg.imp (fun h => by rw [HLK.out]; exact h) (fun h => by have := HB.size; simp at h; omega); rw [← HLK.out] at HG2; obtain ⟨g2c, g2f⟩ : w2.cell? ⟨a, 3, none⟩ = some (.slice to' (ts.length + k) tc') ∧ w2.frozen? ⟨a, 3, none⟩ = false := ⟨(hg2.cell_far ⟨a, 3, none⟩ (Nat.lt_of_lt_of_le haw (Below.size (B := wr.heap.size) (w := wr) (by (repeat (first | exact HB | exact Below.refl _ _ | with_reducible refine belS ?_ | with_reducible refine Below.drew ?_))))) (fun e => HNA.out e.symm)).trans (HG.out _ (by (repeat (first | exact HB | exact Below.refl _ _ | with_reducible refine belS ?_ | with_reducible refine Below.drew ?_)))).1, (hg2.frozen_far ⟨a, 3, none⟩ (Nat.lt_of_lt_of_le haw (Below.size (B := wr.heap.size) (w := wr) (by (repeat (first | exact HB | exact Below.refl _ _ | with_reducible refine belS ?_ | with_reducible refine Below.drew ?_))))) (fun e => HNA.out e.symm)).trans (HG.out _ (by (repeat (first | exact HB | exact Below.refl _ _ | with_reducible refine belS ?_ | with_reducible refine Below.drew ?_)))).2⟩)
          | (go_simp; go_at_call 70; with_reducible refine (HT.out _ ?_).mono ?_; (repeat (first | exact HB | exact Below.refl _ _ | with_reducible refine belS ?_ | with_reducible refine Below.drew ?_)); rintro e wq ⟨rfl, hq⟩; replace HB : Below wr.heap.size wr wq := btS (by (repeat (first | exact HB | exact Below.refl _ _ | with_reducible refine belS ?_ | with_reducible refine Below.drew ?_))) hq; have haq : a < wq.heap.size := Nat.lt_of_lt_of_le haw HB.size; obtain ⟨gqc, gqf⟩ := HG.out wq HB; clear hq))
        all_goals
          have hst := note_step (p := (pl, false)) (n := ts.length + k) HKp.out HTv.out HR.out (W1 := wq.alloc (.cells #[.int .u32 pl, .bool false] 56)) (by (repeat (first | exact HB | exact Below.refl _ _ | with_reducible refine belS ?_ | with_reducible refine Below.drew ?_))) own2 HG2 HGG HLK.out (by have := HKT.out; omega)
          rw [← HPL.out, List.append_assoc, ← tcs_succ] at hst
          have HST := hidS hst
          clear hst own2 HG2 HGG g2c g2f
          go_wp2_with fail
          go_roundw
          case rel => exact ⟨k + 1, _, by omega, by go_num, HST.out.1, HST.out.2.1, HST.out.2.2⟩
          case measure => simp [intOf]; omega
      · obtain rfl : k = K := by omega
        go_wp2_with fail
        go_end0
        exact ⟨rfl, _, HR.out, HKp.out, HTv.out⟩
end Go.Proofs.YtnjglagfpghbjaaDoor
namespace Go.Proofs.YtnjglagfpghbjaaDoor
open Go.RowKit Go.WideShapes
set_option maxRecDepth 100000

set_option maxHeartbeats 2000000 in
theorem noteW_on (a g cap bm ba x n K : Nat) (bs : List Int) (to : Option Addr) (tc : Nat) (ts : List (Int × Bool)) (w : World) (hS : MemS w a g cap bs true (.slice to ts.length tc) ts) (hx : x < 4294967296) (hn : n ≤ 65536)
    (hm : w.cell? ⟨bm, 0, none⟩ = some (.pointer (some ⟨a, 0, none⟩))) (ha : w.cell? ⟨ba, 0, none⟩ = some (.int .u32 x)) (nm : ¬ Foot a g (.slice to ts.length tc) bm) (na : ¬ Foot a g (.slice to ts.length tc) ba)
    (hKn : K ≤ n) (hKt : ts.length + K ≤ 65536) (hmin : (if 65536 - (ts.length : Int) < (n : Int) then 65536 - (ts.length : Int) else (n : Int)) = (K : Int)) :
    Calls Tryd.prog 66 #[.pointer (some ⟨a, 0, none⟩), .int .i64 n, .func (.func 67) #[] #[.pointer (some ⟨bm, 0, none⟩), .pointer (some ⟨ba, 0, none⟩)]] w fun e w' => e = .returned (.tuple #[]) ∧
      ∃ tv', MemS w' a g cap bs true tv' (ts ++ tcs x K bs.length true) ∧ Kp (Foot a g (.slice to ts.length tc)) w w' ∧ ∀ j, tv'.ownBlock = some j → (Value.slice to ts.length tc).ownBlock = some j ∨ w.heap.size ≤ j := by
  have hl := hS.tl
  have c2 := (obj_cell hS.obj 2).trans rfl
  have c3 := (obj_cell hS.obj 3).trans rfl
  obtain ⟨i0, hi, hz0, hz1, hz2⟩ := info_parts infoT
  have HS := hidS hS
  have HM := hidS hm
  have HA := hidS ha
  clear hS hm ha
  go_enter Tryd.func66, Tryd.ntmps66
  · go_wp2_with fail
    go_loopw [20] (fun i wr => ∃ (k : Nat) (tv' : Value), k ≤ K ∧ i = .int .i64 k ∧ MemS wr a g cap bs true tv' (ts ++ tcs x k bs.length true) ∧ Kp (Foot a g (.slice to ts.length tc)) w wr ∧ ∀ j, tv'.ownBlock = some j → (Value.slice to ts.length tc).ownBlock = some j ∨ w.heap.size ≤ j)
      (fun i _ => K - (intOf i).toNat)
    case atStart => exact ⟨0, _, Nat.zero_le _, rfl, by simpa [tcs] using HS.out, Kp.refl _ _, fun j h => .inl h⟩
    case round =>
      obtain ⟨k, tv', hk, rfl, hR, hKp, hTv⟩ := hrel
      have HKp := hidS hKp
      have HTv := hidS hTv
      have HR := hidS hR
      clear hKp hTv
      obtain ⟨to', tc', rfl⟩ := own_slice hR.log
      have e3 := (obj_cell hR.obj 3).trans rfl
      clear hR
      by_cases hlt : k < K
      · have hltI : (k : Int) < (K : Int) := by omega
        have hlk : (ts ++ tcs x k bs.length true).length = ts.length + k := by simp [tcs_len]
        have haw : a < wr.heap.size := HR.out.lt a (.inl rfl)
        have hNA := HR.out.na
        have HT : Hid (∀ W, Below wr.heap.size wr W → Calls Tryd.prog 67 #[.int .i64 k, .pointer (some ⟨bm, 0, none⟩), .pointer (some ⟨ba, 0, none⟩)] W fun e w' => e = .returned (.agg #[.int .u32 ((x + k) % bs.length : Nat), .bool true]) ∧ Below W.heap.size W w') := fun W hW =>
          touchW_any a g cap bs.length bm ba x k W ((hW.cell (p := ⟨bm, 0, none⟩) (Nat.lt_of_lt_of_le (World.block_lt_of_cell? w _ HM.out) HKp.out.size)).trans ((HKp.out.cell (World.block_lt_of_cell? w _ HM.out) nm).trans HM.out))
            ((hW.cell (p := ⟨ba, 0, none⟩) (Nat.lt_of_lt_of_le (World.block_lt_of_cell? w _ HA.out) HKp.out.size)).trans ((HKp.out.cell (World.block_lt_of_cell? w _ HA.out) na).trans HA.out)) ((hW.cell (p := ⟨a, 1, none⟩) haw).trans ((obj_cell HR.out.obj 1).trans rfl)) hx (by omega) HR.out.pw
        have HL : Hid (∀ W, Below wr.heap.size wr W → W.ownsRow 0 56 2 (.slice to' (ts ++ tcs x k bs.length true).length tc') (ts ++ tcs x k bs.length true).length (tvv (ts ++ tcs x k bs.length true))) := fun W hW => (Kp.ofBelow (S := fun _ => False) hW).own HR.out.log (fun _ _ h => h)
        have HG : Hid (∀ W, Below wr.heap.size wr W → (W.cell? ⟨a, 3, none⟩ = some (.slice to' (ts ++ tcs x k bs.length true).length tc') ∧ W.frozen? ⟨a, 3, none⟩ = false)) := fun W hW => ⟨(hW.cell (p := ⟨a, 3, none⟩) haw).trans ((obj_cell HR.out.obj 3).trans rfl), (hW.frozen (p := ⟨a, 3, none⟩) haw).trans (obj_frozen HR.out.obj 3)⟩
        have HB : Below wr.heap.size wr wr := Below.refl _ _
        have HK0 := hidS HKp.out.size
        generalize hpl : ((((x + k) % bs.length : Nat)) : Int) = pl at HT
        have HPL := hidS hpl
        clear hpl
        rw [hlk] at HL HG e3 hNA
        go_wp2_with fail
        have HG0 := HG.out wr HB
        obtain ⟨g0c, g0f⟩ := HG0
        have HHI := hidS hi
        have HZ0 := hidS hz0
        have HZ1 := hidS hz1
        have HZ2 := hidS hz2
        have HNA := hidS hNA
        have HKT := hidS hKt
        have HLK := hidS hlk
        have hk6 : k < 65536 := by omega
        clear c2 c3 e3 hmin hlk hi hz0 hz1 hz2 hNA hKt hKn hltI hk hl hx
        go_region_law (first
          | (refine step_append_lies _ (by rfl) _ _ _ (by rfl) 0 56 i0 (.agg #[.int .u32 0, .bool false]) 2 8 Tryd.underlying40 HHI.out HZ0.out HZ1.out HZ2.out rfl (by decide) (.slice to' (ts.length + k) tc') (ts.length + k) (tvv (ts ++ tcs x k bs.length true)) rfl (HL.out _ (by (repeat (first | exact HB | exact Below.refl _ _ | with_reducible refine belS ?_ | with_reducible refine Below.drew ?_)))) ⟨_, 0, none⟩ 1 1 [.int .u32 pl, .bool true] rfl rfl (World.news_of_block (cs := #[.int .u32 pl, .bool true]) (heap_alloc_new _ _)) (tvv_one' [(pl, true)]) (by decide) (by have := HKT.out; unfold maxLen; omega) (by have := HKT.out; omega) (Nat.zero_le _) _ rfl ?_; intro gg cc w2 own2 hg2 hgg hlt2; have HG2 := hg2; have HGG : (Value.slice to' (ts ++ tcs x k bs.length true).length tc').ownBlock = some gg ∨ wr.heap.size ≤ gg := hgg.imp (fun h => by rw [HLK.out]; exact h) (fun h => by have := HB.size; simp at h; omega); rw [← HLK.out] at HG2; obtain ⟨g2c, g2f⟩ : w2.cell? ⟨a, 3, none⟩ = some (.slice to' (ts.length + k) tc') ∧ w2.frozen? ⟨a, 3, none⟩ = false := ⟨(hg2.cell_far ⟨a, 3, none⟩ (Nat.lt_of_lt_of_le haw (Below.size (B := wr.heap.size) (w := wr) (by (repeat (first | exact HB | exact Below.refl _ _ | with_reducible refine belS ?_ | with_reducible refine Below.drew ?_))))) (fun e => HNA.out e.symm)).trans (HG.out _ (by (repeat (first | exact HB | exact Below.refl _ _ | with_reducible refine belS ?_ | with_reducible refine Below.drew ?_)))).1, (hg2.frozen_far ⟨a, 3, none⟩ (Nat.lt_of_lt_of_le haw (Below.size (B := wr.heap.size) (w := wr) (by (repeat (first | exact HB | exact Below.refl _ _ | with_reducible refine belS ?_ | with_reducible refine Below.drew ?_))))) (fun e => HNA.out e.symm)).trans (HG.out _ (by (repeat (first | exact HB | exact Below.refl _ _ | with_reducible refine belS ?_ | with_reducible refine Below.drew ?_)))).2⟩)
          | (go_simp; go_at_call 67; with_reducible refine (HT.out _ ?_).mono ?_; (repeat (first | exact HB | exact Below.refl _ _ | with_reducible refine belS ?_ | with_reducible refine Below.drew ?_)); rintro e wq ⟨rfl, hq⟩; replace HB : Below wr.heap.size wr wq := btS (by (repeat (first | exact HB | exact Below.refl _ _ | with_reducible refine belS ?_ | with_reducible refine Below.drew ?_))) hq; have haq : a < wq.heap.size := Nat.lt_of_lt_of_le haw HB.size; obtain ⟨gqc, gqf⟩ := HG.out wq HB; clear hq))
        all_goals
          have hst := note_step (p := (pl, true)) (n := ts.length + k) HKp.out HTv.out HR.out (W1 := wq.alloc (.cells #[.int .u32 pl, .bool true] 56)) (by (repeat (first | exact HB | exact Below.refl _ _ | with_reducible refine belS ?_ | with_reducible refine Below.drew ?_))) own2 HG2 HGG HLK.out (by have := HKT.out; omega)
          rw [← HPL.out, List.append_assoc, ← tcs_succ] at hst
          have HST := hidS hst
          clear hst own2 HG2 HGG g2c g2f
          go_wp2_with fail
          go_roundw
          case rel => exact ⟨k + 1, _, by omega, by go_num, HST.out.1, HST.out.2.1, HST.out.2.2⟩
          case measure => simp [intOf]; omega
      · obtain rfl : k = K := by omega
        go_wp2_with fail
        go_end0
        exact ⟨rfl, _, HR.out, HKp.out, HTv.out⟩
end Go.Proofs.YtnjglagfpghbjaaDoor
namespace Go.Proofs.YtnjglagfpghbjaaDoor
open Go.RowKit Go.WideShapes
set_option maxRecDepth 100000

theorem cut_min (ts : List (Int × Bool)) (x n N : Nat) (wr : Bool) (hl : ts.length ≤ 65536) : ∃ K : Nat, K ≤ n ∧ ts.length + K ≤ 65536 ∧ lgL true ts (tcs x n N wr) = ts ++ tcs x K N wr ∧ (if 65536 - (ts.length : Int) < (n : Int) then 65536 - (ts.length : Int) else (n : Int)) = (K : Int) := by
  by_cases hc : ts.length + n ≤ 65536
  · exact ⟨n, Nat.le_refl _, hc, take_all _ _ (by rw [tcs_len]; omega), by rw [if_neg (by omega)]⟩
  · exact ⟨65536 - ts.length, by omega, by omega, tcs_cut _ _ _ _ _ _ (by omega) (by omega), by rw [if_pos (by omega)]; omega⟩
theorem note_ok_R : NoteOk 70 false true := fun a g cap bm ba x n bs tv ts w hS hx hn hm ha nm na => by
  obtain ⟨to, tc, rfl⟩ := own_slice hS.log
  obtain ⟨K, h1, h2, h3, h4⟩ := cut_min ts x n bs.length false hS.tl
  rw [h3]
  exact noteR_on a g cap bm ba x n K bs to tc ts w hS hx hn hm ha nm na h1 h2 h4
theorem note_ok_W : NoteOk 67 true true := fun a g cap bm ba x n bs tv ts w hS hx hn hm ha nm na => by
  obtain ⟨to, tc, rfl⟩ := own_slice hS.log
  obtain ⟨K, h1, h2, h3, h4⟩ := cut_min ts x n bs.length true hS.tl
  rw [h3]
  exact noteW_on a g cap bm ba x n K bs to tc ts w hS hx hn hm ha nm na h1 h2 h4
theorem note_R (lg : Bool) : NoteOk 70 false lg := by cases lg <;> first | exact note_ok_off _ _ | exact note_ok_R
theorem note_W (lg : Bool) : NoteOk 67 true lg := by cases lg <;> first | exact note_ok_off _ _ | exact note_ok_W
end Go.Proofs.YtnjglagfpghbjaaDoor
