import Derived.Test.YtghhjebacnodcaaPWaveM
namespace Go.Proofs.Ytghhjebacnodcaa
open Go.RowKit
theorem getD_range (n k : Nat) (pf : Nat → Nat × Nat) (h : k < n) : ((List.range n).map pf).getD k (0, 0) = pf k := by
  simp [List.getD, h]
/-- one point of a spectrum, over points told by a function -/
theorem wave_fun (I : Nat → Nat → Nat → Prop) (b off cap : Nat) (pf : Nat → Nat × Nat) (n j : Nat) (back : Bool) (w : World) (hn : n = 1 ∨ n = 2 ∨ n = 4 ∨ n = 8) (hj : j < n)
    (hb : b < w.heap.size) (hc : ∀ j, j < n → w.cell? ⟨b, off + j, none⟩ = some (cp (pf j))) (h0 : I 0 0 0)
    (hs : ∀ k r i, k < n → I k r i → ∀ pr pi r' i', MulV (pf k).1 (pf k).2 (rb (ex n j k back)).1 (rb (ex n j k back)).2 pr pi → AddV r i pr pi r' i' → I (k + 1) r' i') :
    Calls Try.prog 56 #[.slice (some ⟨b, off, none⟩) n cap, .int .i64 j, .bool back] w fun e w' => ∃ r i, e = .returned (.complex .f64 r i) ∧ I n r i ∧ Below w.heap.size w w' := by
  refine wave_gen I b off cap ((List.range n).map pf) n j back w (by simp) hn hj hb (fun j hj => ?_) h0 (fun k r i hk hI => ?_)
  · have hj' : j < n := by simpa using hj
    rw [getD_range n j pf hj']; exact hc j hj'
  · rw [getD_range n k pf hk]; exact hs k r i hk hI
theorem wave_8 (b off cap : Nat) (pf : Nat → Nat × Nat) (n : Nat) (w : World) (hn : n = 1 ∨ n = 2 ∨ n = 4 ∨ n = 8) (hb : b < w.heap.size) (hc : ∀ j, j < n → w.cell? ⟨b, off + j, none⟩ = some (cp (pf j))) :
    Calls Try.prog 14 #[.slice (some ⟨b, off, none⟩) n cap, .bool false] w fun e w' => ∃ (v : Value) (xs : List Value) (f : Nat → Nat × Nat), e = .returned (.tuple #[v, .int .i64 0]) ∧ w'.ownsRow w.heap.size 38 1 v n xs ∧ (∀ i, i < n → xs[i]? = some (cp (f i)) ∧ True) ∧ Below w.heap.size w w' :=
  wave_fwd (fun _ _ _ => True) _ cap n w hn (fun j W hj hbW => wave_fun (fun _ _ _ => True) b off cap pf n j false W hn hj (Nat.lt_of_lt_of_le hb hbW.size) (fun i hi => (hbW.cell (p := ⟨b, off + i, none⟩) hb).trans (hc i hi)) trivial (fun _ _ _ _ _ _ _ _ _ _ _ => trivial))
theorem inv_0 (n j : Nat) (back : Bool) (vs : Nat → Int × Int) (M : Nat) : InvS n j back vs M 0 0 0 := ⟨wh_0, wh_0, by simp [sumv], by simp [sumv]⟩
theorem wave_f (b off cap : Nat) (pf : Nat → Nat × Nat) (vs : Nat → Int × Int) (M n : Nat) (w : World) (hn : n = 1 ∨ n = 2 ∨ n = 4) (hb : b < w.heap.size) (hc : ∀ j, j < n → w.cell? ⟨b, off + j, none⟩ = some (cp (pf j)))
    (hM : M ≤ 17592186044416) (hv : ∀ k, k < n → Wh (pf k).1 (vs k).1 ∧ Wh (pf k).2 (vs k).2 ∧ (vs k).1.natAbs ≤ M ∧ (vs k).2.natAbs ≤ M) :
    Calls Try.prog 14 #[.slice (some ⟨b, off, none⟩) n cap, .bool false] w fun e w' => ∃ (v : Value) (xs : List Value) (f : Nat → Nat × Nat), e = .returned (.tuple #[v, .int .i64 0]) ∧ w'.ownsRow w.heap.size 38 1 v n xs ∧ (∀ i, i < n → xs[i]? = some (cp (f i)) ∧ InvS n i false vs M n (f i).1 (f i).2) ∧ Below w.heap.size w w' :=
  wave_fwd (fun j r i => InvS n j false vs M n r i) _ cap n w (by omega) (fun j W hj hbW => wave_fun (fun k r i => InvS n j false vs M k r i) b off cap pf n j false W (by omega) hj (Nat.lt_of_lt_of_le hb hbW.size) (fun i hi => (hbW.cell (p := ⟨b, off + i, none⟩) hb).trans (hc i hi)) (inv_0 _ _ _ _ _)
    (fun k _ _ hk hI _ _ _ _ hm ha => inv_step hn hk hM (hv k hk).1 (hv k hk).2.1 (hv k hk).2.2.1 (hv k hk).2.2.2 hI hm ha))
theorem wave_b (b off cap : Nat) (pf : Nat → Nat × Nat) (vs ts : Nat → Int × Int) (M n a d : Nat) (w : World) (hn : n = 1 ∨ n = 2 ∨ n = 4) (hb : b < w.heap.size) (hc : ∀ j, j < n → w.cell? ⟨b, off + j, none⟩ = some (cp (pf j)))
    (hM : M ≤ 17592186044416) (hv : ∀ k, k < n → Wh (pf k).1 (vs k).1 ∧ Wh (pf k).2 (vs k).2 ∧ (vs k).1.natAbs ≤ M ∧ (vs k).2.natAbs ≤ M)
    (ht : ∀ j, j < n → (sumv n j true vs n).1 = (ts j).1 * (n : Int) ∧ (sumv n j true vs n).2 = (ts j).2 * (n : Int) ∧ (ts j).1.natAbs ≤ 9007199254740992 ∧ (ts j).2.natAbs ≤ 9007199254740992)
    (ha : a ≤ 2) (han : n = 2 ^ a) (hdn : floatOfInt .f64 (n : Int) = d) (hd0 : (FloatKind.f64.format.order d 0 == some .eq) = false) (hdr : Ieee.double.read d = .number false 4503599627370496 (-1074 + ((1022 + a : Nat) : Int))) :
    Calls Try.prog 14 #[.slice (some ⟨b, off, none⟩) n cap, .bool true] w fun e w' => ∃ (v : Value) (xs : List Value) (f : Nat → Nat × Nat), e = .returned (.tuple #[v, .int .i64 0]) ∧ w'.ownsRow w.heap.size 38 1 v n xs ∧ (∀ i, i < n → xs[i]? = some (cp (f i)) ∧ (i < n → Wh (f i).1 (ts i).1 ∧ Wh (f i).2 (ts i).2)) ∧ Below w.heap.size w w' := by
  refine wave_bwd (fun j r i => InvS n j true vs M n r i) (fun j r i => j < n → Wh r (ts j).1 ∧ Wh i (ts j).2) d hd0 ?_ _ cap n w hdn (by omega) (fun j W hj hbW => wave_fun (fun k r i => InvS n j true vs M k r i) b off cap pf n j true W (by omega) hj (Nat.lt_of_lt_of_le hb hbW.size) (fun i hi => (hbW.cell (p := ⟨b, off + i, none⟩) hb).trans (hc i hi)) (inv_0 _ _ _ _ _)
    (fun k _ _ hk hI _ _ _ _ hm ha => inv_step hn hk hM (hv k hk).1 (hv k hk).2.1 (hv k hk).2.2.1 (hv k hk).2.2.2 hI hm ha))
  rintro j r i r' i' ⟨h1, h2, -, -⟩ ⟨w0, w1, rfl, rfl⟩ hj
  obtain ⟨t1, t2, t3, t4⟩ := ht j hj
  obtain ⟨p1, e1, q1⟩ := wh_div a ha hdr h1 (by rw [t1, han]) t3
  obtain ⟨p2, e2, q2⟩ := wh_div a ha hdr h2 (by rw [t2, han]) t4
  rw [fv_of e1, fv_of e2]
  exact ⟨q1, q2⟩
end Go.Proofs.Ytghhjebacnodcaa
