import Derived.Test.YtcaobkhifiicnaaGsN
import Derived.Test.YtcaobkhifiicnaaLKept
namespace Go.Proofs.Ytcaobkhifiicnaa
open Go.RowKit Go.Shelf

theorem rep_wf (n : Nat) : ∀ z ∈ List.replicate n (120 : Int), 0 ≤ z ∧ z ≤ 255 := by
  intro z hz
  rw [List.mem_replicate] at hz
  omega
theorem rep_pz (n : Nat) : pz (List.replicate n (120 : Int)) = List.replicate n 120 := by
  unfold pz
  induction n with
  | zero => rfl
  | succ n ih => rw [List.replicate_succ, List.takeWhile_cons, if_pos (by decide), ih]
theorem rep_bt (n i : Nat) (h : i < n) : bt (strOfNums (List.replicate n (120 : Int))) i = 120 := by
  have hs : i < (strOfNums (List.replicate n (120 : Int))).size := by rw [strOfNums_size, List.length_replicate]; exact h
  rw [bt_eq _ _ hs]
  show ((strOfNums (List.replicate n (120 : Int))).data[i]).toNat = 120
  have e : (strOfNums (List.replicate n (120 : Int))).data = ((List.replicate n (120 : Int)).map fun n => UInt8.ofNat n.toNat).toArray := rfl
  simp [e]
theorem rep_from (n : Nat) : ∀ f pos, n ≤ pos + f → pos ≤ n → (gsL (cutsFrom (strOfNums (List.replicate n (120 : Int))) f pos)).length = n - pos
  | 0, pos => by intro h1 h2; simp [cutsFrom, gsL]; omega
  | f + 1, pos => by
    intro h1 h2
    have hsz : (strOfNums (List.replicate n (120 : Int))).size = n := by rw [strOfNums_size, List.length_replicate]
    by_cases h : pos < n
    · have hs : pos < (strOfNums (List.replicate n (120 : Int))).size := by rw [hsz]; exact h
      have hb := rep_bt n pos h
      obtain ⟨hw, hm⟩ := dec_low _ pos hs (by omega)
      rw [cutsFrom_step _ f pos hs, hw]
      have ih := rep_from n f (pos + 1) (by omega) (by omega)
      have e : gsL (cutAt _ pos hs :: cutsFrom (strOfNums (List.replicate n (120 : Int))) f (pos + 1)) = gsx (cutAt _ pos hs) ++ gsL (cutsFrom (strOfNums (List.replicate n (120 : Int))) f (pos + 1)) := rfl
      have e2 : gsx (cutAt _ pos hs) = [120] := by
        have e3 : gsx (cutAt _ pos hs) = if prn (numAt _ pos) = true then Lib.encodeRuneZ (numAt _ pos) else [63] := rfl
        rw [e3, hm, hb]
        decide
      rw [e, e2, List.length_append, ih]
      simp
      omega
    · rw [cutsFrom_end _ _ pos (by omega)]
      simp [gsL]
      omega
theorem rep_size (n : Nat) : (strOfNums (gsL (cuts (strOfNums (pz (List.replicate n (120 : Int))))))).size = n := by
  rw [rep_pz, strOfNums_size]
  unfold cuts
  rw [rep_from n _ 0 (by rw [strOfNums_size, List.length_replicate]; omega) (by omega)]
  omega
theorem rep_step (L : List Int) (k : Nat) (h : k < L.length) : bv (List.replicate (k + 1) 120 ++ L.drop (k + 1)) = (bv (List.replicate k 120 ++ L.drop k)).set k (.int .u8 120) := by
  rw [List.replicate_succ', List.drop_eq_getElem_cons h]
  simp only [bv, List.map_append, List.map_cons, List.append_assoc, List.cons_append, List.nil_append]
  rw [List.set_append_right _ _ (by simp)]
  simp
set_option maxRecDepth 100000 in
set_option maxHeartbeats 4000000 in
theorem tguest_any (ao : Option Addr) (cap : Nat) (zs : List Int) (w : World) (hn : zs.length ≤ 1048576) (hcap : zs.length ≤ cap) (hwf : ∀ z ∈ zs, 0 ≤ z ∧ z ≤ 255) (hr : Reads w ao zs w.heap.size) :
    Calls Try.prog 3 #[.slice ao zs.length cap] w fun e w' => e = .returned (.bool true) ∧ Below w.heap.size w w' := by
  have HWF := hid_of hwf
  clear hwf
  obtain ⟨S, hS⟩ : ∃ S, strOfNums (gsL (cuts (strOfNums (pz zs)))) = S := ⟨_, rfl⟩
  have HS := hid_of hS
  clear hS
  go_enter Try.func3, Try.ntmps3
  go_wp2_with fail
  refine (lent_any ao cap zs _ (by omega) hr).mono ?_
  rintro e w1 ⟨v, rfl, own1, hb1⟩
  obtain ⟨g, cp, rfl, hcp⟩ := own_form own1 (by omega)
  have hg := (own1.lt g rfl).1
  have hgw := (own1.lt g rfl).2
  have hget : ∀ i, i < zs.length + 64 → w1.cell? ⟨g, i, none⟩ = some (.int .u8 ((zs ++ marks 0 64).getD i 0)) := fun i hi => own_get own1 (by simp [marks_len]; omega)
  have HG := hid_of hget
  clear hget
  have hB1 := hb1.size
  have hcp0 : ¬ cp = 0 := by omega
  have hcp1 : ¬ 0 = cp := by omega
  go_wp2_with (first
    | (go_at_call 6; refine (guest_any g cp zs _ hn (by omega) HWF.out hgw (fun i hi => by rw [Nat.zero_add, HG.out i (by omega)]; simp [List.getElem?_append_left hi])).mono ?_; rintro e w2 ⟨rfl, hb2⟩; rw [HS.out]; have hr2 : Reads w2 ao zs w.heap.size := (hr.below hb1).below (hb2.mono hB1); have hB2 := hb2.size)
    | (go_at_call 7; refine (rguest_any ao cap zs _ hn hcap (hr2.mono (by omega))).mono ?_; rintro e w3 ⟨rfl, hb3⟩; rw [HS.out]; have hr3 : Reads w3 ao zs w.heap.size := hr2.below (hb3.mono (by omega)); have hB3 := hb3.size; have HG3 : Hid (∀ i, i < zs.length + 64 → w3.cell? ⟨g, i, none⟩ = some (.int .u8 ((zs ++ marks 0 64).getD i 0))) := (fun i hi => ((hb3.cell (p := ⟨g, i, none⟩) (show g < w2.heap.size by omega)).trans ((hb2.cell (p := ⟨g, i, none⟩) hgw).trans (HG.out i hi)))))
    | (go_at_call 8; refine (kept_any ao cap zs g cp _ (by omega) (hr3.mono (by omega)) HG3.out).mono ?_; rintro e wq ⟨rfl, m1, rfl⟩))
  have own3 : (w3.drewN m1).ownsRow w.heap.size 5 1 (Value.slice (some ⟨g, 0, none⟩) (zs.length + 64) cp) (zs.length + 64) (bv (zs ++ marks 0 64)) := own_heap (w := w3) rfl (own_below (own_below own1 hb2) hb3)
  have hb0 : Below w.heap.size w (w3.drewN m1) := Go.below_drewN ((hb1.trans (hb2.mono hB1)).trans (hb3.mono (by omega))) m1
  have hLl : (zs ++ marks 0 64).length = zs.length + 64 := by simp [marks_len]
  obtain ⟨L, hL⟩ : ∃ L, zs ++ marks 0 64 = L := ⟨_, rfl⟩
  rw [hL] at own3 hLl
  have hw3 : g < (w3.drewN m1).heap.size := (own3.lt g rfl).2
  have HLL := hid_of hLl
  clear hL hb1 hb2 hb3 own1 HG HG3 hr2 hr3 hLl
  obtain ⟨w4, hw4⟩ : ∃ w4, w3.drewN m1 = w4 := ⟨_, rfl⟩
  rw [hw4] at own3 hb0 hw3 ⊢
  clear hw4
  go_loopw [5] (fun i wr => ∃ k : Nat, k ≤ zs.length + 64 ∧ i = .int .i64 k ∧ wr.ownsRow w.heap.size 5 1 (.slice (some ⟨g, 0, none⟩) (zs.length + 64) cp) (zs.length + 64) (bv (List.replicate k 120 ++ L.drop k)) ∧ Below w.heap.size w wr)
    (fun i _ => zs.length + 64 - (intOf i).toNat)
  case atStart => exact ⟨0, Nat.zero_le _, rfl, by simpa using own3, hb0⟩
  case round =>
    clear own3 hb0 hw3
    obtain ⟨k, hk, rfl, hown, hb⟩ := hrel
    by_cases hlt : k < zs.length + 64
    · have hck := own_get hown (i := k) (by have := HLL.out; simp; omega)
      have hfk := hown.frozenAt k
      generalize (List.replicate k 120 ++ L.drop k).getD k 0 = c at hck
      have hI : (k : Int) < (zs.length : Int) + 64 := by omega
      go_wp2
      have R := hown.stored k (.int .u8 120)
      go_roundw
      case rel =>
        refine ⟨k + 1, by omega, by go_num, ?_, hb.setCell (p := ⟨g, k, none⟩) hg _⟩
        rw [rep_step L k (by rw [HLL.out]; exact hlt)]
        exact R.1
      case measure => simp [intOf]; omega
    · obtain rfl : k = zs.length + 64 := by omega
      have hI : (zs.length : Int) + 64 ≤ ((zs.length + 64 : Nat) : Int) := by omega
      have hgw4 := (hown.lt g rfl).2
      have hcl := fun (i : Nat) (hi : i < zs.length) => own_get hown (i := i) (by simp; omega)
      have HGG := guest_any g cp (List.replicate zs.length 120) wr (by rw [List.length_replicate]; exact hn) (by rw [List.length_replicate]; omega) (rep_wf _) hgw4 (fun i hi => by
        rw [List.length_replicate] at hi
        rw [Nat.zero_add, hcl i hi]
        simp only [List.getD_eq_getElem?_getD]
        rw [List.getElem?_append_left (by rw [List.length_replicate]; omega), List.getElem?_replicate, List.getElem?_replicate, if_pos (by omega), if_pos hi])
      rw [List.length_replicate] at HGG
      have htz := rep_size zs.length
      obtain ⟨T, hT⟩ : ∃ T, strOfNums (gsL (cuts (strOfNums (pz (List.replicate zs.length 120))))) = T := ⟨_, rfl⟩
      rw [hT] at HGG htz
      have HGH := hid_of HGG
      clear hcl hT HGG hlt hk
      have hr4 : Reads wr ao zs w.heap.size := hr.below hb
      have hB4 := hb.size
      go_wp2_with (first
        | (go_at_call 6; refine (HGH.out).mono ?_; rintro e w5 ⟨rfl, hb5⟩; have hr5 : Reads w5 ao zs w.heap.size := hr4.below (hb5.mono hB4); have hB5 := hb5.size)
        | (go_at_call 7; refine (rguest_any ao cap zs _ hn hcap (hr5.mono (by omega))).mono ?_; rintro e w6 ⟨rfl, hb6⟩; rw [HS.out]; have hB6 := hb6.size))
      go_ret
      exact ⟨rfl, (hb.trans (hb5.mono hB4)).trans (hb6.mono (by omega))⟩
end Go.Proofs.Ytcaobkhifiicnaa
