import Derived.Test.YtcmfephbhbgoiaaDoorEBkM
import Derived.Test.YtcmfephbhbgoiaaDoorLSame
import Derived.Deep.QuietTactic
import Derived.Laws.BytesArg
import Derived.Lib.Bytes
namespace Go.Proofs.YtcmfephbhbgoiaaDoor
open Go.RowKit Go.WideShapes
set_option maxRecDepth 100000

theorem str_back (bs : List Int) (h : ∀ z ∈ bs, 0 ≤ z ∧ z ≤ 255) : (strOfNums bs).data.toList.map (fun u => (u.toNat : Int)) = bs := by
  rw [strOfNums_data, List.map_map]
  conv => rhs; rw [← List.map_id bs]
  refine List.map_congr_left fun z hz => ?_
  have := h z hz
  simp only [Function.comp, id, UInt8.toNat_ofNat']
  omega
theorem str_inj {bs cs : List Int} (h1 : ∀ z ∈ bs, 0 ≤ z ∧ z ≤ 255) (h2 : ∀ z ∈ cs, 0 ≤ z ∧ z ≤ 255) : strOfNums bs = strOfNums cs ↔ bs = cs :=
  ⟨fun e => by rw [← str_back bs h1, e, str_back cs h2], fun e => by rw [e]⟩
theorem conv_r {w : World} {g cap : Nat} {bs : List Int} (h : w.ownsRow 0 5 1 (.slice (some ⟨g, 0, none⟩) bs.length cap) bs.length (bv bs)) (n : Nat) :
    (convert 33 9 (.slice (some ⟨g, 0, none⟩) bs.length cap)).run Tryd.prog (w.drewN n) = .ok (.string (strOfNums bs)) (w.drewN n) := by
  refine run_convert_bytes_arg (P := Tryd.prog) (w.drewN n) 33 5 Tryd.underlying33 Tryd.underlying5 g 0 bs.length cap bs rfl (fun i hi => ?_) 9 Tryd.underlying9
  rw [Nat.zero_add]; exact own_get h hi
theorem made_form {w w1 : World} {n : Nat} (hrow : w1.ownsRow w.heap.size 5 1 (.slice (some ⟨w.heap.size, 0, none⟩) n n) n (bv (List.replicate n 0))) : w1.heap[w.heap.size]? = some (.cells (bv (List.replicate n 0) ++ []).toArray 5 (0, 0)) := by
  rcases hrow.2 with ⟨e, _⟩ | ⟨g', cap', cur, e, _, hg', _, _, hs, htk⟩
  · simp at e
  · simp only [Value.slice.injEq, Option.some.injEq, Addr.mk.injEq, true_and, and_true] at e
    obtain ⟨rfl, rfl⟩ := e
    have hcur : cur = (bv (List.replicate n 0) ++ []).toArray := by
      rw [Nat.mul_one, List.take_of_length_le (by simpa using Nat.le_of_eq hs)] at htk
      rw [List.append_nil, ← htk]
    rw [hcur] at hg'
    exact hg'
set_option maxHeartbeats 1000000 in
theorem write_m (lg : Bool) (hN : NoteOk 60 true lg) (a g cp x cap sb so : Nat) (bo : Option Addr) (bs zs : List Int) (tv : Value) (ts : List (Int × Bool)) (w : World) (h : MemS w a g cp bs lg tv ts) (hx : x < 4294967296) (hn : zs.length ≤ 4096) (hc : zs.length ≤ cap) (hwf : ∀ z ∈ zs, 0 ≤ z ∧ z ≤ 255) (hs : Src w bo sb so zs) (nd : ¬ Foot a g tv sb) :
    Calls Tryd.prog 34 #[.pointer (some ⟨a, 0, none⟩), .int .u32 x, .slice bo zs.length cap] w fun e w' => e = .returned (.int .i64 0) ∧
      (∃ tv', MemS w' a g cp (wrL bs x zs) lg tv' (lgL lg ts (tcs x zs.length bs.length true)) ∧ (∀ j, tv'.ownBlock = some j → tv.ownBlock = some j ∨ w.heap.size ≤ j)) ∧ Kp (Foot a g tv) w w' := by
  have hM := made_yes a w ((obj_cell h.obj 0).trans rfl)
  have HW := hidS (write_any lg hN a g cp cap x zs.length sb so bo bs zs tv ts w h hx (by omega) rfl hc hwf hs nd)
  have hI : ¬ (4096 : Int) < (zs.length : Int) := by omega
  clear h hwf hs nd hN
  go_enter Tryd.func34, Tryd.ntmps34
  go_wp2_with (first
    | (go_at_call 37; with_reducible refine hM.mono ?_; rintro e wq ⟨rfl, hq⟩; subst wq)
    | (go_at_call 45; with_reducible refine HW.out.mono ?_; rintro e w1 ⟨rfl, hq⟩; have HQ := hidS hq; clear hq)
    | fail)
  go_ret
  exact ⟨rfl, HQ.out⟩
end Go.Proofs.YtcmfephbhbgoiaaDoor
