import Derived.Test.YtcbaladlhanjjaaMAny
namespace Go.Proofs.Ytcbaladlhanjjaa
open Go.RowKit Go.WideShapes Go.Sort Go.Lib
set_option maxRecDepth 100000

theorem Ap.take {L : List (Nat × Nat)} (h : Ap L) (m : Nat) : Ap (L.take m) := List.Pairwise.sublist (List.take_sublist m L) h
theorem Wfs.take {L : List (Nat × Nat)} (h : Wfs L) (m : Nat) : Wfs (L.take m) := fun p hp => h p (List.mem_of_mem_take hp)
theorem anyLap_n (ad : Addr) (cap n : Nat) (L : List (Nat × Nat)) (w : World) (hl : L.length = n) (hn : L.length ≤ 1048576) (hpos : 0 < L.length) (hw : Wfs L) (hA : Ap L) (hr : SRd w (some ad) L w.heap.size) :
    Calls Try.prog 13 #[.slice (some ad) n cap] w fun e w' => e = .returned (.bool false) ∧ Below w.heap.size w w' := by
  subst hl; exact anyLap_ap ad cap L w hn hpos hw hA hr
set_option maxHeartbeats 1000000 in
theorem clo_ap (Bs : Nat) (ad : Addr) (cap : Nat) (L : List (Nat × Nat)) (h : Nat) (w : World) (hh : h < L.length) (hn : L.length ≤ 1048576) (hcap : L.length ≤ cap) (hw : Wfs L) (hA : Ap L) (hr : SRd w (some ad) L w.heap.size)
    (hb : w.cell? ⟨Bs, 0, none⟩ = some (.slice (some ad) L.length cap)) :
    Calls Try.prog 12 #[.int .i64 (h : Int), .pointer (some ⟨Bs, 0, none⟩)] w fun e w' => e = .returned (.bool false) ∧ Below w.heap.size w w' := by
  have hl : (L.take (h + 1)).length = h + 1 := by rw [List.length_take]; omega
  have hC := anyLap_n ad cap (h + 1) (L.take (h + 1)) w hl (by omega) (by omega) (hw.take _) (hA.take _) (hr.take _)
  have h1 : (h : Int) + 1 ≤ (cap : Int) := by omega
  have h2 : (h : Int) + 1 ≤ (L.length : Int) := by omega
  clear hr hw hA hl
  go_enter Try.func12, Try.ntmps12
  go_wp2_with (first | (go_at_call 13; with_reducible refine hC.mono ?_; rintro e wq ⟨rfl, hq⟩))
  go_ret
  exact ⟨rfl, hq⟩
set_option maxHeartbeats 1000000 in
theorem apart_ap (ao : Option Addr) (cap : Nat) (L : List (Nat × Nat)) (w : World) (hn : L.length ≤ 1048576) (hcap : L.length ≤ cap) (hw : Wfs L) (hA : Ap L) (hr : SRd w ao L w.heap.size) :
    Calls Try.prog 6 #[.slice ao L.length cap] w fun e w' => e = .returned (.tuple #[.int .i64 0, .int .i64 0, .bool true]) ∧ Below w.heap.size w w' := by
  have HW := hidS hw
  have HA := hidS hA
  have HR := hidS hr
  clear hw hA hr
  have eg : ∀ args w, (callFunc 12 args).run Try.prog w = .ok (.enter 12 args) w := enters_of Try.func12 (by kernel_rfl) rfl
  go_enter Try.func6, Try.ntmps6
  go_wp2_with fail
  have hb1 : Below w.heap.size w (w.alloc (.cells #[.slice ao L.length cap] 25)) := belS (Below.refl _ _)
  have hc1 : (w.alloc (.cells #[.slice ao L.length cap] 25)).cell? ⟨w.heap.size, 0, none⟩ = some (.slice ao L.length cap) := by
    have := heap_alloc_last w (.cells #[.slice ao L.length cap] 25)
    unfold World.cell?; simp only [this]; rfl
  have hlt1 : w.heap.size < (w.alloc (.cells #[.slice ao L.length cap] 25)).heap.size := by simp
  generalize w.alloc (.cells #[.slice ao L.length cap] 25) = W1 at *
  have hS := search_any L.length 12 #[.pointer (some ⟨w.heap.size, 0, none⟩)] (fun _ => false) W1 hn eg (fun h hh W hW => by
    obtain ⟨b, off, e, hbl, _⟩ := HR.out (by omega)
    have hr : SRd W ao L W.heap.size := ((HR.out.below hb1).mono hb1.size |>.below hW).mono hW.size
    subst e
    exact clo_ap w.heap.size _ cap L h W hh hn hcap HW.out HA.out hr ((hW.cell (p := ⟨w.heap.size, 0, none⟩) hlt1).trans hc1))
  with_reducible refine hS.mono ?_
  rintro e W2 ⟨⟨i, rfl, hi, hor, _⟩, hq⟩
  obtain rfl : i = L.length := by rcases hor with h | h; exact h; cases h
  have hc2 := (hq.cell (p := ⟨w.heap.size, 0, none⟩) hlt1).trans hc1
  have hlt2 : w.heap.size < W2.heap.size := by have := hq.size; omega
  have B2 := btS hb1 hq
  clear hS HR HW HA hc1 hor hi hq eg
  go_wp2_with fail
  exact bodyPost_ret (results_tmp3 rfl _ _ _) rfl ⟨rfl, belS B2⟩
end Go.Proofs.Ytcbaladlhanjjaa
