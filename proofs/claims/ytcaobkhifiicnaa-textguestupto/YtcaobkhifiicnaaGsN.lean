import Derived.Test.YtcaobkhifiicnaaGsR
namespace Go.Proofs.Ytcaobkhifiicnaa
open Go.RowKit Go.Shelf

theorem conv_empty (ao : Option Addr) (cap : Nat) (w : World) : ∀ dst, Try.prog.underlying dst = some .string → (convert 22 dst (.slice ao 0 cap)).run Try.prog w = .ok (.string (strOfNums [])) w := by
  intro dst hd
  rcases ao with _ | a
  · exact run_convert_bytes_nil w 22 5 Try.underlying22 Try.underlying5 0 cap dst hd
  · have hl : (loadCells a 0).run Try.prog w = .ok (([] : List Int).map (Value.int .u8)).toArray w := by
      have := run_loadCells_list (P := Try.prog) w a [] (fun j v hj => by simp at hj)
      simpa using this
    rw [run_convert_bytes_string w 22 dst 5 _ 0 cap Try.underlying22 Try.underlying5 hd, run_bytesToString w _ 0 cap [] hl]
    rfl
set_option maxRecDepth 100000 in
set_option maxHeartbeats 4000000 in
theorem rguest_nil (ao : Option Addr) (cap : Nat) (w : World) :
    Calls Try.prog 7 #[.slice ao 0 cap] w fun e w' => e = .returned (.string (strOfNums [])) ∧ Below w.heap.size w w' := by
  obtain ⟨s, hs⟩ : ∃ s, strOfNums [] = s := ⟨_, rfl⟩
  have HCV := hid_of (fun ao cap => conv_empty ao cap w 9 Try.underlying9)
  have hcu : (cuts s).length = 0 := by rw [← hs]; rfl
  have hss : s.size ≤ 1048576 := by rw [← hs]; decide
  rw [hs]
  have hcn : ∀ w, (convert 22 9 (.slice none 0 0)).run Try.prog w = .ok (.string s) w := by intro w; rw [← hs]; exact conv_empty none 0 w 9 Try.underlying9
  rcases ao with _ | ⟨b, off, spot⟩
  · have hcv := HCV.out none cap
    rw [hs] at hcv
    clear hs HCV
    go_enter Try.func7, Try.ntmps7
    go_wp2
    go_loop [3] (fun i => i = .int .i64 0) (fun _ => 0)
    case atStart => rfl
    case round =>
      subst hrel
      go_wp2_with fail
      refine (cuts_any s _ hss).mono ?_
      rintro e w1 ⟨v1, v2, rfl, own1, own2, hb⟩
      obtain ⟨ao1, cp1, rfl, hcell1⟩ := own_shape own1
      clear hcell1 own1 own2
      rw [hcu]
      have hcn1 := hcn w1
      go_wp2_with fail
      go_loop [7, 8] (fun v i => v = .slice none 0 0 ∧ i = .int .i64 0) (fun _ _ => 0)
      case atStart => exact ⟨rfl, rfl⟩
      case round =>
        obtain ⟨rfl, rfl⟩ := hrel
        go_wp2
        go_ret
        exact ⟨rfl, hb⟩
  · have hcv := HCV.out (some ⟨b, off, spot⟩) cap
    rw [hs] at hcv
    clear hs HCV
    by_cases hc0 : cap = 0
    · subst hc0
      go_enter Try.func7, Try.ntmps7
      go_wp2
      go_loop [3] (fun i => i = .int .i64 0) (fun _ => 0)
      case atStart => rfl
      case round =>
        subst hrel
        go_wp2_with fail
        refine (cuts_any s _ hss).mono ?_
        rintro e w1 ⟨v1, v2, rfl, own1, own2, hb⟩
        obtain ⟨ao1, cp1, rfl, hcell1⟩ := own_shape own1
        clear hcell1 own1 own2
        rw [hcu]
        have hcn1 := hcn w1
        go_wp2_with fail
        go_loop [7, 8] (fun v i => v = .slice none 0 0 ∧ i = .int .i64 0) (fun _ _ => 0)
        case atStart => exact ⟨rfl, rfl⟩
        case round =>
          obtain ⟨rfl, rfl⟩ := hrel
          go_wp2
          go_ret
          exact ⟨rfl, hb⟩
    · have hc1 : ¬ 0 = cap := by omega
      go_enter Try.func7, Try.ntmps7
      go_wp2
      go_loop [3] (fun i => i = .int .i64 0) (fun _ => 0)
      case atStart => rfl
      case round =>
        subst hrel
        go_wp2_with fail
        refine (cuts_any s _ hss).mono ?_
        rintro e w1 ⟨v1, v2, rfl, own1, own2, hb⟩
        obtain ⟨ao1, cp1, rfl, hcell1⟩ := own_shape own1
        clear hcell1 own1 own2
        rw [hcu]
        have hcn1 := hcn w1
        go_wp2_with fail
        go_loop [7, 8] (fun v i => v = .slice none 0 0 ∧ i = .int .i64 0) (fun _ _ => 0)
        case atStart => exact ⟨rfl, rfl⟩
        case round =>
          obtain ⟨rfl, rfl⟩ := hrel
          go_wp2
          go_ret
          exact ⟨rfl, hb⟩
theorem rguest_any (ao : Option Addr) (cap : Nat) (zs : List Int) (w : World) (hn : zs.length ≤ 1048576) (hcap : zs.length ≤ cap) (hr : Reads w ao zs w.heap.size) :
    Calls Try.prog 7 #[.slice ao zs.length cap] w fun e w' => e = .returned (.string (strOfNums (gsL (cuts (strOfNums (pz zs)))))) ∧ Below w.heap.size w w' := by
  rcases Nat.eq_zero_or_pos zs.length with h | h
  · have : zs = [] := List.eq_nil_of_length_eq_zero h
    subst this
    exact rguest_nil ao cap w
  · obtain ⟨b, off, rfl, _, hc⟩ := hr h
    exact rguest_some b off cap zs w hn h hcap hc
end Go.Proofs.Ytcaobkhifiicnaa
