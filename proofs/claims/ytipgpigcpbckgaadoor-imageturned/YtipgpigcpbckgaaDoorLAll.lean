import Derived.Test.YtipgpigcpbckgaaDoorLCut
import Derived.Deep.AppendLies
namespace Go.Proofs.YtipgpigcpbckgaaDoor
open Go.RowKit
set_option maxRecDepth 100000

def nums (w : Nat) (zs : List Int) (k : Nat) : List Int := (List.range k).map fun i => num ((zs.drop (i * w)).take w)
theorem nums_succ (w : Nat) (zs : List Int) (k : Nat) : nums w zs (k + 1) = nums w zs k ++ [num ((zs.drop (k * w)).take w)] := by simp [nums, List.range_succ]
theorem nums_len (w : Nat) (zs : List Int) (k : Nat) : (nums w zs k).length = k := by simp [nums]

theorem Tryd.info_u8 : (Tryd.prog.info? 5).map (fun i => (i.zero, i.size, i.bytes)) = some (some (.int .u8 0), 1, 1) := by kernel_rfl
theorem Tryd.info_u16 : (Tryd.prog.info? 137).map (fun i => (i.zero, i.size, i.bytes)) = some (some (.int .u16 0), 1, 2) := by kernel_rfl
theorem Tryd.info_u32 : (Tryd.prog.info? 26).map (fun i => (i.zero, i.size, i.bytes)) = some (some (.int .u32 0), 1, 4) := by kernel_rfl
set_option maxRecDepth 100000 in
set_option maxHeartbeats 1000000 in
theorem all_u32 (ao : Option Addr) (cap : Nat) (zs : List Int) (m : Nat) (W : World) (hm : zs.length = m * 4) (hn : zs.length ≤ 16777216) (hcp : zs.length ≤ cap) (hwf : ∀ z ∈ zs, 0 ≤ z ∧ z ≤ 255) (hr : Reads W ao zs W.heap.size) :
    Calls Tryd.prog 45 #[.slice ao zs.length cap] W fun e w' => ∃ v, e = .returned (.tuple #[v, .int .i64 0]) ∧ w'.ownsRow W.heap.size 26 1 v m (bk .u32 (nums 4 zs m)) ∧ Below W.heap.size W w' := by
  obtain ⟨i0, hi, hz0, hz1, hz2⟩ := info_parts Tryd.info_u32
  obtain ⟨n, hnn⟩ : ∃ n, zs.length = n := ⟨_, rfl⟩
  have HN : Hid (zs.length = n) := hnn
  rw [hnn] at hm hn hcp ⊢
  obtain ⟨w1, hmk, hown0, hg0⟩ := run_make_own (P := Tryd.prog) W W.heap.size 25 26 i0 (.int .u32 0) 1 Tryd.underlying25 hi hz0 hz1 .i64 .i64 m (by rw [hz2]; omega) (by unfold maxLen; omega) (Nat.le_refl _)
  rw [show (m : Int) = (n : Int) / 4 by omega] at hmk

  have hb0 : Below W.heap.size W w1 := (Below.refl W.heap.size W).grown hg0 (Nat.le_refl _) (fun k e => by simp at e)
  have d0 : (((n : Int) % 4) != 0) = false := by simp; omega
  have HM : Hid (n = m * 4) := hm
  clear hg0 hnn hm
  go_enter Tryd.func45, Tryd.ntmps45
  go_wp2_with (go_at_call 48; refine (width_u32 _).mono ?_; rintro e wq ⟨rfl, hq⟩; subst wq)
  go_loopw [4, 5] (fun v i wr => ∃ k p : Nat, k ≤ m ∧ p = k * 4 ∧ i = .int .i64 p ∧ wr.ownsRow W.heap.size 26 1 v k (bk .u32 (nums 4 zs k)) ∧ Below W.heap.size W wr)
    (fun _ i _ => n - (intOf i).toNat)
  case atStart => exact ⟨0, 0, Nat.zero_le _, by omega, rfl, by simpa [nums, bk] using hown0, hb0⟩
  case round =>
    clear hown0 hb0 hmk d0
    obtain ⟨k, p, hk, hp, rfl, hown, hb⟩ := hrel
    have HP : Hid (p = k * 4) := hp
    have hB := hb.size
    have hnm := HM.out
    by_cases hlt : k < m
    · have hpn : p + 4 ≤ n := by omega
      have hpI : (p : Int) < (n : Int) := by omega
      have hkb : k * 4 ≤ 16777216 := by omega
      clear hp hnm
      obtain ⟨b, off, rfl, hbl, hc⟩ := (hr.below hb) (by rw [HN.out]; omega)
      have hpc : ¬ p = cap := by omega
      have hpc2 : ¬ cap = p := by omega
      have hpl : (p : Int) ≤ (n : Int) := by omega
      have hd := number_u32 b (off + p) (n - p) (cap - p) (zs.drop p) wr (by rw [List.length_drop, HN.out]) (by omega) (by omega) (fun z hz => hwf z (List.mem_of_mem_drop hz)) (fun j hj => by
        rw [List.length_drop] at hj
        have := hc (p + j) (by omega)
        rw [Nat.add_assoc, this]; simp [List.getD])
      have HS : Hid (nums 4 zs (k + 1) = nums 4 zs k ++ [num ((zs.drop p).take 4)]) := by rw [nums_succ, HP.out]; exact rfl
      clear hc
      generalize num ((zs.drop p).take 4) = x at hd HS
      generalize nums 4 zs k = PP at hown HS
      go_wp2_with (first | (go_at_call 48; refine (width_u32 _).mono ?_; rintro e wq ⟨rfl, hq⟩; subst wq) | (go_at_call 50; with_reducible refine hd.mono ?_; rintro e wq ⟨rfl, hq⟩; subst wq) | (at_builtin; refine wpList_append_own _ rfl _ _ 25 rfl W.heap.size 26 i0 (.int .u32 0) 1 4 Tryd.underlying25 hi hz0 hz1 hz2 rfl (by decide) _ _ _ rfl (hown.alloc _) ⟨_, 0, none⟩ 1 1 [.int .u32 x] rfl rfl ?c1 ?c2 ?c3 ?c4 ?c5 ?_))
      case c1 =>
        intro j u hj
        match j, hj with
        | 0, hj => simp at hj; subst hj; simp [Addr.add]
      case c2 => intro u hu; simp at hu; subst hu; rfl
      case c3 => unfold maxLen; omega
      case c4 => omega
      case c5 => simp; omega
      intro v' w2 hown' hgrow _
      have R1 := own_snocK HS.out hown'
      have R2 := grown_below hb hB hown hgrow
      clear hown' hgrow hown hd
      go_wp2_with (go_at_call 48; refine (width_u32 _).mono ?_; rintro e wq ⟨rfl, hq⟩; subst wq)
      go_roundw
      case rel => exact ⟨k + 1, p + 4, by omega, by rw [HP.out]; omega, by push_cast; rfl, R1, R2⟩
      case measure => simp [intOf]; omega
    · obtain rfl : k = m := by omega
      have hpI : ¬ (p : Int) < (n : Int) := by omega
      clear hnm hp
      go_wp2_with fail
      go_ret2
      exact ⟨_, rfl, hown, hb⟩
set_option maxRecDepth 100000 in
theorem allE_u32 (ao : Option Addr) (n cap : Nat) (W : World) (hm : ¬ n % 4 = 0) :
    Calls Tryd.prog 45 #[.slice ao n cap] W fun e w' => e = .returned (.tuple #[.slice none 0 0, .int .i64 21]) ∧ w' = W := by
  have d0 : (((n : Int) % 4) != 0) = true := by simp; omega
  clear hm
  go_enter Tryd.func45, Tryd.ntmps45
  go_wp2_with (go_at_call 48; refine (width_u32 _).mono ?_; rintro e wq ⟨rfl, hq⟩; subst wq)
  go_ret2
  exact ⟨rfl, rfl⟩

theorem Tryd.info_u64 : (Tryd.prog.info? 42).map (fun i => (i.zero, i.size, i.bytes)) = some (some (.int .u64 0), 1, 8) := by kernel_rfl
end Go.Proofs.YtipgpigcpbckgaaDoor
