import Derived.Test.YtnplimdcfbgpeaaDoorCLBase
import Derived.Test.YtnplimdcfbgpeaaDoorCLWd8
import Derived.Test.YtnplimdcfbgpeaaDoorLWd32
import Derived.Laws.AppendOwn
import Derived.Laws.MakeOwn
import Derived.Lib.Tables
import Derived.Laws.CopyOwn
import Derived.Deep.AppendLies
namespace Go.Proofs.YtnplimdcfbgpeaaDoor
open Go.RowKit
set_option maxRecDepth 100000

theorem same_n (n m : Nat) (ao bo : Option Addr) (ca cb : Nat) (xs ys : List Int) (w : World) (h1 : xs.length = n) (h2 : ys.length = m) (hn : n ≤ 140737488355328) (ha : Reads w ao xs w.heap.size) (hr : Reads w bo ys w.heap.size) :
    Calls Tryd.prog 14 #[.slice ao n ca, .slice bo m cb] w fun e w' => e = .returned (.bool (decide (xs = ys))) ∧ ∃ m, w' = w.drewN m := by
  subst h1; subst h2; exact same_any ao bo ca cb xs ys w hn ha hr
theorem own_readsK {w : World} {B e : Nat} {k : IntKind} {v : Value} {zs : List Int} (h : w.ownsRow B e 1 v zs.length (bk k zs)) : ∃ ao cap, v = .slice ao zs.length cap ∧ zs.length ≤ cap ∧ ReadsK w k ao zs w.heap.size := by
  have h' := h
  have hlt := h.lt
  rcases h.2 with ⟨rfl, hz⟩ | ⟨g, cap, cur, rfl, _, _, hc, _⟩
  · have hl : zs.length = 0 := by simpa using hz
    exact ⟨none, 0, by rw [hl], by omega, fun hp => by omega⟩
  · refine ⟨_, cap, rfl, hc, fun _ => ⟨g, 0, rfl, (hlt g rfl).2, fun j hj => ?_⟩⟩
    have := h'.cells (g := g) rfl j (.int k (zs.getD j 0)) (by simp [bk, List.getD, List.getElem?_eq_getElem hj])
    have hadd : (⟨g, 0, none⟩ : Addr).add j = ⟨g, 0 + j, none⟩ := by unfold Addr.add; split <;> simp_all
    rw [← hadd]; exact this
end Go.Proofs.YtnplimdcfbgpeaaDoor
namespace Go.Proofs.YtnplimdcfbgpeaaDoor
open Go.RowKit
set_option maxRecDepth 100000


set_option maxRecDepth 100000 in
theorem len64_u64 (W : World) : Calls Tryd.prog 62 #[.int .u64 18446744073709551615] W fun e w' => e = .returned (.int .i64 64) ∧ w' = W := by
  have h := len_255
  go_enter Tryd.func62, Tryd.ntmps62
  go_wp2
  go_ret
  exact ⟨by first | rfl | simp [h], rfl⟩
set_option maxRecDepth 100000 in
theorem or_u64 (x c : Int) (s : Nat) (hs : s < 64) (x0 : 0 ≤ x) (x1 : x < 2 ^ s) (c0 : 0 ≤ c) (c1 : c ≤ 255) (hc : c * 2 ^ s < 18446744073709551616) : bits .or .u64 x (c * 2 ^ s) = x + c * 2 ^ s := by
  obtain ⟨n, rfl⟩ := Int.eq_ofNat_of_zero_le x0
  obtain ⟨m, rfl⟩ := Int.eq_ofNat_of_zero_le c0
  have h1 : n < 2 ^ s := by exact_mod_cast x1
  have e1 : ((m * 2 ^ s : Nat) : Int) = (m : Int) * 2 ^ s := by push_cast; rfl
  have h2 : m * 2 ^ s < 18446744073709551616 := by rw [← e1] at hc; omega
  have h3 : (2 : Nat) ^ s < 18446744073709551616 := Nat.lt_of_lt_of_le (Nat.pow_lt_pow_right (by omega) hs) (by decide)
  have := u64_or_nat n (m * 2 ^ s) (by omega) h2
  rw [shl_or m n s h1] at this
  rw [← e1, this]
  push_cast
  rfl
end Go.Proofs.YtnplimdcfbgpeaaDoor
namespace Go.Proofs.YtnplimdcfbgpeaaDoor
open Go.RowKit
set_option maxRecDepth 100000

def wd (w : Int) : Nat := if w = 1 then 1 else if w = 2 then 2 else if w = 4 then 4 else 8
theorem wd_cases (w : Int) : wd w = 1 ∨ wd w = 2 ∨ wd w = 4 ∨ wd w = 8 := by
  unfold wd
  by_cases h1 : w = 1
  · simp [h1]
  by_cases h2 : w = 2
  · simp [h2]
  by_cases h4 : w = 4
  · simp [h4]
  · simp [h1, h2, h4]
end Go.Proofs.YtnplimdcfbgpeaaDoor
namespace Go.Proofs.YtnplimdcfbgpeaaDoor
open Go.RowKit
set_option maxRecDepth 100000

theorem Tryd.infoQ : (Tryd.prog.info? 48).map (fun i => (i.zero, i.size, i.bytes)) = some (some (.int .u64 0), 1, 8) := by kernel_rfl
def cuts (w : Nat) (xs : List Int) : List Int := xs.map fun x => x % 256 ^ w
theorem own_snocK {w1 : World} {B e : Nat} {k : IntKind} {v' : Value} {L M : List Int} {n : Nat} {x : Int} (hM : M = L ++ [x])
    (h : w1.ownsRow B e 1 v' (n + 1) (bk k L ++ [.int k x])) : w1.ownsRow B e 1 v' (n + 1) (bk k M) := by
  rw [hM, bk_append]; exact h

end Go.Proofs.YtnplimdcfbgpeaaDoor
namespace Go.Proofs.YtnplimdcfbgpeaaDoor
open Go.RowKit
set_option maxRecDepth 100000

def nums (w : Nat) (zs : List Int) (k : Nat) : List Int := (List.range k).map fun i => num ((zs.drop (i * w)).take w)
theorem nums_succ (w : Nat) (zs : List Int) (k : Nat) : nums w zs (k + 1) = nums w zs k ++ [num ((zs.drop (k * w)).take w)] := by simp [nums, List.range_succ]
theorem nums_len (w : Nat) (zs : List Int) (k : Nat) : (nums w zs k).length = k := by simp [nums]

theorem Tryd.info_u8 : (Tryd.prog.info? 5).map (fun i => (i.zero, i.size, i.bytes)) = some (some (.int .u8 0), 1, 1) := by kernel_rfl
theorem Tryd.info_u16 : (Tryd.prog.info? 116).map (fun i => (i.zero, i.size, i.bytes)) = some (some (.int .u16 0), 1, 2) := by kernel_rfl
theorem Tryd.info_u32 : (Tryd.prog.info? 25).map (fun i => (i.zero, i.size, i.bytes)) = some (some (.int .u32 0), 1, 4) := by kernel_rfl
set_option maxRecDepth 100000 in
set_option maxHeartbeats 1000000 in
theorem all_u32 (ao : Option Addr) (cap : Nat) (zs : List Int) (m : Nat) (W : World) (hm : zs.length = m * 4) (hn : zs.length ≤ 16777216) (hcp : zs.length ≤ cap) (hwf : ∀ z ∈ zs, 0 ≤ z ∧ z ≤ 255) (hr : Reads W ao zs W.heap.size) :
    Calls Tryd.prog 58 #[.slice ao zs.length cap] W fun e w' => ∃ v, e = .returned (.tuple #[v, .int .i64 0]) ∧ w'.ownsRow W.heap.size 25 1 v m (bk .u32 (nums 4 zs m)) ∧ Below W.heap.size W w' := by
  obtain ⟨i0, hi, hz0, hz1, hz2⟩ := info_parts Tryd.info_u32
  obtain ⟨n, hnn⟩ : ∃ n, zs.length = n := ⟨_, rfl⟩
  have HN : Hid (zs.length = n) := hnn
  rw [hnn] at hm hn hcp ⊢
  obtain ⟨w1, hmk, hown0, hg0⟩ := run_make_own (P := Tryd.prog) W W.heap.size 23 25 i0 (.int .u32 0) 1 Tryd.underlying23 hi hz0 hz1 .i64 .i64 m (by rw [hz2]; omega) (by unfold maxLen; omega) (Nat.le_refl _)
  rw [show (m : Int) = (n : Int) / 4 by omega] at hmk

  have hb0 : Below W.heap.size W w1 := (Below.refl W.heap.size W).grown hg0 (Nat.le_refl _) (fun k e => by simp at e)
  have d0 : (((n : Int) % 4) != 0) = false := by simp; omega
  have HM : Hid (n = m * 4) := hm
  clear hg0 hnn hm
  go_enter Tryd.func58, Tryd.ntmps58
  go_wp2_with (go_at_call 47; refine (width_u32 _).mono ?_; rintro e wq ⟨rfl, hq⟩; subst wq)
  go_loopw [4, 5] (fun v i wr => ∃ k p : Nat, k ≤ m ∧ p = k * 4 ∧ i = .int .i64 p ∧ wr.ownsRow W.heap.size 25 1 v k (bk .u32 (nums 4 zs k)) ∧ Below W.heap.size W wr)
    (fun _ i _ => n - (intOf i).toNat)
  case atStart => exact ⟨0, 0, Nat.zero_le _, by omega, rfl, by simpa [nums, bk] using hown0, hb0⟩
  case round =>
    clear hown0 hb0 hmk d0
    obtain ⟨k, p, hk, hp, rfl, hown, hb⟩ := hrel
    have HP : Hid (p = k * 4) := hp
    have hB := hb.size
    have hnm := HM.out
    by_cases hlt : k < m
    · have hpn : p + 4 ≤ n := by omega
      have hpI : (p : Int) < (n : Int) := by omega
      have hkb : k * 4 ≤ 16777216 := by omega
      clear hp hnm
      obtain ⟨b, off, rfl, hbl, hc⟩ := (hr.below hb) (by rw [HN.out]; omega)
      have hpc : ¬ p = cap := by omega
      have hpc2 : ¬ cap = p := by omega
      have hpl : (p : Int) ≤ (n : Int) := by omega
      have hd := number_u32 b (off + p) (n - p) (cap - p) (zs.drop p) wr (by rw [List.length_drop, HN.out]) (by omega) (by omega) (fun z hz => hwf z (List.mem_of_mem_drop hz)) (fun j hj => by
        rw [List.length_drop] at hj
        have := hc (p + j) (by omega)
        rw [Nat.add_assoc, this]; simp [List.getD])
      have HS : Hid (nums 4 zs (k + 1) = nums 4 zs k ++ [num ((zs.drop p).take 4)]) := by rw [nums_succ, HP.out]; exact rfl
      clear hc
      generalize num ((zs.drop p).take 4) = x at hd HS
      generalize nums 4 zs k = PP at hown HS
      go_wp2_with (first | (go_at_call 47; refine (width_u32 _).mono ?_; rintro e wq ⟨rfl, hq⟩; subst wq) | (go_at_call 65; with_reducible refine hd.mono ?_; rintro e wq ⟨rfl, hq⟩; subst wq) | (at_builtin; refine wpList_append_own _ rfl _ _ 23 rfl W.heap.size 25 i0 (.int .u32 0) 1 4 Tryd.underlying23 hi hz0 hz1 hz2 rfl (by decide) _ _ _ rfl (hown.alloc _) ⟨_, 0, none⟩ 1 1 [.int .u32 x] rfl rfl ?c1 ?c2 ?c3 ?c4 ?c5 ?_))
      case c1 =>
        intro j u hj
        match j, hj with
        | 0, hj => simp at hj; subst hj; simp [Addr.add]
      case c2 => intro u hu; simp at hu; subst hu; rfl
      case c3 => unfold maxLen; omega
      case c4 => omega
      case c5 => simp; omega
      intro v' w2 hown' hgrow _
      have R1 := own_snocK HS.out hown'
      have R2 := grown_below hb hB hown hgrow
      clear hown' hgrow hown hd
      go_wp2_with (go_at_call 47; refine (width_u32 _).mono ?_; rintro e wq ⟨rfl, hq⟩; subst wq)
      go_roundw
      case rel => exact ⟨k + 1, p + 4, by omega, by rw [HP.out]; omega, by push_cast; rfl, R1, R2⟩
      case measure => simp [intOf]; omega
    · obtain rfl : k = m := by omega
      have hpI : ¬ (p : Int) < (n : Int) := by omega
      clear hnm hp
      go_wp2_with fail
      go_ret2
      exact ⟨_, rfl, hown, hb⟩
set_option maxRecDepth 100000 in
theorem allE_u32 (ao : Option Addr) (n cap : Nat) (W : World) (hm : ¬ n % 4 = 0) :
    Calls Tryd.prog 58 #[.slice ao n cap] W fun e w' => e = .returned (.tuple #[.slice none 0 0, .int .i64 21]) ∧ w' = W := by
  have d0 : (((n : Int) % 4) != 0) = true := by simp; omega
  clear hm
  go_enter Tryd.func58, Tryd.ntmps58
  go_wp2_with (go_at_call 47; refine (width_u32 _).mono ?_; rintro e wq ⟨rfl, hq⟩; subst wq)
  go_ret2
  exact ⟨rfl, rfl⟩

theorem Tryd.info_u64 : (Tryd.prog.info? 48).map (fun i => (i.zero, i.size, i.bytes)) = some (some (.int .u64 0), 1, 8) := by kernel_rfl
end Go.Proofs.YtnplimdcfbgpeaaDoor
