import Derived.Test.YtagflmjiajjkcaaDoorEAw
namespace Go.Proofs.YtagflmjiajjkcaaDoor
open Go.RowKit Go.WideShapes
set_option maxRecDepth 100000

set_option maxHeartbeats 1000000 in
theorem awake_any (w : World) (hT : Tab w) (h1 : 1 < w.heap.size) :
    Calls Tryd.prog 8 #[] w fun e w' => e = .returned (.bool true) ∧ Below w.heap.size w w' := by
  have f4 : n4 (rdL (wrL (List.replicate 256 0) 254 ((by4 287454020).take 4)) 510 4) = 287454020 := by kernel_rfl
  have f2 : n4 (rdL (wrL (List.replicate 256 0) 254 ((by4 287454020).take 4)) 255 2) = 8755 := by kernel_rfl
  have f1 : n4 (rdL (wrL (List.replicate 256 0) 254 ((by4 287454020).take 4)) 4294967295 1) = 51 := by kernel_rfl
  have f0 : n4 (rdL (wrL (List.replicate 256 0) 254 ((by4 287454020).take 4)) 1 1) = 17 := by kernel_rfl
  have hN : Calls Tryd.prog 18 #[.int .i64 8] w fun e w' => ∃ a, e = .returned (.tuple #[.pointer (some ⟨a, 0, none⟩), .int .i64 0]) ∧ Hid (Seg w.heap.size w' a (List.replicate 256 0) ∧ Below w.heap.size w w') := (new8s_any w).mono fun e w' ⟨a, he, h⟩ => ⟨a, he, h⟩
  have hBi : ∀ a W, Seg w.heap.size W a (List.replicate 256 0) → Below w.heap.size w W → Calls Tryd.prog 29 #[.pointer (some ⟨a, 0, none⟩)] W fun e w' => e = .returned (.int .i64 8) ∧ w' = W := fun a W hS hb => bits8_any _ a _ W hS (by simp) (hT.below hb h1)
  have hSt : ∀ a W, Seg w.heap.size W a (List.replicate 256 0) → Below w.heap.size w W → Calls Tryd.prog 22 #[.pointer (some ⟨a, 0, none⟩), .int .u32 254, .int .u32 287454020] W fun e w' => e = .returned (.tuple #[]) ∧ Hid (Seg w.heap.size w' a (wrL (List.replicate 256 0) 254 ((by4 287454020).take 4)) ∧ Below w.heap.size w w') := fun a W hS hb =>
    (store4_any _ a 254 287454020 _ W hS hb.size (by decide) (by decide)).mono fun e w' ⟨he, h1, h2⟩ => ⟨he, h1, hb.trans h2⟩
  generalize wrL (List.replicate 256 0) 254 ((by4 287454020).take 4) = b1 at *
  have l4 : ∀ a W, Seg w.heap.size W a b1 → Below w.heap.size w W → Calls Tryd.prog 11 #[.pointer (some ⟨a, 0, none⟩), .int .u32 510] W fun e w' => e = .returned (.int .u32 287454020) ∧ Hid (Seg w.heap.size w' a b1 ∧ Below w.heap.size w w') := fun a W hS hb =>
    (load4_any _ a 510 _ W hS hb.size (by decide)).mono fun e w' ⟨he, h1, h2⟩ => ⟨by rw [he, f4], h1, hb.trans h2⟩
  have l2 : ∀ a W, Seg w.heap.size W a b1 → Below w.heap.size w W → Calls Tryd.prog 13 #[.pointer (some ⟨a, 0, none⟩), .int .u32 255] W fun e w' => e = .returned (.int .u32 8755) ∧ Hid (Seg w.heap.size w' a b1 ∧ Below w.heap.size w w') := fun a W hS hb =>
    (load2_any _ a 255 _ W hS hb.size (by decide)).mono fun e w' ⟨he, h1, h2⟩ => ⟨by rw [he, f2], h1, hb.trans h2⟩
  have l1 : ∀ a W, Seg w.heap.size W a b1 → Below w.heap.size w W → Calls Tryd.prog 23 #[.pointer (some ⟨a, 0, none⟩), .int .u32 4294967295] W fun e w' => e = .returned (.int .u32 51) ∧ Hid (Seg w.heap.size w' a b1 ∧ Below w.heap.size w w') := fun a W hS hb =>
    (load1_any _ a 4294967295 _ W hS hb.size (by decide)).mono fun e w' ⟨he, h1, h2⟩ => ⟨by rw [he, f1], h1, hb.trans h2⟩
  have l0 : ∀ a W, Seg w.heap.size W a b1 → Below w.heap.size w W → Calls Tryd.prog 23 #[.pointer (some ⟨a, 0, none⟩), .int .u32 1] W fun e w' => e = .returned (.int .u32 17) ∧ Hid (Seg w.heap.size w' a b1 ∧ Below w.heap.size w w') := fun a W hS hb =>
    (load1_any _ a 1 _ W hS hb.size (by decide)).mono fun e w' ⟨he, h1, h2⟩ => ⟨by rw [he, f0], h1, hb.trans h2⟩
  have HBi := hidS hBi
  have HSt := hidS hSt
  have HL4 := hidS l4
  have HL2 := hidS l2
  have HL1 := hidS l1
  have HL0 := hidS l0
  clear hBi hSt l4 l2 l1 l0 f4 f2 f1 f0
  go_enter Tryd.func8, Tryd.ntmps8
  go_wp2_with (first
    | (go_at_call 18; with_reducible refine hN.mono ?_; rintro e w1 ⟨a, rfl, HQ⟩)
    | (go_at_call 29; with_reducible refine (HBi.out _ _ HQ.out.1 HQ.out.2).mono ?_; rintro e wq ⟨rfl, hq⟩; subst wq)
    | (go_at_call 22; with_reducible refine (HSt.out _ _ HQ.out.1 HQ.out.2).mono ?_; rintro e w2 ⟨rfl, HQ2⟩)
    | (go_at_call 11; with_reducible refine (HL4.out _ _ HQ2.out.1 HQ2.out.2).mono ?_; rintro e w3 ⟨rfl, HQ3⟩)
    | (go_at_call 13; with_reducible refine (HL2.out _ _ HQ3.out.1 HQ3.out.2).mono ?_; rintro e w4 ⟨rfl, HQ4⟩)
    | (go_at_call 23; with_reducible refine (HL0.out _ _ HQ5.out.1 HQ5.out.2).mono ?_; rintro e w6 ⟨rfl, HQ6⟩)
    | (go_at_call 23; with_reducible refine (HL1.out _ _ HQ4.out.1 HQ4.out.2).mono ?_; rintro e w5 ⟨rfl, HQ5⟩)
    | fail)
  go_ret
  exact ⟨rfl, HQ6.out.2⟩
theorem shl9 (b : Nat) : ∃ N : Nat, Pw N ∧ wrap64 (256 * 2 ^ (b % 9)) = (N : Int) := by
  have h9 : b % 9 < 9 := Nat.mod_lt _ (by decide)
  generalize b % 9 = k at *
  have : k = 0 ∨ k = 1 ∨ k = 2 ∨ k = 3 ∨ k = 4 ∨ k = 5 ∨ k = 6 ∨ k = 7 ∨ k = 8 := by omega
  rcases this with rfl | rfl | rfl | rfl | rfl | rfl | rfl | rfl | rfl
  · exact ⟨256, .inl rfl, by kernel_rfl⟩
  · exact ⟨512, .inr (.inl rfl), by kernel_rfl⟩
  · exact ⟨1024, .inr (.inr (.inl rfl)), by kernel_rfl⟩
  · exact ⟨2048, .inr (.inr (.inr (.inl rfl))), by kernel_rfl⟩
  · exact ⟨4096, .inr (.inr (.inr (.inr (.inl rfl)))), by kernel_rfl⟩
  · exact ⟨8192, .inr (.inr (.inr (.inr (.inr (.inl rfl))))), by kernel_rfl⟩
  · exact ⟨16384, .inr (.inr (.inr (.inr (.inr (.inr (.inl rfl)))))), by kernel_rfl⟩
  · exact ⟨32768, .inr (.inr (.inr (.inr (.inr (.inr (.inr (.inl rfl))))))), by kernel_rfl⟩
  · exact ⟨65536, .inr (.inr (.inr (.inr (.inr (.inr (.inr (.inr rfl))))))), by kernel_rfl⟩
set_option maxHeartbeats 1000000 in
theorem made_any (b : Nat) (ao : Option Addr) (cap : Nat) (zs : List Int) (w : World) (hb : b ≤ 255) (hwf : ∀ z ∈ zs, 0 ≤ z ∧ z ≤ 255) (hr : Reads w ao zs w.heap.size) :
    Calls Tryd.prog 9 #[.int .u8 b, .slice ao zs.length cap] w fun e w' => ∃ a bs, e = .returned (.pointer (some ⟨a, 0, none⟩)) ∧ Seg w.heap.size w' a bs ∧ Below w.heap.size w w' := by
  obtain ⟨N, hp, hN⟩ := shl9 b
  have hpb := hp.bd
  have hF := fun ao cap L W (hl : L.length = N) hw hr => from_any ao cap L W (by rw [hl]; exact hp) hw hr
  have HF := hidS hF
  have HWF := hidS hwf
  obtain ⟨i0, hi, hz0, hz1, hz2⟩ := info_parts Tryd.info5
  clear hF hwf hp
  go_enter Tryd.func9, Tryd.ntmps9
  go_wp2_with fail
  rw [hN]
  clear hN
  go_loopw [6, 7] (fun v i wr => ∃ (k : Nat) (L : List Int), k ≤ N ∧ L.length = k ∧ (∀ z ∈ L, 0 ≤ z ∧ z ≤ 255) ∧ i = .int .i64 k ∧ wr.ownsRow w.heap.size 5 1 v k (bv L) ∧ Below w.heap.size w wr)
    (fun _ i _ => N - (intOf i).toNat)
  case atStart => exact ⟨0, [], Nat.zero_le _, rfl, by simp, rfl, World.ownsRow_nil _ _ _ _, Below.refl _ _⟩
  case round =>
    obtain ⟨k, L, hk, hL, hLw, rfl, hown, hbw⟩ := hrel
    have HL := hidS hL
    have HLW := hidS hLw
    clear hL hLw
    by_cases hlt : k < N
    · have hltI : (k : Int) < (N : Int) := by omega
      have hB := hbw.size
      have HBW := hidS hbw
      by_cases h0 : 0 < zs.length
      · have h0I : (0 : Int) < (zs.length : Int) := by omega
        have hmlt : k % zs.length < zs.length := Nat.mod_lt _ h0
        obtain ⟨q, off, rfl, hbl, hc⟩ := (hr.below hbw) h0
        have hck := hc (k % zs.length) hmlt
        have hzw := HWF.out _ (getD_mem hmlt)
        generalize zs.getD (k % zs.length) 0 = c at hck hzw
        have hm2 : (k : Int).tmod (zs.length : Int) = ((k % zs.length : Nat) : Int) := by
          rw [Int.tmod_eq_emod_of_nonneg (by omega)]; rfl
        have hm3 : (k : Int) % (zs.length : Int) = ((k % zs.length : Nat) : Int) := rfl
        have hzne : ¬ (zs.length : Int) = 0 := by omega
        generalize hqq : k % zs.length = kk at *
        have hkI : (kk : Int) < (zs.length : Int) := by omega
        have HZ := hidS hzw
        clear hc hqq hzw hbw
        go_wp2_with (at_builtin; refine wpList_append_own _ rfl _ _ 35 rfl w.heap.size 5 i0 (.int .u8 0) 1 1 Tryd.underlying35 hi hz0 hz1 hz2 rfl (by decide) _ _ _ rfl (hown.alloc _) ⟨wr.heap.size, 0, none⟩ 1 1 [.int .u8 c] rfl rfl ?c1 ?c2 ?c3 ?c4 ?c5 ?_)
        case c1 =>
          intro j u hj
          match j, hj with
          | 0, hj => simp at hj; subst hj; simp [Addr.add]
        case c2 => intro u hu; simp at hu; subst hu; rfl
        case c3 => unfold maxLen; omega
        case c4 => omega
        case c5 => simp; omega
        intro v' w1 hown' hgrow _
        have R1 := own_snoc (M := L ++ [c]) rfl hown'
        have R2 := grown_below HBW.out hB hown hgrow
        clear hown' hgrow hown hck
        go_wp2
        go_roundw
        case rel => exact ⟨k + 1, L ++ [c], by omega, by simp [HL.out], fun z hz => (List.mem_append.1 hz).elim (HLW.out z) (fun h => by rw [List.mem_singleton.1 h]; exact HZ.out), by go_num, R1, R2⟩
        case measure => simp [intOf]; omega
      · have h0I : ¬ (0 : Int) < (zs.length : Int) := by omega
        have hcv : (0 : Int) ≤ (k : Int) % 256 ∧ (k : Int) % 256 ≤ 255 := by omega
        obtain ⟨c, hcc⟩ : ∃ c : Int, c = (k : Int) % 256 := ⟨_, rfl⟩
        rw [← hcc] at hcv
        have hcc2 : (k : Int) % 256 = c := hcc.symm
        have HZ := hidS hcv
        clear hcv hcc hbw
        go_wp2_with (at_builtin; refine wpList_append_own _ rfl _ _ 35 rfl w.heap.size 5 i0 (.int .u8 0) 1 1 Tryd.underlying35 hi hz0 hz1 hz2 rfl (by decide) _ _ _ rfl (hown.alloc _) ⟨wr.heap.size, 0, none⟩ 1 1 [.int .u8 c] rfl rfl ?d1 ?d2 ?d3 ?d4 ?d5 ?_)
        case d2 => rfl
        case d3 => first | (unfold maxLen; omega) | omega
        case d4 => omega
        case d5 => first | omega | (simp; omega)
        intro v' w1 hown' hgrow _
        have R1 := own_snoc (M := L ++ [c]) rfl hown'
        have R2 := grown_below HBW.out hB hown hgrow
        clear hown' hgrow hown
        go_wp2
        go_roundw
        case rel => exact ⟨k + 1, L ++ [c], by omega, by simp [HL.out], fun z hz => (List.mem_append.1 hz).elim (HLW.out z) (fun h => by rw [List.mem_singleton.1 h]; exact HZ.out), by go_num, R1, R2⟩
        case measure => simp [intOf]; omega
    · obtain rfl : k = N := by omega
      have hLk := HL.out
      obtain ⟨ao', cap', rfl, hr'⟩ := own_reads (zs := L) (by rw [hLk]; exact hown)
      rw [hLk] at hown
      have hF2 := HF.out ao' cap' L wr hLk HLW.out hr'
      rw [hLk] at hF2
      rw [hLk]
      have HF2 := hidS hF2
      have HBW := hidS hbw
      clear hown hr' hF2 hbw
      go_wp2_with (first
        | (go_at_call 17; with_reducible refine HF2.out.mono ?_; rintro e w2 ⟨a, rfl, hq1, hq2⟩; have HQ1 := hidS hq1; have HQ2 := hidS hq2; clear hq1 hq2)
        | fail)
      go_ret
      obtain ⟨g, cp, tv, ts, hM, ha, hg, ht⟩ := HQ1.out
      have hsz := HBW.out.size
      exact ⟨_, _, rfl, ⟨g, cp, tv, ts, hM, by omega, by omega, fun k hk => Nat.le_trans hsz (ht k hk)⟩, HBW.out.trans (HQ2.out.mono hsz)⟩
end Go.Proofs.YtagflmjiajjkcaaDoor
