import Derived.Test.YtcbaladlhanjjaaMLay
import Derived.Test.YtcbaladlhanjjaaLLivesE
namespace Go.Proofs.Ytcbaladlhanjjaa
open Go.RowKit Go.WideShapes Go.Sort Go.Lib
set_option maxRecDepth 100000

theorem own_cap2 {w : World} {B e sz n : Nat} {v : Value} {xs : List Value} (h : w.ownsRow B e sz v n xs) : ∃ a c, v = .slice a n c ∧ n ≤ c := by
  rcases h.2 with ⟨rfl, rfl⟩ | ⟨g, cap, cur, rfl, _, _, hc, _⟩
  · exact ⟨none, 0, rfl, Nat.le_refl _⟩
  · exact ⟨_, _, rfl, hc⟩
set_option maxHeartbeats 1000000 in
theorem within_any (a : Nat × Nat) (t : Nat) (w : World) (ha : a.1 < 4294967296 ∧ a.2 < 4294967296) (ht : t < 4294967296) (hle : a.1 + a.2 ≤ t) :
    Calls Try.prog 7 #[.agg #[.int .u32 a.1, .int .u32 a.2], .int .u32 t] w fun e w' => e = .returned (.bool true) ∧ ∃ q os', w' = grow (w.drewN q) os' := by
  have hE := fun W => end_any a.1 a.2 W ha.1 ha.2
  have hleI : (a.1 : Int) + (a.2 : Int) ≤ (t : Int) := by omega
  have htI : (t : Int) < 4294967296 := by omega
  have ht0 : (0 : Int) ≤ (t : Int) := by omega
  clear ha ht hle
  generalize (a.1 : Int) = a1 at *
  generalize (a.2 : Int) = a2 at *
  generalize (t : Int) = tt at *
  have hw1 : IntKind.u64.wrap tt = tt := by rw [IntKind.wrap_u64]; omega
  go_enter Try.func7, Try.ntmps7
  go_wp2_with (first | (go_at_call 17; with_reducible refine (hE _).mono ?_; rintro e wq ⟨rfl, q, os', hq⟩; subst wq))
  go_ret
  exact ⟨rfl, q, _, by rw [alloc_eq_grow]; show grow (grow (w.drewN q) _) os' = _; rw [grow_grow]⟩
theorem apart_n (ao : Option Addr) (cap n : Nat) (L : List (Nat × Nat)) (w : World) (hl : L.length = n) (hn : L.length ≤ 1048576) (hcap : L.length ≤ cap) (hw : Wfs L) (hA : Ap L) (hr : SRd w ao L w.heap.size) :
    Calls Try.prog 6 #[.slice ao n cap] w fun e w' => e = .returned (.tuple #[.int .i64 0, .int .i64 0, .bool true]) ∧ Below w.heap.size w w' := by
  subst hl; exact apart_ap ao cap L w hn hcap hw hA hr
theorem sum_le (zs : List Nat) (h : ∀ z ∈ zs, z < 4294967296) : zs.sum ≤ 4294967295 * zs.length := by
  induction zs with
  | nil => simp
  | cons z r ih =>
    have h1 := h z (by simp)
    have h2 := ih (fun x hx => h x (by simp [hx]))
    simp only [List.sum_cons, List.length_cons]
    omega
theorem nz_lt {zs : List Int} (hw : ∀ z ∈ zs, 0 ≤ z ∧ z < 4294967296) : ∀ z ∈ nz zs, z < 4294967296 := by
  intro z hz
  obtain ⟨x, hx, rfl⟩ := List.mem_map.1 hz
  have := hw x hx
  omega
set_option maxHeartbeats 2000000 in
theorem liesLaw (f : Nat) (ao : Option Addr) (cap : Nat) (zs : List Int) (w : World) (hf : f < 4294967296) (hn : zs.length ≤ 1048576) (hw : ∀ z ∈ zs, 0 ≤ z ∧ z < 4294967296) (hr : ReadsK w .u32 ao zs w.heap.size) :
    Calls Try.prog 3 #[.int .u32 f, .slice ao zs.length cap] w fun e w' => e = .returned (.bool true) ∧ Below w.heap.size w w' := by
  have hbound : sumS f (nz zs) ≤ 9007199254740992 := by
    have := sum_le (nz zs) (nz_lt hw)
    rw [nz_len] at this
    unfold sumS
    omega
  have HBD := hidS hbound
  have HW := hidS hw
  have HR := hidS hr
  have HF := hidS hf
  have hfI : (f : Int) < 4294967296 := by omega
  clear hw hr hf hbound
  go_enter Try.func3, Try.ntmps3
  go_wp2_with fail
  with_reducible refine (lives_any w).mono ?_
  rintro e w1 ⟨rfl, b1⟩
  go_wp2_with fail
  with_reducible refine (lay_any f ao cap zs w1 HF.out hn HW.out ((HR.out.below b1).mono b1.size)).mono ?_
  rintro e w2 ⟨hLP, b2⟩
  have B2 := btS b1 b2
  obtain ⟨v, er, rfl, hcase⟩ : ∃ v er, e = .returned (.tuple #[v, .int .i64 er]) ∧ ((okB f zs = true ∧ er = 0 ∧ w2.ownsRow w1.heap.size 33 2 v zs.length (sv (layS f (nz zs)))) ∨ (okB f zs = false ∧ er = 20)) := by
    rcases hLP with ⟨hok, v, h1, own2⟩ | ⟨hok, v, h1⟩
    · exact ⟨v, 0, h1, .inl ⟨hok, rfl, own2⟩⟩
    · exact ⟨v, 20, h1, .inr ⟨hok, rfl⟩⟩
  have HCS := hidS hcase
  clear hLP hcase
  go_wp2_with fail
  go_loop [7, 8] (fun x i => ∃ k : Nat, k ≤ zs.length ∧ i = .int .i64 k ∧ x = .int .u64 ((sumS f ((nz zs).take k) : Nat) : Int)) (fun _ i => zs.length - (intOf i).toNat)
  case atStart => exact ⟨0, Nat.zero_le _, rfl, by simp [sumS]⟩
  case round =>
    obtain ⟨k, hk, rfl, rfl⟩ := hrel
    by_cases hlt : k < zs.length
    · have hltI : (k : Int) < (zs.length : Int) := by omega
      obtain ⟨b, off, rfl, hbl, hc⟩ := (HR.out.below B2) (by omega)
      have hck := hc k hlt
      obtain ⟨ez, hzl⟩ := nz_get HW.out hlt
      rw [ez] at hck
      have hts := ptakeS 0 (nz zs) k (by rw [nz_len]; exact hlt)
      have HS2 := hidS (sumS_snoc f ((nz zs).take k) ((nz zs).getD k 0))
      rw [← hts] at HS2
      have hle := sumS_take f (nz zs) k
      have hbd := HBD.out
      clear hc hts ez
      generalize sumS f ((nz zs).take k) = S at *
      generalize (nz zs).getD k 0 = z at *
      have hw2 : IntKind.u64.wrap (z : Int) = (z : Int) := by rw [IntKind.wrap_u64]; omega
      have hw3 : IntKind.u64.wrap ((S : Int) + (z : Int)) = (S : Int) + (z : Int) := by rw [IntKind.wrap_u64]; omega
      clear hle hbd hzl
      go_wp2_with fail
      go_round
      case rel => exact ⟨k + 1, by omega, by go_num, by rw [HS2.out]; go_num⟩
      case measure => simp [intOf]; omega
    · obtain rfl : k = zs.length := by omega
      have hltI : ¬ (zs.length : Int) < (zs.length : Int) := by omega
      have hfull : (nz zs).take zs.length = nz zs := by rw [← nz_len, List.take_length]
      rw [hfull]
      clear hfull
      rcases HCS.out with ⟨hok, rfl, own2⟩ | ⟨hok, rfl⟩
      · have hs : sumS f (nz zs) ≤ 4294967295 := of_decide_eq_true hok
        obtain ⟨a2, c2, rfl, hc2⟩ := own_cap2 own2
        have hsI : ¬ (4294967295 : Int) < ((sumS f (nz zs) : Nat) : Int) := by omega
        have HS := hidS hs
        obtain ⟨ao3, cp3, he3, hrd3⟩ := own_srd (L := layS f (nz zs)) (v := .slice a2 zs.length c2) (by rw [layS_len, nz_len]; exact own2)
        rw [layS_len, nz_len] at he3
        simp only [Value.slice.injEq] at he3
        obtain ⟨rfl, _, rfl⟩ := he3
        have HRD := hidS hrd3
        clear hs hok hrd3 HCS
        go_wp2_with fail
        have hLl : (layS f (nz zs)).length = zs.length := by rw [layS_len, nz_len]
        with_reducible refine (apart_n a2 c2 zs.length (layS f (nz zs)) w2 hLl (by omega) (by omega) (layS_wf _ _ HS.out) (layS_ap _ _) HRD.out).mono ?_
        rintro e w3 ⟨rfl, b3⟩
        have B3 := btS B2 b3
        have hrd3 := (HRD.out.below b3).mono b3.size
        have HRD3 := hidS hrd3
        have HWL := hidS (layS_wf (nz zs) f HS.out)
        have HGE := hidS (layS_ge (nz zs) f)
        have HGT := hidS (layS_get (nz zs) f)
        have HLL := hidS hLl
        have hwS : IntKind.u32.wrap ((sumS f (nz zs) : Nat) : Int) = ((sumS f (nz zs) : Nat) : Int) := by have := HS.out; rw [IntKind.wrap_u32]; omega
        have mixed : Try.prog.follows .mixedOrders = true := by kernel_rfl
        generalize sumS f (nz zs) = S at *
        generalize layS f (nz zs) = L at *
        clear hrd3 HRD own2 hLl HBD
        go_wp2_with fail
        go_loopw [12] (fun i wr => ∃ k : Nat, k ≤ zs.length ∧ i = .int .i64 k ∧ Below w3.heap.size w3 wr) (fun i _ => zs.length - (intOf i).toNat)
        case atStart => exact ⟨0, Nat.zero_le _, rfl, Below.refl _ _⟩
        case round =>
          obtain ⟨k, hk, rfl, hb⟩ := hrel
          by_cases hlt : k < zs.length
          · have hltI : (k : Int) < (zs.length : Int) := by omega
            have hkL : k < L.length := by rw [HLL.out]; exact hlt
            obtain ⟨b, off, rfl, hbl, hc⟩ := HRD3.out (by omega)
            obtain ⟨c0, c1⟩ := hc k hkL
            obtain ⟨b4, off4, rfl, hbl4, hc4⟩ := (HR.out.below B3) (by omega)
            have hck := hc4 k hlt
            obtain ⟨ez, hzl⟩ := nz_get HW.out hlt
            have eg := HGT.out k (by rw [nz_len]; exact hlt)
            rw [ez, ← eg] at hck
            have hwf := HWL.out _ (getD_memS hkL)
            have hge := (HGE.out _ (getD_memS hkL)).2
            have hT := fun W => within_any (L.getD k (0, 0)) S W hwf (by have := HS.out; omega) hge
            have hbl' : b4 < w3.heap.size := by have := B3.size; omega
            have hsz := hb.size
            generalize L.getD k (0, 0) = p at *
            have x0 := (hb.cell (p := ⟨b, off + k * 2, none⟩) hbl).trans c0
            have x1 := (hb.cell (p := ⟨b, off + k * 2 + 1, none⟩) hbl).trans c1
            have x2 := (hb.cell (p := ⟨b4, off4 + k, none⟩) hbl').trans hck
            have y0 : ∀ n os, (grow (wr.drewN n) os).cell? ⟨b, off + k * 2, none⟩ = some (.int .u32 p.1) := fun n os => cell_grown (a := ⟨b, off + k * 2, none⟩) (by show b < _; omega) x0 n os
            have y1 : ∀ n os, (grow (wr.drewN n) os).cell? ⟨b, off + k * 2 + 1, none⟩ = some (.int .u32 p.2) := fun n os => cell_grown (a := ⟨b, off + k * 2 + 1, none⟩) (by show b < _; omega) x1 n os
            have y2 : ∀ n os, (grow (wr.drewN n) os).cell? ⟨b4, off4 + k, none⟩ = some (.int .u32 p.2) := fun n os => cell_grown (a := ⟨b4, off4 + k, none⟩) (by show b4 < _; omega) x2 n os
            clear hc hc4 c0 c1 hck ez hzl eg hwf hge x0 x1 x2 HS
            go_wp2_with fail
            go_quiet_grown (first | (with_reducible refine Calls.grown_of (hT _)) | fail)
            go_wp2_with fail
            go_roundw
            case rel => exact ⟨k + 1, by omega, by go_num, btS hb (below_grow _ _ _)⟩
            case measure => simp [intOf]; omega
          · obtain rfl : k = zs.length := by omega
            have hltI : ¬ (zs.length : Int) < (zs.length : Int) := by omega
            go_wp2_with fail
            go_ret
            exact ⟨rfl, btS B3 hb⟩
      · have hs : ¬ sumS f (nz zs) ≤ 4294967295 := of_decide_eq_false hok
        have hsI : (4294967295 : Int) < ((sumS f (nz zs) : Nat) : Int) := by omega
        clear hs hok HCS
        go_wp2_with fail
        go_ret
        exact ⟨rfl, B2⟩
theorem liesLawI (f : Int) (ao : Option Addr) (cap : Nat) (zs : List Int) (w : World) (hf : 0 ≤ f ∧ f ≤ 4294967295) (hn : zs.length ≤ 1048576) (hw : ∀ z ∈ zs, 0 ≤ z ∧ z < 4294967296) (hr : ReadsK w .u32 ao zs w.heap.size) :
    Calls Try.prog 3 #[.int .u32 f, .slice ao zs.length cap] w fun e w' => e = .returned (.bool true) ∧ Below w.heap.size w w' := by
  obtain ⟨n, rfl⟩ := Int.eq_ofNat_of_zero_le hf.1
  exact liesLaw n ao cap zs w (by omega) hn hw hr
end Go.Proofs.Ytcbaladlhanjjaa
