import Derived.Test.YtigiecodobgenaaSNatB
namespace Go.Proofs.Ytigiecodobgenaa
open Go.RowKit

theorem Try.infoU : (Try.prog.info? 22).map (fun i => (i.zero, i.size, i.bytes)) = some (some (.int .u32 0), 1, 4) := by kernel_rfl
/-- words as values -/
def uk (L : List Nat) : List Value := L.map (fun (z : Nat) => Value.int .u32 ((z : Nat) : Int))
theorem uk_append (L M : List Nat) : uk (L ++ M) = uk L ++ uk M := by simp [uk]
theorem own_snocU {w1 : World} {B e : Nat} {v' : Value} {L : List Nat} {n : Nat} {x : Nat}
    (h : w1.ownsRow B e 1 v' (n + 1) (uk L ++ [.int .u32 (x : Int)])) : w1.ownsRow B e 1 v' (n + 1) (uk (L ++ [x])) := by
  rw [uk_append]; exact h
theorem grown_belowU {B e sz : Nat} {a w w' : World} {xs : List Value} {v : Value} {n : Nat} {o : Obj} (h : Below B a w) (hB : B ≤ w.heap.size) (hown : w.ownsRow B e sz v n xs) (hg : (w.alloc o).grownBy w' v.ownBlock) : Below B a w' :=
  (h.alloc hB o).grown hg (by simp; omega) (fun k e => (hown.lt k e).1)
theorem own_cellU {w1 : World} {B e g n cap : Nat} {L : List Nat} (h : w1.ownsRow B e 1 (.slice (some ⟨g, 0, none⟩) n cap) L.length (uk L)) {i : Nat} (hi : i < L.length) : w1.cell? ⟨g, 0 + i, none⟩ = some (.int .u32 (L.getD i 0 : Nat)) := by
  have := h.cells (g := g) rfl i (.int .u32 (L.getD i 0 : Nat)) (by simp [uk, List.getD, List.getElem?_eq_getElem hi])
  have hadd : (⟨g, 0, none⟩ : Addr).add i = ⟨g, 0 + i, none⟩ := by unfold Addr.add; split <;> simp_all
  rw [← hadd]; exact this
theorem own_readsU {w : World} {B e : Nat} {v : Value} {zs : List Nat} (h : w.ownsRow B e 1 v zs.length (uk zs)) : ∃ ao cap, v = .slice ao zs.length cap ∧ ReadsU w ao zs w.heap.size := by
  have h' := h
  have hlt := h.lt
  rcases h.2 with ⟨rfl, hz⟩ | ⟨g, cap, cur, rfl, _⟩
  · have hl : zs.length = 0 := by simpa using hz
    exact ⟨none, 0, by rw [hl], fun hp => by omega⟩
  · exact ⟨_, cap, rfl, fun _ => ⟨g, 0, rfl, (hlt g rfl).2, fun j hj => own_cellU h' hj⟩⟩
theorem own_cap {w : World} {B e : Nat} {ao : Option Addr} {cap : Nat} {zs : List Nat} (h : w.ownsRow B e 1 (.slice ao zs.length cap) zs.length (uk zs)) : zs.length ≤ cap ∧ (ao = none → cap = 0) := by
  rcases h.2 with ⟨hv, hz⟩ | ⟨g, cap', cur, hv, hrest⟩
  · simp only [Value.slice.injEq] at hv
    exact ⟨by omega, fun _ => hv.2.2⟩
  · simp only [Value.slice.injEq] at hv
    obtain ⟨h1, -, h3⟩ := hv
    refine ⟨?_, fun h => by rw [h1] at h; cases h⟩
    rw [h3]; exact hrest.2.2.1
theorem rep_snoc (k : Nat) : List.replicate (k + 1) (0 : Nat) = List.replicate k 0 ++ [0] := by
  rw [List.replicate_succ']
theorem nv_rep (k : Nat) (L : List Nat) : nv (List.replicate k 0 ++ L) = 4294967296 ^ k * nv L := by
  rw [nv_append, List.length_replicate, nv_zero (fun z hz => List.eq_of_mem_replicate hz), Nat.zero_add]

set_option maxRecDepth 100000 in
set_option maxHeartbeats 4000000 in
theorem up_any (ao : Option Addr) (cap : Nat) (zs : List Nat) (n : Nat) (w : World) (hl : zs.length ≤ 1000) (hn : n ≤ 10000) (hr : ReadsU w ao zs w.heap.size) (hW : Words zs) :
    Calls Try.prog 44 #[.slice ao zs.length cap, .int .i64 n] w fun e w' => (∃ v, e = .returned v ∧ NatV w' v (nv zs * 2 ^ n)) ∧ Below w.heap.size w w' := by
  obtain ⟨i0, hi, hz0, hz1, hz2⟩ := info_parts Try.infoU
  obtain ⟨q, hq⟩ : ∃ q, q = n / 32 := ⟨_, rfl⟩
  obtain ⟨s, hs⟩ : ∃ s, s = n % 32 := ⟨_, rfl⟩
  have eq1 : (n : Int).tdiv 32 = (q : Int) := by rw [Int.tdiv_eq_ediv_of_nonneg (by omega)]; omega
  have eq2 : (n : Int) / 32 = (q : Int) := by omega
  have es1 : (n : Int).tmod 32 = (s : Int) := by rw [Int.tmod_eq_emod_of_nonneg (by omega)]; omega
  have es2 : (n : Int) % 32 = (s : Int) := by omega
  have hs32 : s < 32 := by omega
  have hq2 : q ≤ 313 := by omega
  have HN : Hid (n = 32 * q + s) := by show n = 32 * q + s; omega
  clear hq hs hn
  go_enter Try.func44, Try.ntmps44
  go_wp2
  go_loopw [5, 6] (fun v i wr => ∃ k : Nat, k ≤ q ∧ i = .int .i64 k ∧ wr.ownsRow w.heap.size 22 1 v k (uk (List.replicate k 0)) ∧ Below w.heap.size w wr)
    (fun _ i _ => q - (intOf i).toNat)
  case atStart => exact ⟨0, Nat.zero_le _, rfl, World.ownsRow_nil _ _ _ _, Below.refl _ _⟩
  case round =>
    obtain ⟨k, hk, rfl, hown, hb⟩ := hrel
    by_cases hlt : k < q
    · have hB := hb.size
      have hlt' : (k : Int) < (q : Int) := by omega
      go_wp2_with (at_builtin; refine wpList_append_own _ rfl _ _ 61 rfl w.heap.size 22 i0 (.int .u32 0) 1 4 Try.underlying61 hi hz0 hz1 hz2 rfl (by decide) _ _ _ rfl (hown.alloc _) ⟨_, 0, none⟩ 1 1 [.int .u32 0] rfl rfl ?c1 ?c2 ?c3 ?c4 ?c5 ?_)
      case c1 =>
        intro j u hj
        match j, hj with
        | 0, hj => simp at hj; subst hj; simp [Addr.add]
      case c2 => intro u hu; simp at hu; subst hu; rfl
      case c3 => unfold maxLen; omega
      case c4 => omega
      case c5 => simp; omega
      intro v' w1 hown' hgrow _
      have R1 : w1.ownsRow w.heap.size 22 1 v' (k + 1) (uk (List.replicate (k + 1) 0)) := by
        rw [rep_snoc]; exact own_snocU (x := 0) hown'
      have R2 := grown_belowU hb hB hown hgrow
      clear hown' hgrow hown
      go_wp2
      go_roundw
      case rel => exact ⟨k + 1, by omega, by go_num, R1, R2⟩
      case measure => simp [intOf]; omega
    · obtain rfl : q = k := by omega
      go_wp2
      go_loopw [5, 7, 9] (fun v c i wr => ∃ k cr : Nat, ∃ L : List Nat, k ≤ zs.length ∧ i = .int .i64 k ∧ c = .int .u32 (cr : Int) ∧ cr < 2 ^ s ∧ L.length = k ∧ Words L ∧ nv L + 4294967296 ^ k * cr = nv (zs.take k) * 2 ^ s ∧ wr.ownsRow w.heap.size 22 1 v (q + k) (uk (List.replicate q 0 ++ L)) ∧ Below w.heap.size w wr)
        (fun _ _ i _ => zs.length - (intOf i).toNat)
      case atStart => exact ⟨0, 0, [], Nat.zero_le _, rfl, rfl, Nat.two_pow_pos _, rfl, (fun z hz => by simp at hz), by simp [nv], by simpa using hown, hb⟩
      case round =>
        obtain ⟨k, cr, L, hk, rfl, rfl, hcr, hLl, hLW, hval, hown, hb⟩ := hrel
        have hs31 : 2 ^ s ≤ 2147483648 := Nat.pow_le_pow_right (by decide) (show s ≤ 31 by omega)
        by_cases hlt : k < zs.length
        · obtain ⟨b, off, rfl, hbl, hc⟩ := (hr.below hb) (by omega)
          have hck := hc k hlt
          have hB := hb.size
          clear hc
          have hzw := words_get hW k
          have hsp : nv (zs.take (k + 1)) = nv (zs.take k) + 4294967296 ^ k * zs.getD k 0 := by
            have e1 : zs.take (k + 1) = zs.take k ++ [zs.getD k 0] := by
              rw [List.take_succ_eq_append_getElem hlt]
              simp [List.getD, List.getElem?_eq_getElem hlt]
            rw [e1, nv_append, show (zs.take k).length = k by simp; omega]
            simp [nv]
          generalize zs.getD k 0 = z at *
          obtain ⟨X, hX⟩ : ∃ X, X = z * 2 ^ s := ⟨_, rfl⟩
          have hXlt : X < 9223372036854775808 := by
            rw [hX]
            have := Nat.mul_le_mul (show z ≤ 4294967295 by omega) hs31
            omega
          obtain ⟨lo, hlo⟩ : ∃ lo, lo = X % 4294967296 := ⟨_, rfl⟩
          obtain ⟨hh, hhi⟩ : ∃ hh, hh = X / 4294967296 := ⟨_, rfl⟩
          have hdiv : lo % 2 ^ s = 0 := by
            rw [hlo, hX]
            have hd : 2 ^ s ∣ 4294967296 := ⟨2 ^ (32 - s), by rw [← Nat.pow_add, show s + (32 - s) = 32 by omega]⟩
            rw [Nat.mod_mod_of_dvd _ hd, Nat.mul_mod_left]
          have hhlt : hh < 2 ^ s := by
            rw [hhi, Nat.div_lt_iff_lt_mul (by decide), hX, Nat.mul_comm (2 ^ s)]
            exact Nat.mul_lt_mul_of_pos_right hzw (Nat.two_pow_pos _)
          have e1 : (z : Int) * 2 ^ s = (X : Int) := by rw [hX]; simp
          have e2 : (X : Int) % 4294967296 = (lo : Int) := by omega
          have e2' : IntKind.u32.wrap (X : Int) = (lo : Int) := by rw [IntKind.wrap_u32']; omega
          have e3 : (X : Int) / 4294967296 = (hh : Int) := by omega
          have e4 : bits .or .u32 (lo : Int) (cr : Int) = ((lo + cr : Nat) : Int) := by
            have := u32_or_nat lo cr (by omega) (by omega)
            rwa [nat_join s lo cr hdiv hcr] at this
          have e5 : IntKind.u64.wrap (X : Int) = (X : Int) := by
            show (X : Int) % 18446744073709551616 = _
            omega
          have hsum : lo + cr < 4294967296 := by
            have h1 := Nat.div_add_mod lo (2 ^ s)
            rw [hdiv] at h1
            have h2 : lo < 2 ^ s * 2 ^ (32 - s) := by rw [← Nat.pow_add, show s + (32 - s) = 32 by omega]; omega
            have h3 : lo / 2 ^ s < 2 ^ (32 - s) := (Nat.div_lt_iff_lt_mul (Nat.two_pow_pos _)).2 (by rw [Nat.mul_comm]; exact h2)
            have h4 : 2 ^ s * (lo / 2 ^ s + 1) ≤ 2 ^ s * 2 ^ (32 - s) := Nat.mul_le_mul_left _ h3
            rw [← Nat.pow_add, show s + (32 - s) = 32 by omega, Nat.mul_add, Nat.mul_one] at h4
            omega
          have HV : Hid (nv (L ++ [lo + cr]) + 4294967296 ^ (k + 1) * hh = nv (zs.take (k + 1)) * 2 ^ s) := by
            show nv (L ++ [lo + cr]) + 4294967296 ^ (k + 1) * hh = nv (zs.take (k + 1)) * 2 ^ s
            rw [nv_append, hLl, hsp, Nat.add_mul, ← hval, Nat.mul_assoc, ← hX, Nat.pow_succ, Nat.mul_assoc]
            have : X = lo + 4294967296 * hh := by omega
            have h5 : 4294967296 ^ k * X = 4294967296 ^ k * lo + 4294967296 ^ k * (4294967296 * hh) := by rw [← Nat.mul_add, ← this]
            rw [h5]
            simp only [nv, Nat.mul_zero, Nat.add_zero, Nat.mul_add]
            omega
          have HLW : Hid (Words (L ++ [lo + cr])) := by
            intro y hy
            rcases List.mem_append.1 hy with h | h
            · exact hLW y h
            · simp at h; omega
          have HLL : Hid ((L ++ [lo + cr]).length = k + 1) := by show (L ++ [lo + cr]).length = k + 1; simp [hLl]
          have HHH : Hid (hh < 2 ^ s) := hhlt
          clear hval hsp hLW hdiv hlo hhi hLl hhlt hX
          generalize lo + cr = LC at *
          have hlt' : (k : Int) < (zs.length : Int) := by omega
          go_wp2_with (at_builtin; refine wpList_append_own _ rfl _ _ 61 rfl w.heap.size 22 i0 (.int .u32 0) 1 4 Try.underlying61 hi hz0 hz1 hz2 rfl (by decide) _ _ _ rfl (hown.alloc _) ⟨_, 0, none⟩ 1 1 [.int .u32 (LC : Int)] rfl rfl ?c1 ?c2 ?c3 ?c4 ?c5 ?_)
          case c1 =>
            intro j u hj
            match j, hj with
            | 0, hj => simp at hj; subst hj; simp [Addr.add]
          case c2 => intro u hu; simp at hu; subst hu; rfl
          case c3 => unfold maxLen; omega
          case c4 => omega
          case c5 => simp; omega
          intro v' w1 hown' hgrow _
          have R1 : w1.ownsRow w.heap.size 22 1 v' (q + k + 1) (uk (List.replicate q 0 ++ (L ++ [LC]))) := by
            rw [← List.append_assoc]; exact own_snocU hown'
          have R2 := grown_belowU hb hB hown hgrow
          clear hown' hgrow hown hck
          go_wp2
          go_roundw
          case rel => exact ⟨k + 1, hh, L ++ [LC], by omega, by go_num, rfl, HHH.out, HLL.out, HLW.out, HV.out, R1, R2⟩
          case measure => simp [intOf]; omega
        · obtain rfl : k = zs.length := by omega
          rw [List.take_length] at hval
          have hB := hb.size
          have HV : Hid (nv (List.replicate q 0 ++ (L ++ [cr])) = nv zs * 2 ^ n) := by
            show nv (List.replicate q 0 ++ (L ++ [cr])) = nv zs * 2 ^ n
            rw [nv_rep, nv_append, hLl, show nv [cr] = cr by simp [nv], hval, HN.out, Nat.pow_add, Nat.pow_mul, show (2 : Nat) ^ 32 = 4294967296 from rfl, Nat.mul_comm (4294967296 ^ q), Nat.mul_assoc, Nat.mul_comm (2 ^ s)]
          have HLW : Hid (Words (List.replicate q 0 ++ (L ++ [cr]))) := by
            intro y hy
            rcases List.mem_append.1 hy with h | h
            · rw [List.eq_of_mem_replicate h]; decide
            · rcases List.mem_append.1 h with h | h
              · exact hLW y h
              · simp at h; omega
          have HLL : Hid ((List.replicate q 0 ++ (L ++ [cr])).length = q + zs.length + 1) := by
            show (List.replicate q 0 ++ (L ++ [cr])).length = q + zs.length + 1
            simp [hLl]; omega
          clear hval hLW hLl
          go_wp2_with (at_builtin; refine wpList_append_own _ rfl _ _ 61 rfl w.heap.size 22 i0 (.int .u32 0) 1 4 Try.underlying61 hi hz0 hz1 hz2 rfl (by decide) _ _ _ rfl (hown.alloc _) ⟨_, 0, none⟩ 1 1 [.int .u32 (cr : Int)] rfl rfl ?c1 ?c2 ?c3 ?c4 ?c5 ?_)
          case c1 =>
            intro j u hj
            match j, hj with
            | 0, hj => simp at hj; subst hj; simp [Addr.add]
          case c2 => intro u hu; simp at hu; subst hu; rfl
          case c3 => unfold maxLen; omega
          case c4 => omega
          case c5 => simp; omega
          intro v' w1 hown' hgrow _
          have R1 : w1.ownsRow w.heap.size 22 1 v' (q + zs.length + 1) (uk (List.replicate q 0 ++ (L ++ [cr]))) := by
            rw [← List.append_assoc]; exact own_snocU hown'
          have R2 := grown_belowU hb hB hown hgrow
          clear hown' hgrow hown hb hB
          rw [← HLL.out] at R1
          obtain ⟨ao', cap', rfl, hrd⟩ := own_readsU R1
          have hcap : (List.replicate q 0 ++ (L ++ [cr])).length ≤ cap' ∧ (ao' = none → cap' = 0) := own_cap R1
          have hlen : (List.replicate q 0 ++ (L ++ [cr])).length ≤ 1000000 := by rw [HLL.out]; omega
          have HRD : Hid (ReadsU w1 ao' (List.replicate q 0 ++ (L ++ [cr])) w1.heap.size) := hrd
          have cc := cut_any ao' cap' (List.replicate q 0 ++ (L ++ [cr])) w1 hcap.1 hlen hrd hcap.2
          clear R1 hrd hlen
          generalize List.replicate q 0 ++ (L ++ [cr]) = ZZ at *
          go_wp2_with (go_at_call 50; refine cc.mono ?_; rintro e wq ⟨⟨nn, hnn, rfl, ht, hN⟩, hq⟩; subst wq)
          go_ret
          have hl3 : (ZZ.take nn).length = nn := by simp; omega
          exact ⟨⟨_, rfl, ao', cap', ZZ.take nn, by rw [hl3]; rfl, by rw [hl3]; omega, hcap.2, by rw [ht]; exact HV.out, hN, words_take HLW.out nn, HRD.out.take nn hnn⟩, R2⟩
end Go.Proofs.Ytigiecodobgenaa
