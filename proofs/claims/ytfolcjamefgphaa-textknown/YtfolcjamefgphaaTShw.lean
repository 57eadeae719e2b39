import Derived.Test.YtfolcjamefgphaaLBase
import Derived.Test.YtfolcjamefgphaaShelf
import Derived.Laws.BytesArg
import Derived.Deep.AppendLies
import Derived.Deep.RegionLaw
namespace Go.Proofs.Ytfolcjamefgphaa
open Go.RowKit

def hexT (x : Int) : Int := if x < 10 then 48 + x else 87 + x
/-- what the literal holds for one byte -/
def escT (c : Int) : List Int :=
  if c = 10 then [92, 110] else if c = 9 then [92, 116] else if c = 13 then [92, 114] else if c = 0 then [92, 48] else if c = 34 then [92, 34] else if c = 92 then [92, 92]
  else if 32 ≤ c ∧ c ≤ 126 then [c] else [92, 120, hexT (c / 16), hexT (c % 16)]
def shT (zs : List Int) (k : Nat) : List Int := 34 :: (zs.take k).flatMap escT
theorem escT_len (c : Int) : (escT c).length ≤ 4 := by
  unfold escT
  repeat' split
  all_goals simp
theorem sh_succ (zs : List Int) (k : Nat) (c : Int) (h : zs.take (k + 1) = zs.take k ++ [c]) : shT zs (k + 1) = shT zs k ++ escT c := by
  simp [shT, h]
theorem flat_len (l : List Int) : (l.flatMap escT).length ≤ 4 * l.length := by
  induction l with
  | nil => simp
  | cons a l ih => have := escT_len a; simp only [List.flatMap_cons, List.length_append, List.length_cons]; omega
theorem sh_len (zs : List Int) (k : Nat) : (shT zs k).length ≤ 4 * k + 1 := by
  have := flat_len (zs.take k)
  have h2 : (zs.take k).length ≤ k := List.length_take_le _ _
  simp only [shT, List.length_cons]; omega

theorem own_appT {w1 : World} {B : Nat} {v' : Value} {L M news : List Int} {m : Nat} {V : List Value} (hM : M = L ++ news) (hm : news.length = m) (hV : V = bv news)
    (h : w1.ownsRow B 5 1 v' (L.length + m) (bv L ++ V)) : w1.ownsRow B 5 1 v' M.length (bv M) := by
  rw [hM, bv_append, List.length_append, hm, ← hV]; exact h

theorem hexT_all : ∀ n : Fin 16, (((⟨#[48, 49, 50, 51, 52, 53, 54, 55, 56, 57, 97, 98, 99, 100, 101, 102]⟩ : ByteArray)[n.val]'(n.isLt)).toNat : Int) = hexT n.val := by decide
theorem hexT_at (i : Int) (h0 : 0 ≤ i) (h1 : i < 16) {hp : i.toNat < (⟨#[48, 49, 50, 51, 52, 53, 54, 55, 56, 57, 97, 98, 99, 100, 101, 102]⟩ : ByteArray).size} :
    (((⟨#[48, 49, 50, 51, 52, 53, 54, 55, 56, 57, 97, 98, 99, 100, 101, 102]⟩ : ByteArray)[i.toNat]'hp).toNat : Int) = hexT i := by
  have := hexT_all ⟨i.toNat, by omega⟩
  simp only at this
  rw [this]
  congr 1
  omega

theorem grown_belowD {B : Nat} {a w w' : World} {xs : List Value} {v : Value} {n : Nat} {o : Obj} (h : Below B a w) (hB : B ≤ w.heap.size) (hown : w.ownsRow B 5 1 v n xs) (hg : (w.alloc o).drew.grownBy w' v.ownBlock) : Below B a w' :=
  ((h.alloc hB o).drew).grown hg (by simp; omega) (fun k e => (hown.lt k e).1)

theorem and15T (c : Int) (h0 : 0 ≤ c) (h1 : c ≤ 255) : bits .and .u8 c 15 = c % 16 := by
  obtain ⟨n, rfl⟩ := Int.eq_ofNat_of_zero_le h0
  have := u8_and_nat n 15 (by omega) (by omega)
  simp only [Nat.and_two_pow_sub_one_eq_mod n 4 |> (show (n &&& 15 = n % 16) from ·)] at this
  simpa using this

theorem idx_none (c : Int) (h0 : 0 ≤ c) (h1 : c ≤ 255) (n1 : c ≠ 10) (n2 : c ≠ 9) (n3 : c ≠ 13) (n4 : c ≠ 0) (n5 : c ≠ 34) (n6 : c ≠ 92) : Lib.indexByte [10, 9, 13, 0, 34, 92] c.toNat.toUInt8 = -1 := by
  have e : ∀ k : Nat, k < 256 → c ≠ k → (UInt8.ofNat k == c.toNat.toUInt8) = false := by
    intro k hk hne
    rw [beq_eq_false_iff_ne]
    intro he
    have := congrArg UInt8.toNat he
    simp at this
    omega
  have a1 := e 10 (by omega) n1
  have a2 := e 9 (by omega) n2
  have a3 := e 13 (by omega) n3
  have a4 := e 0 (by omega) n4
  have a5 := e 34 (by omega) n5
  have a6 := e 92 (by omega) n6
  simp only [Lib.indexByte]
  simp at a1 a2 a3 a4 a5 a6
  simp [a1, a2, a3, a4, a5, a6]

set_option maxHeartbeats 1000000 in
theorem show_any (ao : Option Addr) (cap : Nat) (zs : List Int) (w : World) (hn : zs.length ≤ 1048576) (hwf : ∀ z ∈ zs, 0 ≤ z ∧ z ≤ 255) (hr : Reads w ao zs w.heap.size) :
    Calls Try.prog 6 #[.slice ao zs.length cap] w fun e w' => e = .returned (.string (strOfNums (shT zs zs.length ++ [34]))) ∧ Below w.heap.size w w' := by
  obtain ⟨i0, hi, hz0, hz1, hz2⟩ := info_parts Try.info5
  go_enter Try.func6, Try.ntmps6
  go_wp2
  go_loopw [3, 10] (fun v i wr => ∃ k : Nat, k ≤ zs.length ∧ i = .int .i64 k ∧ wr.ownsRow w.heap.size 5 1 v (shT zs k).length (bv (shT zs k)) ∧ Below w.heap.size w wr)
    (fun _ i _ => zs.length - (intOf i).toNat)
  case atStart => exact ⟨0, Nat.zero_le _, rfl, World.ownsRow_lit w #[.int .u8 34] 1 (Nat.le_refl _) (by decide) rfl, (Below.refl _ _).alloc (Nat.le_refl _) _⟩
  case round =>
    obtain ⟨k, hk, rfl, hown, hb⟩ := hrel
    have hsl := sh_len zs k
    have hB := hb.size
    by_cases hlt : k < zs.length
    · obtain ⟨b, off, rfl, hbl, hc⟩ := (hr.below hb) (by omega)
      have hck := hc k hlt
      clear hc
      have hts := take_snoc zs k hlt
      have hcw : 0 ≤ zs.getD k 0 ∧ zs.getD k 0 ≤ 255 := hwf _ (by simp [List.getD, List.getElem?_eq_getElem hlt])
      generalize zs.getD k 0 = c at hck hts hcw
      have HS : Hid (zs.take (k + 1) = zs.take k ++ [c]) := hts
      obtain ⟨hc0, hc1⟩ := hcw
      clear hts
      by_cases e10 : c = 10
      · subst e10
        go_wp2_with (first | (go_at_call 13; refine (Try.strings_IndexByte _ _ _).mono ?_; rintro e w' ⟨rfl, rfl⟩; rw [show Lib.indexByte _ _ = (0 : Int) from by decide]) | (at_builtin; refine wpList_append_own _ rfl _ _ 32 rfl w.heap.size 5 i0 (.int .u8 0) 1 1 Try.underlying32 hi hz0 hz1 hz2 rfl (by decide) _ _ _ rfl (hown.alloc _) ⟨_, 0, none⟩ 2 2 [.int .u8 (92), .int .u8 (110)] rfl rfl ?s0x1 ?s0x2 ?s0x3 ?s0x4 ?s0x5 ?_))
        case s0x1 =>
          intro j u hj
          match j, hj with
          | 0, hj => simp at hj; subst hj; first | (simp [Addr.add]; done) | (simp [Addr.add]; rfl)
          | 1, hj => simp at hj; subst hj; first | (simp [Addr.add]; done) | (simp [Addr.add]; rfl)
          | (j + 2), hj => simp at hj
        case s0x2 => intro u hu; simp at hu; rcases hu with rfl | rfl <;> rfl
        case s0x3 => unfold maxLen; omega
        case s0x4 => omega
        case s0x5 => simp; omega
        intro v' w1 hown' hgrow _
        have R1 := own_appT (news := [92, 110]) (sh_succ zs k _ HS.out |>.trans (by rw [show escT 10 = [92, 110] from by decide])) rfl rfl hown'
        have R2 := grown_below hb hB hown hgrow
        clear hown' hgrow hown hck
        go_wp2
        go_roundw
        case rel => exact ⟨k + 1, by omega, by go_num, R1, R2⟩
        case measure => simp [intOf]; omega
      by_cases e9 : c = 9
      · subst e9
        go_wp2_with (first | (go_at_call 13; refine (Try.strings_IndexByte _ _ _).mono ?_; rintro e w' ⟨rfl, rfl⟩; rw [show Lib.indexByte _ _ = (1 : Int) from by decide]) | (at_builtin; refine wpList_append_own _ rfl _ _ 32 rfl w.heap.size 5 i0 (.int .u8 0) 1 1 Try.underlying32 hi hz0 hz1 hz2 rfl (by decide) _ _ _ rfl (hown.alloc _) ⟨_, 0, none⟩ 2 2 [.int .u8 (92), .int .u8 (116)] rfl rfl ?s1x1 ?s1x2 ?s1x3 ?s1x4 ?s1x5 ?_))
        case s1x1 =>
          intro j u hj
          match j, hj with
          | 0, hj => simp at hj; subst hj; first | (simp [Addr.add]; done) | (simp [Addr.add]; rfl)
          | 1, hj => simp at hj; subst hj; first | (simp [Addr.add]; done) | (simp [Addr.add]; rfl)
          | (j + 2), hj => simp at hj
        case s1x2 => intro u hu; simp at hu; rcases hu with rfl | rfl <;> rfl
        case s1x3 => unfold maxLen; omega
        case s1x4 => omega
        case s1x5 => simp; omega
        intro v' w1 hown' hgrow _
        have R1 := own_appT (news := [92, 116]) (sh_succ zs k _ HS.out |>.trans (by rw [show escT 9 = [92, 116] from by decide])) rfl rfl hown'
        have R2 := grown_below hb hB hown hgrow
        clear hown' hgrow hown hck
        go_wp2
        go_roundw
        case rel => exact ⟨k + 1, by omega, by go_num, R1, R2⟩
        case measure => simp [intOf]; omega
      by_cases e13 : c = 13
      · subst e13
        go_wp2_with (first | (go_at_call 13; refine (Try.strings_IndexByte _ _ _).mono ?_; rintro e w' ⟨rfl, rfl⟩; rw [show Lib.indexByte _ _ = (2 : Int) from by decide]) | (at_builtin; refine wpList_append_own _ rfl _ _ 32 rfl w.heap.size 5 i0 (.int .u8 0) 1 1 Try.underlying32 hi hz0 hz1 hz2 rfl (by decide) _ _ _ rfl (hown.alloc _) ⟨_, 0, none⟩ 2 2 [.int .u8 (92), .int .u8 (114)] rfl rfl ?s2x1 ?s2x2 ?s2x3 ?s2x4 ?s2x5 ?_))
        case s2x1 =>
          intro j u hj
          match j, hj with
          | 0, hj => simp at hj; subst hj; first | (simp [Addr.add]; done) | (simp [Addr.add]; rfl)
          | 1, hj => simp at hj; subst hj; first | (simp [Addr.add]; done) | (simp [Addr.add]; rfl)
          | (j + 2), hj => simp at hj
        case s2x2 => intro u hu; simp at hu; rcases hu with rfl | rfl <;> rfl
        case s2x3 => unfold maxLen; omega
        case s2x4 => omega
        case s2x5 => simp; omega
        intro v' w1 hown' hgrow _
        have R1 := own_appT (news := [92, 114]) (sh_succ zs k _ HS.out |>.trans (by rw [show escT 13 = [92, 114] from by decide])) rfl rfl hown'
        have R2 := grown_below hb hB hown hgrow
        clear hown' hgrow hown hck
        go_wp2
        go_roundw
        case rel => exact ⟨k + 1, by omega, by go_num, R1, R2⟩
        case measure => simp [intOf]; omega
      by_cases e0 : c = 0
      · subst e0
        go_wp2_with (first | (go_at_call 13; refine (Try.strings_IndexByte _ _ _).mono ?_; rintro e w' ⟨rfl, rfl⟩; rw [show Lib.indexByte _ _ = (3 : Int) from by decide]) | (at_builtin; refine wpList_append_own _ rfl _ _ 32 rfl w.heap.size 5 i0 (.int .u8 0) 1 1 Try.underlying32 hi hz0 hz1 hz2 rfl (by decide) _ _ _ rfl (hown.alloc _) ⟨_, 0, none⟩ 2 2 [.int .u8 (92), .int .u8 (48)] rfl rfl ?s3x1 ?s3x2 ?s3x3 ?s3x4 ?s3x5 ?_))
        case s3x1 =>
          intro j u hj
          match j, hj with
          | 0, hj => simp at hj; subst hj; first | (simp [Addr.add]; done) | (simp [Addr.add]; rfl)
          | 1, hj => simp at hj; subst hj; first | (simp [Addr.add]; done) | (simp [Addr.add]; rfl)
          | (j + 2), hj => simp at hj
        case s3x2 => intro u hu; simp at hu; rcases hu with rfl | rfl <;> rfl
        case s3x3 => unfold maxLen; omega
        case s3x4 => omega
        case s3x5 => simp; omega
        intro v' w1 hown' hgrow _
        have R1 := own_appT (news := [92, 48]) (sh_succ zs k _ HS.out |>.trans (by rw [show escT 0 = [92, 48] from by decide])) rfl rfl hown'
        have R2 := grown_below hb hB hown hgrow
        clear hown' hgrow hown hck
        go_wp2
        go_roundw
        case rel => exact ⟨k + 1, by omega, by go_num, R1, R2⟩
        case measure => simp [intOf]; omega
      by_cases e34 : c = 34
      · subst e34
        go_wp2_with (first | (go_at_call 13; refine (Try.strings_IndexByte _ _ _).mono ?_; rintro e w' ⟨rfl, rfl⟩; rw [show Lib.indexByte _ _ = (4 : Int) from by decide]) | (at_builtin; refine wpList_append_own _ rfl _ _ 32 rfl w.heap.size 5 i0 (.int .u8 0) 1 1 Try.underlying32 hi hz0 hz1 hz2 rfl (by decide) _ _ _ rfl (hown.alloc _) ⟨_, 0, none⟩ 2 2 [.int .u8 (92), .int .u8 (34)] rfl rfl ?s4x1 ?s4x2 ?s4x3 ?s4x4 ?s4x5 ?_))
        case s4x1 =>
          intro j u hj
          match j, hj with
          | 0, hj => simp at hj; subst hj; first | (simp [Addr.add]; done) | (simp [Addr.add]; rfl)
          | 1, hj => simp at hj; subst hj; first | (simp [Addr.add]; done) | (simp [Addr.add]; rfl)
          | (j + 2), hj => simp at hj
        case s4x2 => intro u hu; simp at hu; rcases hu with rfl | rfl <;> rfl
        case s4x3 => unfold maxLen; omega
        case s4x4 => omega
        case s4x5 => simp; omega
        intro v' w1 hown' hgrow _
        have R1 := own_appT (news := [92, 34]) (sh_succ zs k _ HS.out |>.trans (by rw [show escT 34 = [92, 34] from by decide])) rfl rfl hown'
        have R2 := grown_below hb hB hown hgrow
        clear hown' hgrow hown hck
        go_wp2
        go_roundw
        case rel => exact ⟨k + 1, by omega, by go_num, R1, R2⟩
        case measure => simp [intOf]; omega
      by_cases e92 : c = 92
      · subst e92
        go_wp2_with (first | (go_at_call 13; refine (Try.strings_IndexByte _ _ _).mono ?_; rintro e w' ⟨rfl, rfl⟩; rw [show Lib.indexByte _ _ = (5 : Int) from by decide]) | (at_builtin; refine wpList_append_own _ rfl _ _ 32 rfl w.heap.size 5 i0 (.int .u8 0) 1 1 Try.underlying32 hi hz0 hz1 hz2 rfl (by decide) _ _ _ rfl (hown.alloc _) ⟨_, 0, none⟩ 2 2 [.int .u8 (92), .int .u8 (92)] rfl rfl ?s5x1 ?s5x2 ?s5x3 ?s5x4 ?s5x5 ?_))
        case s5x1 =>
          intro j u hj
          match j, hj with
          | 0, hj => simp at hj; subst hj; first | (simp [Addr.add]; done) | (simp [Addr.add]; rfl)
          | 1, hj => simp at hj; subst hj; first | (simp [Addr.add]; done) | (simp [Addr.add]; rfl)
          | (j + 2), hj => simp at hj
        case s5x2 => intro u hu; simp at hu; rcases hu with rfl | rfl <;> rfl
        case s5x3 => unfold maxLen; omega
        case s5x4 => omega
        case s5x5 => simp; omega
        intro v' w1 hown' hgrow _
        have R1 := own_appT (news := [92, 92]) (sh_succ zs k _ HS.out |>.trans (by rw [show escT 92 = [92, 92] from by decide])) rfl rfl hown'
        have R2 := grown_below hb hB hown hgrow
        clear hown' hgrow hown hck
        go_wp2
        go_roundw
        case rel => exact ⟨k + 1, by omega, by go_num, R1, R2⟩
        case measure => simp [intOf]; omega
      have hix := idx_none c hc0 hc1 e10 e9 e13 e0 e34 e92
      by_cases hp : 32 ≤ c ∧ c ≤ 126
      · obtain ⟨hp1, hp2⟩ := hp
        have HX : Hid (Lib.indexByte [10, 9, 13, 0, 34, 92] c.toNat.toUInt8 = -1) := hix
        have HE : Hid (escT c = [c]) := by unfold escT; simp [e10, e9, e13, e0, e34, e92, hp1, hp2, Hid]
        clear hix e10 e9 e13 e0 e34 e92
        go_wp2_with (first | (go_at_call 13; refine (Try.strings_IndexByte _ _ _).mono ?_; rintro e w' ⟨rfl, rfl⟩; rw [HX.out]) | (at_builtin; refine wpList_append_own _ rfl _ _ 32 rfl w.heap.size 5 i0 (.int .u8 0) 1 1 Try.underlying32 hi hz0 hz1 hz2 rfl (by decide) _ _ _ rfl (hown.alloc _) ⟨_, 0, none⟩ 1 1 [.int .u8 (c)] rfl rfl ?p1 ?p2 ?p3 ?p4 ?p5 ?_))
        case p1 =>
          intro j u hj
          match j, hj with
          | 0, hj => simp at hj; subst hj; first | (simp [Addr.add]; done) | (simp [Addr.add]; rfl)
          | (j + 1), hj => simp at hj
        case p2 => intro u hu; simp at hu; subst hu; rfl
        case p3 => unfold maxLen; omega
        case p4 => omega
        case p5 => simp; omega
        intro v' w1 hown' hgrow _
        have R1 := own_appT (news := [c]) (sh_succ zs k _ HS.out |>.trans (by rw [show escT c = [c] from HE.out])) rfl rfl hown'
        have R2 := grown_below hb hB hown hgrow
        clear hown' hgrow hown hck
        go_wp2
        go_roundw
        case rel => exact ⟨k + 1, by omega, by go_num, R1, R2⟩
        case measure => simp [intOf]; omega
      · have HX : Hid (Lib.indexByte [10, 9, 13, 0, 34, 92] c.toNat.toUInt8 = -1) := hix
        have HE : Hid (escT c = [92, 120, hexT (c / 16), hexT (c % 16)]) := by unfold escT; simp [e10, e9, e13, e0, e34, e92, hp, Hid]
        clear hix e10 e9 e13 e0 e34 e92
        have hhi : (0 : Int) ≤ c / 16 := by omega
        have hhj : c / 16 < (16 : Int) := by omega
        have hli : (0 : Int) ≤ c % 16 := by omega
        have hlj : c % 16 < (16 : Int) := by omega
        have hbits := and15T c hc0 hc1
        by_cases hp1 : 32 ≤ c
        · have hp2 : 126 < c := by omega
          clear hp
          go_wp2_with (first | (go_at_call 13; refine (Try.strings_IndexByte _ _ _).mono ?_; rintro e w' ⟨rfl, rfl⟩; rw [HX.out]))
          go_region_law ((refine step_append_lies _ (by rfl) _ _ 32 (by rfl) w.heap.size 5 i0 (.int .u8 0) 1 1 Try.underlying32 hi hz0 hz1 hz2 rfl (by decide) u3 (shT zs k).length (bv (shT zs k)) (by rfl) ((hown.alloc _).drew) ⟨_, 0, none⟩ 4 4 _ (by rfl) (by rfl) (World.news_of_block (heap_alloc_new _ _)) (by intro u hu; simp at hu; rcases hu with rfl | rfl | rfl | rfl <;> rfl) (by decide) (by unfold maxLen; omega) (by omega) (by simp; omega) _ rfl ?_; intro g cap1 w1 hown1 hgrow1 _ _))
          all_goals
            have R1 := own_appT (news := [92, 120, hexT (c / 16), hexT (c % 16)]) (sh_succ zs k _ HS.out |>.trans (by rw [HE.out])) rfl (by simp [bv, hexT_at _ hhi hhj, hexT_at _ hli hlj]) hown1
            have R2 := grown_belowD hb hB hown hgrow1
            clear hown1 hgrow1 hown hck
            go_wp2
            go_roundw
            case rel => exact ⟨k + 1, by omega, by go_num, R1, R2⟩
            case measure => simp [intOf]; omega
        · have hp2 : c < 32 := by omega
          clear hp
          go_wp2_with (first | (go_at_call 13; refine (Try.strings_IndexByte _ _ _).mono ?_; rintro e w' ⟨rfl, rfl⟩; rw [HX.out]))
          go_region_law ((refine step_append_lies _ (by rfl) _ _ 32 (by rfl) w.heap.size 5 i0 (.int .u8 0) 1 1 Try.underlying32 hi hz0 hz1 hz2 rfl (by decide) u3 (shT zs k).length (bv (shT zs k)) (by rfl) ((hown.alloc _).drew) ⟨_, 0, none⟩ 4 4 _ (by rfl) (by rfl) (World.news_of_block (heap_alloc_new _ _)) (by intro u hu; simp at hu; rcases hu with rfl | rfl | rfl | rfl <;> rfl) (by decide) (by unfold maxLen; omega) (by omega) (by simp; omega) _ rfl ?_; intro g cap1 w1 hown1 hgrow1 _ _))
          all_goals
            have R1 := own_appT (news := [92, 120, hexT (c / 16), hexT (c % 16)]) (sh_succ zs k _ HS.out |>.trans (by rw [HE.out])) rfl (by simp [bv, hexT_at _ hhi hhj, hexT_at _ hli hlj]) hown1
            have R2 := grown_belowD hb hB hown hgrow1
            clear hown1 hgrow1 hown hck
            go_wp2
            go_roundw
            case rel => exact ⟨k + 1, by omega, by go_num, R1, R2⟩
            case measure => simp [intOf]; omega
    · go_wp2_with (at_builtin; refine wpList_append_lies _ rfl _ _ 32 rfl w.heap.size 5 i0 (.int .u8 0) 1 1 Try.underlying32 hi hz0 hz1 hz2 rfl (by decide) _ _ _ rfl (hown.alloc _) ⟨_, 0, none⟩ 1 1 [.int .u8 34] rfl rfl ?z1 ?z2 (by decide) ?z3 ?z4 ?z5 (wr.heap.size + 1) (by simp) ?_)
      case z1 =>
        intro j u hj
        match j, hj with
        | 0, hj => simp at hj; subst hj; simp [Addr.add]
        | (j + 1), hj => simp at hj
      case z2 => intro u hu; simp at hu; subst hu; rfl
      case z3 => unfold maxLen; omega
      case z4 => omega
      case z5 => simp; omega
      intro g cap' w1 hown' hgrow hat hlt1
      obtain rfl : k = zs.length := by omega
      have R2 := grown_below hb hB hown hgrow
      have R1 := own_appT (M := shT zs zs.length ++ [34]) (news := [34]) rfl rfl rfl hown'
      have hcv := run_convert_bytes_arg (P := Try.prog) w1 32 5 Try.underlying32 Try.underlying5 g 0 ((shT zs zs.length).length + 1) cap' (shT zs zs.length ++ [34]) (by simp) (fun i hi => own_cell R1 (by simpa using hi)) 9 Try.underlying9
      clear hown' hgrow hown
      go_wp2
      go_ret
      exact ⟨rfl, R2⟩
end Go.Proofs.Ytfolcjamefgphaa
