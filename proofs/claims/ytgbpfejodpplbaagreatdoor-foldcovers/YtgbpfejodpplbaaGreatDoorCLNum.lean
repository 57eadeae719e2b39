import Derived.Test.YtgbpfejodpplbaaGreatDoorCLBase
import Derived.Lib.Tables
import Derived.Laws.CopyOwn
import Derived.Laws.AppendOwn
import Derived.WideShapes
import Derived.Laws.Cover3
import Derived.Laws.MakeOwn
namespace Go.Proofs.YtgbpfejodpplbaaGreatDoor
open Go.RowKit
set_option maxRecDepth 100000

/-- the number of bytes, the lowest one first -/
def num : List Int → Int
  | [] => 0
  | a :: L => a + 256 * num L
/-- the bytes of a number -/
def nb : Nat → Int → List Int
  | 0, _ => []
  | w + 1, x => x % 256 :: nb w (x / 256)
theorem nb_len (w : Nat) : ∀ x, (nb w x).length = w := by
  induction w with
  | zero => intro x; rfl
  | succ w ih => intro x; simp [nb, ih]
theorem nb_wf (w : Nat) : ∀ x, ∀ z ∈ nb w x, 0 ≤ z ∧ z ≤ 255 := by
  induction w with
  | zero => intro x z hz; simp [nb] at hz
  | succ w ih =>
    intro x z hz
    simp only [nb, List.mem_cons] at hz
    rcases hz with rfl | hz
    · omega
    · exact ih _ z hz
theorem pow256 (k : Nat) : (256 : Int) ^ (k + 1) = 256 ^ k * 256 := Int.pow_succ _ _
theorem pow256_pos (k : Nat) : (0 : Int) < 256 ^ k := Int.pow_pos (by decide)
theorem nb_snoc (k : Nat) : ∀ x, nb (k + 1) x = nb k x ++ [x / 256 ^ k % 256] := by
  induction k with
  | zero => intro x; simp [nb]
  | succ k ih =>
    intro x
    have h := ih (x / 256)
    rw [show nb (k + 1 + 1) x = x % 256 :: nb (k + 1) (x / 256) from rfl, h, show nb (k + 1) x = x % 256 :: nb k (x / 256) from rfl]
    rw [Int.ediv_ediv_of_nonneg (by decide), Int.mul_comm, ← pow256]
    rfl
theorem num_snoc (L : List Int) (c : Int) : num (L ++ [c]) = num L + 256 ^ L.length * c := by
  induction L with
  | nil => simp [num]
  | cons a L ih => simp only [List.cons_append, num, ih, List.length_cons, pow256]; grind
theorem num_range (L : List Int) (h : ∀ z ∈ L, 0 ≤ z ∧ z ≤ 255) : 0 ≤ num L ∧ num L < 256 ^ L.length := by
  induction L with
  | nil => simp [num]
  | cons a L ih =>
    have h1 := ih (fun z hz => h z (by simp [hz]))
    have h2 := h a (by simp)
    simp only [num, List.length_cons, pow256]
    omega
theorem emod_256 (x P : Int) (hP : 0 < P) : x % (256 * P) = x % 256 + 256 * (x / 256 % P) := by
  have h1 := Int.emod_nonneg (x / 256) (show P ≠ 0 by omega)
  have h2 := Int.emod_lt_of_pos (x / 256) hP
  have h3 := Int.mul_ediv_add_emod (x / 256) P
  have key : x = (x % 256 + 256 * (x / 256 % P)) + (256 * P) * (x / 256 / P) := by
    have h4 := Int.mul_ediv_add_emod x 256
    rw [Int.mul_assoc]
    omega
  have b1 : 0 ≤ x % 256 + 256 * (x / 256 % P) := by omega
  have b2 : x % 256 + 256 * (x / 256 % P) < 256 * P := by omega
  generalize x / 256 / P = t at key
  generalize x % 256 + 256 * (x / 256 % P) = y at *
  rw [key, Int.add_mul_emod_self_left]
  exact Int.emod_eq_of_lt b1 b2
theorem num_nb (w : Nat) : ∀ x, num (nb w x) = x % 256 ^ w := by
  induction w with
  | zero => intro x; simp [nb, num]
  | succ w ih =>
    intro x
    rw [show nb (w + 1) x = x % 256 :: nb w (x / 256) from rfl, show num (x % 256 :: nb w (x / 256)) = x % 256 + 256 * num (nb w (x / 256)) from rfl, ih, pow256, Int.mul_comm (256 ^ w) 256,
      emod_256 x _ (pow256_pos w)]
theorem nb_num (L : List Int) (h : ∀ z ∈ L, 0 ≤ z ∧ z ≤ 255) : nb L.length (num L) = L := by
  induction L with
  | nil => rfl
  | cons a L ih =>
    have h1 := ih (fun z hz => h z (by simp [hz]))
    have h2 := h a (by simp)
    show (a + 256 * num L) % 256 :: nb L.length ((a + 256 * num L) / 256) = a :: L
    rw [show (a + 256 * num L) % 256 = a by omega, show (a + 256 * num L) / 256 = num L by omega, h1]

/-- numbers as values -/
def bk (k : IntKind) (L : List Int) : List Value := L.map (Value.int k)
theorem bk_append (k : IntKind) (L M : List Int) : bk k (L ++ M) = bk k L ++ bk k M := by simp [bk]
def ReadsK (w : World) (k : IntKind) (ao : Option Addr) (zs : List Int) (B : Nat) : Prop :=
  0 < zs.length → ∃ b off, ao = some ⟨b, off, none⟩ ∧ b < B ∧ ∀ j, j < zs.length → w.cell? ⟨b, off + j, none⟩ = some (.int k (zs.getD j 0))
theorem ReadsK.below {w w' : World} {k : IntKind} {ao : Option Addr} {zs : List Int} {B : Nat} (h : ReadsK w k ao zs B) (hb : Below B w w') : ReadsK w' k ao zs B := by
  intro hl
  obtain ⟨b, off, e, hlt, hc⟩ := h hl
  exact ⟨b, off, e, hlt, fun j hj => (hb.cell (p := ⟨b, off + j, none⟩) hlt).trans (hc j hj)⟩
theorem ReadsK.mono {w : World} {k : IntKind} {ao : Option Addr} {zs : List Int} {B C : Nat} (h : ReadsK w k ao zs B) (hb : B ≤ C) : ReadsK w k ao zs C := by
  intro hl
  obtain ⟨b, off, e, hlt, hc⟩ := h hl
  exact ⟨b, off, e, Nat.lt_of_lt_of_le hlt hb, hc⟩

theorem Reads.drop {w : World} {b off : Nat} {zs : List Int} {B : Nat} (h : Reads w (some ⟨b, off, none⟩) zs B) (n : Nat) (hn : n < zs.length) : Reads w (some ⟨b, off + n, none⟩) (zs.drop n) B := by
  intro _
  obtain ⟨b', off', e, hlt, hc⟩ := h (by omega)
  simp only [Option.some.injEq, Addr.mk.injEq, and_true] at e
  obtain ⟨rfl, rfl⟩ := e
  refine ⟨_, _, rfl, hlt, fun j hj => ?_⟩
  rw [List.length_drop] at hj
  have := hc (n + j) (by omega)
  rw [Nat.add_assoc, this]
  simp [List.getD]
theorem shl_or (n m s : Nat) (h : m < 2 ^ s) : m ||| n * 2 ^ s = m + n * 2 ^ s := by
  have := (Nat.shiftLeft_add_eq_or_of_lt h n).symm
  rw [Nat.shiftLeft_eq] at this
  rw [Nat.or_comm, this, Nat.add_comm]
theorem lit_readsK (W : World) (k : IntKind) (t : TypeId) (x : Int) : ReadsK (W.alloc (.cells #[.int k x] t)) k (some ⟨W.heap.size, 0, none⟩) [x] (W.alloc (.cells #[.int k x] t)).heap.size := by
  intro _
  refine ⟨W.heap.size, 0, rfl, by simp, fun j hj => ?_⟩
  have : j = 0 := by simpa using hj
  subst this
  simp
theorem Tryz.sz5 : (Tryz.prog.info? 5).map (·.size) = some 1 := by kernel_rfl
def atv (w : Nat) (zs : List Int) (at_ : Int) : Int := if 0 ≤ at_ ∧ at_ + w ≤ zs.length then num ((zs.drop at_.toNat).take w) else 0
def ate (w n : Nat) (at_ : Int) : Int := if 0 ≤ at_ ∧ at_ + w ≤ (n : Int) then 0 else 20
theorem atv_range (w : Nat) (zs : List Int) (at_ : Int) (h : ∀ z ∈ zs, 0 ≤ z ∧ z ≤ 255) : 0 ≤ atv w zs at_ ∧ atv w zs at_ < 256 ^ w := by
  unfold atv
  have hp := pow256_pos w
  split
  · rename_i hc
    have := num_range ((zs.drop at_.toNat).take w) (fun z hz => h z (List.mem_of_mem_drop (List.mem_of_mem_take hz)))
    have hl : ((zs.drop at_.toNat).take w).length = w := by simp; omega
    rwa [hl] at this
  · omega
def puts (w : Nat) (xs : List Int) (k : Nat) : List Int := (xs.take k).flatMap (nb w)
theorem flat_nb_len (w : Nat) (L : List Int) : (L.flatMap (nb w)).length = L.length * w := by
  induction L with
  | nil => simp
  | cons a L ih => simp only [List.flatMap_cons, List.length_append, nb_len, ih, List.length_cons, Nat.add_mul]; omega
theorem puts_len (w : Nat) (xs : List Int) (k : Nat) (h : k ≤ xs.length) : (puts w xs k).length = k * w := by
  rw [puts, flat_nb_len, List.length_take, Nat.min_eq_left h]
theorem len_255 : Lib.len8 255 = 8 := by decide +kernel
/-- bytes with a number laid over them -/
def wth (w : Nat) (zs : List Int) (p : Nat) (x : Int) : List Int := zs.take p ++ (nb w x ++ zs.drop (p + w))
theorem take_app3 {α : Type} (A B C : List α) (n : Nat) (h : A.length + B.length ≤ n) : (A ++ (B ++ C)).take n = A ++ (B ++ C.take (n - (A.length + B.length))) := by
  rw [List.take_append, List.take_of_length_le (by omega), List.take_append, List.take_of_length_le (by omega), Nat.sub_sub]
theorem splice_wth (w : Nat) (cur : List Value) (zs : List Int) (p : Nat) (x : Int) (hp : p + w ≤ zs.length) (h : cur.take zs.length = bv zs) :
    (splice cur p (bv (nb w x))).toArray.toList.take (zs.length * 1) = bv (wth w zs p x) := by
  have hc : zs.length ≤ cur.length := by
    have := congrArg List.length h
    simp [bv] at this
    omega
  have e1 : cur.take p = bv (zs.take p) := by
    have := congrArg (List.take p) h
    rw [List.take_take, Nat.min_eq_left (by omega)] at this
    rw [this, bv, bv, List.map_take]
  have e2 : (cur.take zs.length).drop (p + w) = bv (zs.drop (p + w)) := by rw [h, bv, bv, List.map_drop]
  have e3 : (cur.drop (p + w)).take (zs.length - (p + w)) = bv (zs.drop (p + w)) := by rw [← List.drop_take]; exact e2
  rw [Nat.mul_one, splice, e1, bv_len, nb_len, wth, bv_append, bv_append]
  show (bv (zs.take p) ++ (bv (nb w x) ++ cur.drop (p + w))).take zs.length = _
  rw [take_app3 _ _ _ _ (by rw [bv_len, bv_len, nb_len, List.length_take]; omega), bv_len, bv_len, nb_len, List.length_take, Nat.min_eq_left (by omega), e3]
end Go.Proofs.YtgbpfejodpplbaaGreatDoor
namespace Go.Proofs.YtgbpfejodpplbaaGreatDoor
open Go.RowKit
set_option maxRecDepth 100000

/-- The mark of place i of list k. -/
def mk (k i : Int) : Int :=
  bits BinOp.xor IntKind.u32 (((k + 2) * 2654435761 + i * 2246822519) % 4294967296) (((k + 2) * 2654435761 + i * 2246822519) % 4294967296 / 32768) * 739982445 % 4294967296 / 16777216

theorem mk_range (k i : Int) : 0 ≤ mk k i ∧ mk k i ≤ 255 := by
  unfold mk
  generalize bits BinOp.xor IntKind.u32 _ _ = x
  omega



theorem mk_mod (k i : Int) : ((k + 2) % 4294967296 * 2654435761 + i % 4294967296 * 2246822519) % 4294967296 = ((k + 2) * 2654435761 + i * 2246822519) % 4294967296 := by omega

def marks (k : Int) (m : Nat) : List Int := (List.range m).map fun (i : Nat) => mk k (i : Int)
theorem marks_succ (k : Int) (m : Nat) : marks k (m + 1) = marks k m ++ [mk k (m : Int)] := by
  simp [marks, List.range_succ]
theorem marks_len (k : Int) (m : Nat) : (marks k m).length = m := by simp [marks]
theorem marks_wf (k : Int) (n : Nat) : ∀ z ∈ marks k n, 0 ≤ z ∧ z ≤ 255 := by
  intro z hz
  simp only [marks, List.mem_map] at hz
  obtain ⟨i, _, rfl⟩ := hz
  exact mk_range _ _
theorem marks_take (k : Int) (n m : Nat) : marks k n = (marks k (n + m)).take n := by
  simp [marks, ← List.map_take, List.take_range]
theorem own_get {w1 : World} {B g n cap : Nat} {L : List Int} (h : w1.ownsRow B 5 1 (.slice (some ⟨g, 0, none⟩) n cap) n (bv L)) {i : Nat} (hi : i < L.length) : w1.cell? ⟨g, i, none⟩ = some (.int .u8 (L.getD i 0)) := by
  have := h.cells (g := g) rfl i (.int .u8 (L.getD i 0)) (by simp [bv, List.getD, List.getElem?_eq_getElem hi])
  have hadd : (⟨g, 0, none⟩ : Addr).add i = ⟨g, 0 + i, none⟩ := by unfold Addr.add; split <;> simp_all
  rw [hadd, Nat.zero_add] at this; exact this
theorem grown_of_below {w w' : World} (h : Below w.heap.size w w') : w.grownBy w' none := ⟨h.os, h.tape, h.output, h.size, fun k hk _ => h.block k hk⟩
theorem own_below {w w' : World} {B e sz : Nat} {v : Value} {n : Nat} {xs : List Value} (h : w.ownsRow B e sz v n xs) (hb : Below w.heap.size w w') : w'.ownsRow B e sz v n xs :=
  h.kept (grown_of_below hb) (by cases hv : v.ownBlock <;> simp)
theorem own_form {w : World} {B e sz : Nat} {v : Value} {n : Nat} {xs : List Value} (h : w.ownsRow B e sz v n xs) (hn : 0 < n) : ∃ g c, v = .slice (some ⟨g, 0, none⟩) n c ∧ n ≤ c := by
  rcases h.2 with ⟨_, rfl⟩ | ⟨g, cap, cur, rfl, _, _, hc, _⟩
  · omega
  · exact ⟨g, cap, rfl, hc⟩
theorem reads_own {w : World} {B g m cap : Nat} {L zs : List Int} (h : w.ownsRow B 5 1 (.slice (some ⟨g, 0, none⟩) m cap) m (bv L)) (hz : zs = L.take zs.length) : Reads w (some ⟨g, 0, none⟩) zs w.heap.size := by
  intro _
  refine ⟨g, 0, rfl, (h.lt g rfl).2, fun j hj => ?_⟩
  have hl : zs.length ≤ L.length := by
    have := congrArg List.length hz
    simp at this
    omega
  rw [Nat.zero_add, own_get h (by omega)]
  rw [hz]
  simp [hj]

theorem grown_trans {w w1 w2 : World} {row : Option Nat} (h1 : w.grownBy w1 row) (h2 : w1.grownBy w2 row) : w.grownBy w2 row :=
  ⟨h2.os.trans h1.os, h2.tape.trans h1.tape, h2.output.trans h1.output, Nat.le_trans h1.size h2.size, fun k hk hne => (h2.block k (Nat.lt_of_lt_of_le hk h1.size) hne).trans (h1.block k hk hne)⟩

theorem over_step (L : List Int) (k : Nat) (h : k < L.length) : bv (marks (-1) (k + 1) ++ L.drop (k + 1)) = (bv (marks (-1) k ++ L.drop k)).set k (.int .u8 (mk (-1) k)) := by
  have hl := marks_len (-1) k
  rw [marks_succ, List.drop_eq_getElem_cons h]
  simp only [bv, List.map_append, List.map_cons, List.append_assoc, List.cons_append, List.nil_append]
  rw [List.set_append_right _ _ (by simp [hl])]
  simp [hl]

end Go.Proofs.YtgbpfejodpplbaaGreatDoor
namespace Go.Proofs.YtgbpfejodpplbaaGreatDoor
open Go.RowKit Go.WideShapes

theorem nil_eq (a : Option Addr) (n c : Nat) (w : World) : (binOp .eql 24 (.slice a n c) (.slice none 0 0)).run Tryz.prog w = .ok (.bool a.isNone) w := by
  have e : binOp .eql 24 (.slice a n c) (.slice none 0 0) = (do pure (.bool (← Op.equal 24 (.slice a n c) (.slice none 0 0)))) := rfl
  rw [e, Sem.run_bind, run_equal_slice_nil w _ _ a n c Tryz.underlying24]
  rfl

end Go.Proofs.YtgbpfejodpplbaaGreatDoor
namespace Go.Proofs.YtgbpfejodpplbaaGreatDoor
open Go.RowKit
set_option maxRecDepth 100000


set_option maxRecDepth 100000 in
theorem len64_u8 (W : World) : Calls Tryz.prog 108 #[.int .u64 255] W fun e w' => e = .returned (.int .i64 8) ∧ w' = W := by
  have h := len_255
  go_enter Tryz.func108, Tryz.ntmps108
  go_wp2
  go_ret
  exact ⟨by first | rfl | simp [h], rfl⟩
theorem width_u8 (W : World) : Calls Tryz.prog 92 #[] W fun e w' => e = .returned (.int .i64 1) ∧ w' = W := by
  go_enter Tryz.func92, Tryz.ntmps92
  go_wp2_with (go_at_call 108; refine (len64_u8 _).mono ?_; rintro e wq ⟨rfl, hq⟩; subst wq)
  go_ret
  exact ⟨rfl, rfl⟩

set_option maxRecDepth 100000 in
theorem or_u8 (x c : Int) (s : Nat) (hs : s < 8) (x0 : 0 ≤ x) (x1 : x < 2 ^ s) (c0 : 0 ≤ c) (c1 : c ≤ 255) (hc : c * 2 ^ s < 256) : bits .or .u8 x (c * 2 ^ s) = x + c * 2 ^ s := by
  obtain ⟨n, rfl⟩ := Int.eq_ofNat_of_zero_le x0
  obtain ⟨m, rfl⟩ := Int.eq_ofNat_of_zero_le c0
  have h1 : n < 2 ^ s := by exact_mod_cast x1
  have e1 : ((m * 2 ^ s : Nat) : Int) = (m : Int) * 2 ^ s := by push_cast; rfl
  have h2 : m * 2 ^ s < 256 := by rw [← e1] at hc; omega
  have h3 : (2 : Nat) ^ s < 256 := Nat.lt_of_lt_of_le (Nat.pow_lt_pow_right (by omega) hs) (by decide)
  have := u8_or_nat n (m * 2 ^ s) (by omega) h2
  rw [shl_or m n s h1] at this
  rw [← e1, this]
  push_cast
  rfl
set_option maxRecDepth 100000 in
set_option maxHeartbeats 1000000 in
theorem put_u8 (ao : Option Addr) (cap : Nat) (xs : List Int) (w : World) (hn : xs.length * 1 ≤ 140737488355328) (hwf : ∀ z ∈ xs, 0 ≤ z ∧ z < 256) (hr : ReadsK w .u8 ao xs w.heap.size) :
    Calls Tryz.prog 63 #[.slice ao xs.length cap] w fun e w' => ∃ v, e = .returned v ∧ w'.ownsRow w.heap.size 5 1 v (xs.length * 1) (bv (puts 1 xs xs.length)) ∧ Below w.heap.size w w' := by
  obtain ⟨i0, hi, hz0, hz1, hz2⟩ := info_parts Tryz.info5
  obtain ⟨w1, hmk, hown0, hg0⟩ := run_make_own (P := Tryz.prog) w w.heap.size 24 5 i0 (.int .u8 0) 1 Tryz.underlying24 hi hz0 hz1 .i64 .i64 (xs.length * 1) (by rw [hz2]; omega) (by unfold maxLen; omega) (Nat.le_refl _)
  rw [show ((xs.length * 1 : Nat) : Int) = (xs.length : Int) * 1 by push_cast; rfl] at hmk
  rw [Int.mul_one] at hmk
  have hb0 : Below w.heap.size w w1 := (Below.refl w.heap.size w).grown hg0 (Nat.le_refl _) (fun k e => by simp at e)
  clear hg0
  go_enter Tryz.func63, Tryz.ntmps63
  go_wp2_with (go_at_call 92; refine (width_u8 _).mono ?_; rintro e wq ⟨rfl, hq⟩; subst wq)
  go_loopw [3, 14] (fun v i wr => ∃ k : Nat, k ≤ xs.length ∧ i = .int .i64 k ∧ wr.ownsRow w.heap.size 5 1 v (k * 1) (bv (puts 1 xs k)) ∧ Below w.heap.size w wr)
    (fun _ i _ => xs.length - (intOf i).toNat)
  case atStart => exact ⟨0, Nat.zero_le _, rfl, by simpa [puts, bv] using hown0, hb0⟩
  case round =>
    clear hown0 hb0 hmk
    obtain ⟨k, hk, rfl, hown, hb⟩ := hrel
    by_cases hlt : k < xs.length
    · obtain ⟨b, off, rfl, hbl, hc⟩ := (hr.below hb) (by omega)
      have hck := hc k hlt
      clear hc
      have hts := take_snoc xs k hlt
      have hxw := hwf _ (getD_mem hlt)
      generalize xs.getD k 0 = x at hck hts hxw
      have HS : Hid (puts 1 xs (k + 1) = puts 1 xs k ++ nb 1 x) := by simp [puts, hts, Hid]
      clear hts hwf
      obtain ⟨hx0, hx1⟩ := hxw
      have hpl := puts_len 1 xs k hk
      generalize puts 1 xs k = PP at hown HS hpl
      go_wp2_with (go_at_call 92; refine (width_u8 _).mono ?_; rintro e wq ⟨rfl, hq⟩; subst wq)
      go_loopw [3, 19] (fun v i wr => ∃ j : Nat, j ≤ 1 ∧ i = .int .i64 j ∧ wr.ownsRow w.heap.size 5 1 v (k * 1 + j) (bv (PP ++ nb j x)) ∧ Below w.heap.size w wr)
        (fun _ i _ => 1 - (intOf i).toNat)
      case atStart => exact ⟨0, by omega, rfl, by simpa [nb] using hown, hb⟩
      case round =>
        clear hown hb hck hr
        obtain ⟨j, hj, rfl, hown, hb⟩ := hrel
        have hB := hb.size
        by_cases hlt2 : j < 1
        · have hjj : j = 0 := by omega
          subst hjj
          · go_wp2_with (at_builtin; refine wpList_append_own _ rfl _ _ 24 rfl w.heap.size 5 i0 (.int .u8 0) 1 1 Tryz.underlying24 hi hz0 hz1 hz2 rfl (by decide) _ _ _ rfl (hown.alloc _) ⟨_, 0, none⟩ 1 1 [.int .u8 (x / 1 % 256)] rfl rfl ?d1 ?d2 ?d3 ?d4 ?d5 ?_)
            case d1 =>
              intro j u hj
              match j, hj with
              | 0, hj => simp at hj; subst hj; simp [Addr.add] <;> omega
            case d2 => intro u hu; simp at hu; subst hu; rfl
            case d3 => unfold maxLen; omega
            case d4 => omega
            case d5 => simp; omega
            intro v' w2 hown' hgrow _
            have R1 := own_snoc (M := PP ++ nb (0 + 1) x) (by rw [nb_snoc, List.append_assoc]; rw [show x / 256 ^ 0 = x from by simp]) hown'
            have R2 := grown_below hb hB hown hgrow
            clear hown' hgrow hown
            go_wp2
            go_roundw
            case rel => exact ⟨0 + 1, by omega, by go_num, by rw [Nat.mul_one]; exact R1, R2⟩
            case measure => simp [intOf]
        · obtain rfl : j = 1 := by omega
          go_wp2
          go_roundw
          case rel => exact ⟨k + 1, by omega, by go_num, by rw [HS.out, show (k + 1) * 1 = k * 1 + 1 by omega]; exact hown, hb⟩
          case measure => simp [intOf]; omega
    · obtain rfl : k = xs.length := by omega
      go_wp2
      go_ret
      exact ⟨_, rfl, hown, hb⟩

end Go.Proofs.YtgbpfejodpplbaaGreatDoor
namespace Go.Proofs.YtgbpfejodpplbaaGreatDoor
open Go.RowKit
set_option maxRecDepth 100000


set_option maxRecDepth 100000 in
theorem len64_u16 (W : World) : Calls Tryz.prog 108 #[.int .u64 65535] W fun e w' => e = .returned (.int .i64 16) ∧ w' = W := by
  have h := len_255
  go_enter Tryz.func108, Tryz.ntmps108
  go_wp2
  go_ret
  exact ⟨by first | rfl | simp [h], rfl⟩
theorem width_u16 (W : World) : Calls Tryz.prog 93 #[] W fun e w' => e = .returned (.int .i64 2) ∧ w' = W := by
  go_enter Tryz.func93, Tryz.ntmps93
  go_wp2_with (go_at_call 108; refine (len64_u16 _).mono ?_; rintro e wq ⟨rfl, hq⟩; subst wq)
  go_ret
  exact ⟨rfl, rfl⟩

set_option maxRecDepth 100000 in
theorem or_u16 (x c : Int) (s : Nat) (hs : s < 16) (x0 : 0 ≤ x) (x1 : x < 2 ^ s) (c0 : 0 ≤ c) (c1 : c ≤ 255) (hc : c * 2 ^ s < 65536) : bits .or .u16 x (c * 2 ^ s) = x + c * 2 ^ s := by
  obtain ⟨n, rfl⟩ := Int.eq_ofNat_of_zero_le x0
  obtain ⟨m, rfl⟩ := Int.eq_ofNat_of_zero_le c0
  have h1 : n < 2 ^ s := by exact_mod_cast x1
  have e1 : ((m * 2 ^ s : Nat) : Int) = (m : Int) * 2 ^ s := by push_cast; rfl
  have h2 : m * 2 ^ s < 65536 := by rw [← e1] at hc; omega
  have h3 : (2 : Nat) ^ s < 65536 := Nat.lt_of_lt_of_le (Nat.pow_lt_pow_right (by omega) hs) (by decide)
  have := u16_or_nat n (m * 2 ^ s) (by omega) h2
  rw [shl_or m n s h1] at this
  rw [← e1, this]
  push_cast
  rfl
set_option maxRecDepth 100000 in
set_option maxHeartbeats 1000000 in
theorem put_u16 (ao : Option Addr) (cap : Nat) (xs : List Int) (w : World) (hn : xs.length * 2 ≤ 140737488355328) (hwf : ∀ z ∈ xs, 0 ≤ z ∧ z < 65536) (hr : ReadsK w .u16 ao xs w.heap.size) :
    Calls Tryz.prog 64 #[.slice ao xs.length cap] w fun e w' => ∃ v, e = .returned v ∧ w'.ownsRow w.heap.size 5 1 v (xs.length * 2) (bv (puts 2 xs xs.length)) ∧ Below w.heap.size w w' := by
  obtain ⟨i0, hi, hz0, hz1, hz2⟩ := info_parts Tryz.info5
  obtain ⟨w1, hmk, hown0, hg0⟩ := run_make_own (P := Tryz.prog) w w.heap.size 24 5 i0 (.int .u8 0) 1 Tryz.underlying24 hi hz0 hz1 .i64 .i64 (xs.length * 2) (by rw [hz2]; omega) (by unfold maxLen; omega) (Nat.le_refl _)
  rw [show ((xs.length * 2 : Nat) : Int) = (xs.length : Int) * 2 by push_cast; rfl] at hmk
  have hb0 : Below w.heap.size w w1 := (Below.refl w.heap.size w).grown hg0 (Nat.le_refl _) (fun k e => by simp at e)
  clear hg0
  go_enter Tryz.func64, Tryz.ntmps64
  go_wp2_with (go_at_call 93; refine (width_u16 _).mono ?_; rintro e wq ⟨rfl, hq⟩; subst wq)
  go_loopw [3, 14] (fun v i wr => ∃ k : Nat, k ≤ xs.length ∧ i = .int .i64 k ∧ wr.ownsRow w.heap.size 5 1 v (k * 2) (bv (puts 2 xs k)) ∧ Below w.heap.size w wr)
    (fun _ i _ => xs.length - (intOf i).toNat)
  case atStart => exact ⟨0, Nat.zero_le _, rfl, by simpa [puts, bv] using hown0, hb0⟩
  case round =>
    clear hown0 hb0 hmk
    obtain ⟨k, hk, rfl, hown, hb⟩ := hrel
    by_cases hlt : k < xs.length
    · obtain ⟨b, off, rfl, hbl, hc⟩ := (hr.below hb) (by omega)
      have hck := hc k hlt
      clear hc
      have hts := take_snoc xs k hlt
      have hxw := hwf _ (getD_mem hlt)
      generalize xs.getD k 0 = x at hck hts hxw
      have HS : Hid (puts 2 xs (k + 1) = puts 2 xs k ++ nb 2 x) := by simp [puts, hts, Hid]
      clear hts hwf
      obtain ⟨hx0, hx1⟩ := hxw
      have hpl := puts_len 2 xs k hk
      generalize puts 2 xs k = PP at hown HS hpl
      go_wp2_with (go_at_call 93; refine (width_u16 _).mono ?_; rintro e wq ⟨rfl, hq⟩; subst wq)
      go_loopw [3, 19] (fun v i wr => ∃ j : Nat, j ≤ 2 ∧ i = .int .i64 j ∧ wr.ownsRow w.heap.size 5 1 v (k * 2 + j) (bv (PP ++ nb j x)) ∧ Below w.heap.size w wr)
        (fun _ i _ => 2 - (intOf i).toNat)
      case atStart => exact ⟨0, by omega, rfl, by simpa [nb] using hown, hb⟩
      case round =>
        clear hown hb hck hr
        obtain ⟨j, hj, rfl, hown, hb⟩ := hrel
        have hB := hb.size
        by_cases hlt2 : j < 2
        · have hjj : j = 0 ∨ j = 1 := by omega
          rcases hjj with rfl | hjj
          · go_wp2_with (at_builtin; refine wpList_append_own _ rfl _ _ 24 rfl w.heap.size 5 i0 (.int .u8 0) 1 1 Tryz.underlying24 hi hz0 hz1 hz2 rfl (by decide) _ _ _ rfl (hown.alloc _) ⟨_, 0, none⟩ 1 1 [.int .u8 (x / 1 % 256)] rfl rfl ?d1 ?d2 ?d3 ?d4 ?d5 ?_)
            case d1 =>
              intro j u hj
              match j, hj with
              | 0, hj => simp at hj; subst hj; simp [Addr.add] <;> omega
            case d2 => intro u hu; simp at hu; subst hu; rfl
            case d3 => unfold maxLen; omega
            case d4 => omega
            case d5 => simp; omega
            intro v' w2 hown' hgrow _
            have R1 := own_snoc (M := PP ++ nb (0 + 1) x) (by rw [nb_snoc, List.append_assoc]; rw [show x / 256 ^ 0 = x from by simp]) hown'
            have R2 := grown_below hb hB hown hgrow
            clear hown' hgrow hown
            go_wp2
            go_roundw
            case rel => exact ⟨0 + 1, by omega, by go_num, R1, R2⟩
            case measure => simp [intOf]
          subst hjj
          · go_wp2_with (at_builtin; refine wpList_append_own _ rfl _ _ 24 rfl w.heap.size 5 i0 (.int .u8 0) 1 1 Tryz.underlying24 hi hz0 hz1 hz2 rfl (by decide) _ _ _ rfl (hown.alloc _) ⟨_, 0, none⟩ 1 1 [.int .u8 (x / 256 % 256)] rfl rfl ?d1 ?d2 ?d3 ?d4 ?d5 ?_)
            case d1 =>
              intro j u hj
              match j, hj with
              | 0, hj => simp at hj; subst hj; simp [Addr.add] <;> omega
            case d2 => intro u hu; simp at hu; subst hu; rfl
            case d3 => unfold maxLen; omega
            case d4 => omega
            case d5 => simp; omega
            intro v' w2 hown' hgrow _
            have R1 := own_snoc (M := PP ++ nb (1 + 1) x) (by rw [nb_snoc, List.append_assoc]; rfl) hown'
            have R2 := grown_below hb hB hown hgrow
            clear hown' hgrow hown
            go_wp2
            go_roundw
            case rel => exact ⟨1 + 1, by omega, by go_num, R1, R2⟩
            case measure => simp [intOf]
        · obtain rfl : j = 2 := by omega
          go_wp2
          go_roundw
          case rel => exact ⟨k + 1, by omega, by go_num, by rw [HS.out, show (k + 1) * 2 = k * 2 + 2 by omega]; exact hown, hb⟩
          case measure => simp [intOf]; omega
    · obtain rfl : k = xs.length := by omega
      go_wp2
      go_ret
      exact ⟨_, rfl, hown, hb⟩

end Go.Proofs.YtgbpfejodpplbaaGreatDoor
