import Derived.Test.YtnplimdcfbgpeaaDoorRows
import Derived.WalkKit
import Derived.Laws.BitsAllLaws
import Derived.Deep.QuietTactic
import Derived.BigQuiet
import Derived.WalkSmall
import Derived.Laws.AppendOwn
import Derived.WideShapes
import Derived.Laws.Cover3
import Derived.Lib.Tables
import Derived.Laws.CopyOwn
namespace Go.Proofs.YtnplimdcfbgpeaaDoor
open Go.RowKit
set_option maxRecDepth 100000

theorem Tryd.info5 : (Tryd.prog.info? 5).map (fun i => (i.zero, i.size, i.bytes)) = some (some (.int .u8 0), 1, 1) := by kernel_rfl

/-- bytes as values -/
def bv (L : List Int) : List Value := L.map (Value.int .u8)
theorem bv_append (L M : List Int) : bv (L ++ M) = bv L ++ bv M := by simp [bv]
theorem bv_len (L : List Int) : (bv L).length = L.length := by simp [bv]
theorem bv_one (x : Int) : bv [x] = [.int .u8 x] := rfl

/-- what a slice of bytes that is read holds -/
def Reads (w : World) (ao : Option Addr) (zs : List Int) (B : Nat) : Prop :=
  0 < zs.length → ∃ b off, ao = some ⟨b, off, none⟩ ∧ b < B ∧ ∀ j, j < zs.length → w.cell? ⟨b, off + j, none⟩ = some (.int .u8 (zs.getD j 0))

theorem Reads.below {w w' : World} {ao : Option Addr} {zs : List Int} {B : Nat} (h : Reads w ao zs B) (hb : Below B w w') : Reads w' ao zs B := by
  intro hl
  obtain ⟨b, off, e, hlt, hc⟩ := h hl
  exact ⟨b, off, e, hlt, fun j hj => (hb.cell (p := ⟨b, off + j, none⟩) hlt).trans (hc j hj)⟩
theorem Reads.mono {w : World} {ao : Option Addr} {zs : List Int} {B C : Nat} (h : Reads w ao zs B) (hb : B ≤ C) : Reads w ao zs C := by
  intro hl
  obtain ⟨b, off, e, hlt, hc⟩ := h hl
  exact ⟨b, off, e, Nat.lt_of_lt_of_le hlt hb, hc⟩
theorem Reads.nil (w : World) (ao : Option Addr) (B : Nat) : Reads w ao [] B := fun h => by simp at h

theorem take_snoc (zs : List Int) (k : Nat) (h : k < zs.length) : zs.take (k + 1) = zs.take k ++ [zs.getD k 0] := by
  rw [List.take_succ_eq_append_getElem h]
  simp [List.getD, List.getElem?_eq_getElem h]
theorem getD_mem {zs : List Int} {k : Nat} (h : k < zs.length) : zs.getD k 0 ∈ zs := by
  simp [List.getD, List.getElem?_eq_getElem h]

theorem own_snoc {w1 : World} {B : Nat} {v' : Value} {L M : List Int} {n : Nat} {x : Int} (hM : M = L ++ [x])
    (h : w1.ownsRow B 5 1 v' (n + 1) (bv L ++ [.int .u8 x])) : w1.ownsRow B 5 1 v' (n + 1) (bv M) := by
  rw [hM, bv_append]; exact h
theorem grown_below {B e sz : Nat} {a w w' : World} {xs : List Value} {v : Value} {n : Nat} {o : Obj} (h : Below B a w) (hB : B ≤ w.heap.size) (hown : w.ownsRow B e sz v n xs) (hg : (w.alloc o).grownBy w' v.ownBlock) : Below B a w' :=
  (h.alloc hB o).grown hg (by simp; omega) (fun k e => (hown.lt k e).1)
theorem own_cell {w1 : World} {B g n cap : Nat} {L : List Int} (h : w1.ownsRow B 5 1 (.slice (some ⟨g, 0, none⟩) n cap) L.length (bv L)) {i : Nat} (hi : i < L.length) : w1.cell? ⟨g, 0 + i, none⟩ = some (.int .u8 (L.getD i 0)) := by
  have := h.cells (g := g) rfl i (.int .u8 (L.getD i 0)) (by simp [bv, List.getD, List.getElem?_eq_getElem hi])
  have hadd : (⟨g, 0, none⟩ : Addr).add i = ⟨g, 0 + i, none⟩ := by unfold Addr.add; split <;> simp_all
  rw [← hadd]; exact this
theorem own_reads {w : World} {B : Nat} {v : Value} {zs : List Int} (h : w.ownsRow B 5 1 v zs.length (bv zs)) : ∃ ao cap, v = .slice ao zs.length cap ∧ Reads w ao zs w.heap.size := by
  have h' := h
  have hlt := h.lt
  rcases h.2 with ⟨rfl, hz⟩ | ⟨g, cap, cur, rfl, _⟩
  · have hl : zs.length = 0 := by simpa using hz
    exact ⟨none, 0, by rw [hl], fun hp => by omega⟩
  · exact ⟨_, cap, rfl, fun _ => ⟨g, 0, rfl, (hlt g rfl).2, fun j hj => own_cell h' hj⟩⟩
theorem ret_int {k : IntKind} {a b : Int} (h : a = b) : Ending.returned (.int k a) = .returned (.int k b) := by rw [h]
theorem below_drewN {B : Nat} {a w : World} (h : Below B a w) (n : Nat) : Below B a (w.drewN n) := h.trans ⟨rfl, rfl, rfl, Nat.le_refl _, fun _ _ => rfl⟩
end Go.Proofs.YtnplimdcfbgpeaaDoor
namespace Go.Proofs.YtnplimdcfbgpeaaDoor
open Go.RowKit
set_option maxRecDepth 100000

/-- The mark of place i of list k. -/
def mk (k i : Int) : Int :=
  bits BinOp.xor IntKind.u32 (((k + 2) * 2654435761 + i * 2246822519) % 4294967296) (((k + 2) * 2654435761 + i * 2246822519) % 4294967296 / 32768) * 739982445 % 4294967296 / 16777216

theorem mk_range (k i : Int) : 0 ≤ mk k i ∧ mk k i ≤ 255 := by
  unfold mk
  generalize bits BinOp.xor IntKind.u32 _ _ = x
  omega



theorem mk_mod (k i : Int) : ((k + 2) % 4294967296 * 2654435761 + i % 4294967296 * 2246822519) % 4294967296 = ((k + 2) * 2654435761 + i * 2246822519) % 4294967296 := by omega

def marks (k : Int) (m : Nat) : List Int := (List.range m).map fun (i : Nat) => mk k (i : Int)
theorem marks_succ (k : Int) (m : Nat) : marks k (m + 1) = marks k m ++ [mk k (m : Int)] := by
  simp [marks, List.range_succ]
theorem marks_len (k : Int) (m : Nat) : (marks k m).length = m := by simp [marks]
theorem marks_wf (k : Int) (n : Nat) : ∀ z ∈ marks k n, 0 ≤ z ∧ z ≤ 255 := by
  intro z hz
  simp only [marks, List.mem_map] at hz
  obtain ⟨i, _, rfl⟩ := hz
  exact mk_range _ _
theorem marks_take (k : Int) (n m : Nat) : marks k n = (marks k (n + m)).take n := by
  simp [marks, ← List.map_take, List.take_range]
theorem own_get {w1 : World} {B g n cap : Nat} {L : List Int} (h : w1.ownsRow B 5 1 (.slice (some ⟨g, 0, none⟩) n cap) n (bv L)) {i : Nat} (hi : i < L.length) : w1.cell? ⟨g, i, none⟩ = some (.int .u8 (L.getD i 0)) := by
  have := h.cells (g := g) rfl i (.int .u8 (L.getD i 0)) (by simp [bv, List.getD, List.getElem?_eq_getElem hi])
  have hadd : (⟨g, 0, none⟩ : Addr).add i = ⟨g, 0 + i, none⟩ := by unfold Addr.add; split <;> simp_all
  rw [hadd, Nat.zero_add] at this; exact this
theorem grown_of_below {w w' : World} (h : Below w.heap.size w w') : w.grownBy w' none := ⟨h.os, h.tape, h.output, h.size, fun k hk _ => h.block k hk⟩
theorem own_below {w w' : World} {B e sz : Nat} {v : Value} {n : Nat} {xs : List Value} (h : w.ownsRow B e sz v n xs) (hb : Below w.heap.size w w') : w'.ownsRow B e sz v n xs :=
  h.kept (grown_of_below hb) (by cases hv : v.ownBlock <;> simp)
theorem own_form {w : World} {B e sz : Nat} {v : Value} {n : Nat} {xs : List Value} (h : w.ownsRow B e sz v n xs) (hn : 0 < n) : ∃ g c, v = .slice (some ⟨g, 0, none⟩) n c ∧ n ≤ c := by
  rcases h.2 with ⟨_, rfl⟩ | ⟨g, cap, cur, rfl, _, _, hc, _⟩
  · omega
  · exact ⟨g, cap, rfl, hc⟩
theorem reads_own {w : World} {B g m cap : Nat} {L zs : List Int} (h : w.ownsRow B 5 1 (.slice (some ⟨g, 0, none⟩) m cap) m (bv L)) (hz : zs = L.take zs.length) : Reads w (some ⟨g, 0, none⟩) zs w.heap.size := by
  intro _
  refine ⟨g, 0, rfl, (h.lt g rfl).2, fun j hj => ?_⟩
  have hl : zs.length ≤ L.length := by
    have := congrArg List.length hz
    simp at this
    omega
  rw [Nat.zero_add, own_get h (by omega)]
  rw [hz]
  simp [hj]

theorem grown_trans {w w1 w2 : World} {row : Option Nat} (h1 : w.grownBy w1 row) (h2 : w1.grownBy w2 row) : w.grownBy w2 row :=
  ⟨h2.os.trans h1.os, h2.tape.trans h1.tape, h2.output.trans h1.output, Nat.le_trans h1.size h2.size, fun k hk hne => (h2.block k (Nat.lt_of_lt_of_le hk h1.size) hne).trans (h1.block k hk hne)⟩

theorem over_step (L : List Int) (k : Nat) (h : k < L.length) : bv (marks (-1) (k + 1) ++ L.drop (k + 1)) = (bv (marks (-1) k ++ L.drop k)).set k (.int .u8 (mk (-1) k)) := by
  have hl := marks_len (-1) k
  rw [marks_succ, List.drop_eq_getElem_cons h]
  simp only [bv, List.map_append, List.map_cons, List.append_assoc, List.cons_append, List.nil_append]
  rw [List.set_append_right _ _ (by simp [hl])]
  simp [hl]

end Go.Proofs.YtnplimdcfbgpeaaDoor
namespace Go.Proofs.YtnplimdcfbgpeaaDoor
open Go.RowKit Go.WideShapes

theorem nil_eq (a : Option Addr) (n c : Nat) (w : World) : (binOp .eql 24 (.slice a n c) (.slice none 0 0)).run Tryd.prog w = .ok (.bool a.isNone) w := by
  have e : binOp .eql 24 (.slice a n c) (.slice none 0 0) = (do pure (.bool (← Op.equal 24 (.slice a n c) (.slice none 0 0)))) := rfl
  rw [e, Sem.run_bind, run_equal_slice_nil w _ _ a n c Tryd.underlying24]
  rfl

set_option maxRecDepth 100000 in
set_option maxHeartbeats 1000000 in
theorem clone_any (ao : Option Addr) (cap : Nat) (zs : List Int) (w : World) (hn : zs.length ≤ 140737488355328) (hnil : ao = none → zs = []) (hr : Reads w ao zs w.heap.size) :
    Calls Tryd.prog 45 #[.slice ao zs.length cap] w fun e w' => ∃ v, e = .returned v ∧ w'.ownsRow w.heap.size 5 1 v zs.length (bv zs) ∧ Below w.heap.size w w' := by
  obtain ⟨i0, hi, hz0, hz1, hz2⟩ := info_parts Tryd.info5
  have hq := nil_eq ao zs.length cap w
  cases ao with
  | none =>
    obtain rfl := hnil rfl
    simp only [List.length_nil] at hq
    go_enter Tryd.func45, Tryd.ntmps45
    go_wp2
    go_ret
    exact ⟨_, rfl, World.ownsRow_nil _ _ _ _, Below.refl _ _⟩
  | some ad =>
    clear hnil
    have own0 := World.ownsRow_lit (size := 1) (base := w.heap.size) (e := 5) w #[] 0 (Nat.le_refl _) (by decide) rfl
    have hb0 : Below w.heap.size w (w.alloc (.cells #[] 5)) := (Below.refl w.heap.size w).alloc (Nat.le_refl _) _
    have hr0 := hr.below hb0
    have hcl : ∀ j u, (bv zs)[j]? = some u → (w.alloc (.cells #[] 5)).cell? (ad.add j) = some u := by
      intro j u hj
      have hjl : j < zs.length := by
        have := (List.getElem?_eq_some_iff.1 hj).1
        simpa [bv] using this
      obtain ⟨b, off, e, hlt, hc⟩ := hr0 (by omega)
      simp only [Option.some.injEq] at e
      subst e
      rw [add_plain, hc j hjl]
      simp [bv, hjl] at hj
      simp [hjl, hj]
    have HC : Hid (∀ j u, (bv zs)[j]? = some u → (w.alloc (.cells #[] 5)).cell? (ad.add j) = some u) := hcl
    clear hcl hr0 hr
    go_enter Tryd.func45, Tryd.ntmps45
    go_wp2_with (at_builtin; refine wpList_append_own _ rfl _ _ 24 rfl w.heap.size 5 i0 (.int .u8 0) 1 1 Tryd.underlying24 hi hz0 hz1 hz2 rfl (by decide) _ 0 [] rfl own0 ad zs.length cap (bv zs) rfl ?d0 HC.out ?d2 ?d3 ?d4 ?d5 ?_)
    case d0 => simp [bv]
    case d2 => intro u hu; simp [bv] at hu; obtain ⟨z, _, rfl⟩ := hu; rfl
    case d3 => unfold maxLen; omega
    intro v' w1 hown' hgrow _
    have R2 : Below w.heap.size w w1 := hb0.grown hgrow (by simp) (fun k e => by simp [Value.ownBlock] at e; omega)
    clear hgrow own0 hb0 HC
    go_wp2
    go_ret
    exact ⟨_, rfl, hown', R2⟩
end Go.Proofs.YtnplimdcfbgpeaaDoor
namespace Go.Proofs.YtnplimdcfbgpeaaDoor
open Go.RowKit
set_option maxRecDepth 100000

/-- the number of bytes, the lowest one first -/
def num : List Int → Int
  | [] => 0
  | a :: L => a + 256 * num L
/-- the bytes of a number -/
def nb : Nat → Int → List Int
  | 0, _ => []
  | w + 1, x => x % 256 :: nb w (x / 256)
theorem nb_len (w : Nat) : ∀ x, (nb w x).length = w := by
  induction w with
  | zero => intro x; rfl
  | succ w ih => intro x; simp [nb, ih]
theorem nb_wf (w : Nat) : ∀ x, ∀ z ∈ nb w x, 0 ≤ z ∧ z ≤ 255 := by
  induction w with
  | zero => intro x z hz; simp [nb] at hz
  | succ w ih =>
    intro x z hz
    simp only [nb, List.mem_cons] at hz
    rcases hz with rfl | hz
    · omega
    · exact ih _ z hz
theorem pow256 (k : Nat) : (256 : Int) ^ (k + 1) = 256 ^ k * 256 := Int.pow_succ _ _
theorem pow256_pos (k : Nat) : (0 : Int) < 256 ^ k := Int.pow_pos (by decide)
theorem nb_snoc (k : Nat) : ∀ x, nb (k + 1) x = nb k x ++ [x / 256 ^ k % 256] := by
  induction k with
  | zero => intro x; simp [nb]
  | succ k ih =>
    intro x
    have h := ih (x / 256)
    rw [show nb (k + 1 + 1) x = x % 256 :: nb (k + 1) (x / 256) from rfl, h, show nb (k + 1) x = x % 256 :: nb k (x / 256) from rfl]
    rw [Int.ediv_ediv_of_nonneg (by decide), Int.mul_comm, ← pow256]
    rfl
theorem num_snoc (L : List Int) (c : Int) : num (L ++ [c]) = num L + 256 ^ L.length * c := by
  induction L with
  | nil => simp [num]
  | cons a L ih => simp only [List.cons_append, num, ih, List.length_cons, pow256]; grind
theorem num_range (L : List Int) (h : ∀ z ∈ L, 0 ≤ z ∧ z ≤ 255) : 0 ≤ num L ∧ num L < 256 ^ L.length := by
  induction L with
  | nil => simp [num]
  | cons a L ih =>
    have h1 := ih (fun z hz => h z (by simp [hz]))
    have h2 := h a (by simp)
    simp only [num, List.length_cons, pow256]
    omega
theorem emod_256 (x P : Int) (hP : 0 < P) : x % (256 * P) = x % 256 + 256 * (x / 256 % P) := by
  have h1 := Int.emod_nonneg (x / 256) (show P ≠ 0 by omega)
  have h2 := Int.emod_lt_of_pos (x / 256) hP
  have h3 := Int.mul_ediv_add_emod (x / 256) P
  have key : x = (x % 256 + 256 * (x / 256 % P)) + (256 * P) * (x / 256 / P) := by
    have h4 := Int.mul_ediv_add_emod x 256
    rw [Int.mul_assoc]
    omega
  have b1 : 0 ≤ x % 256 + 256 * (x / 256 % P) := by omega
  have b2 : x % 256 + 256 * (x / 256 % P) < 256 * P := by omega
  generalize x / 256 / P = t at key
  generalize x % 256 + 256 * (x / 256 % P) = y at *
  rw [key, Int.add_mul_emod_self_left]
  exact Int.emod_eq_of_lt b1 b2
theorem num_nb (w : Nat) : ∀ x, num (nb w x) = x % 256 ^ w := by
  induction w with
  | zero => intro x; simp [nb, num]
  | succ w ih =>
    intro x
    rw [show nb (w + 1) x = x % 256 :: nb w (x / 256) from rfl, show num (x % 256 :: nb w (x / 256)) = x % 256 + 256 * num (nb w (x / 256)) from rfl, ih, pow256, Int.mul_comm (256 ^ w) 256,
      emod_256 x _ (pow256_pos w)]
theorem nb_num (L : List Int) (h : ∀ z ∈ L, 0 ≤ z ∧ z ≤ 255) : nb L.length (num L) = L := by
  induction L with
  | nil => rfl
  | cons a L ih =>
    have h1 := ih (fun z hz => h z (by simp [hz]))
    have h2 := h a (by simp)
    show (a + 256 * num L) % 256 :: nb L.length ((a + 256 * num L) / 256) = a :: L
    rw [show (a + 256 * num L) % 256 = a by omega, show (a + 256 * num L) / 256 = num L by omega, h1]

/-- numbers as values -/
def bk (k : IntKind) (L : List Int) : List Value := L.map (Value.int k)
theorem bk_append (k : IntKind) (L M : List Int) : bk k (L ++ M) = bk k L ++ bk k M := by simp [bk]
def ReadsK (w : World) (k : IntKind) (ao : Option Addr) (zs : List Int) (B : Nat) : Prop :=
  0 < zs.length → ∃ b off, ao = some ⟨b, off, none⟩ ∧ b < B ∧ ∀ j, j < zs.length → w.cell? ⟨b, off + j, none⟩ = some (.int k (zs.getD j 0))
theorem ReadsK.below {w w' : World} {k : IntKind} {ao : Option Addr} {zs : List Int} {B : Nat} (h : ReadsK w k ao zs B) (hb : Below B w w') : ReadsK w' k ao zs B := by
  intro hl
  obtain ⟨b, off, e, hlt, hc⟩ := h hl
  exact ⟨b, off, e, hlt, fun j hj => (hb.cell (p := ⟨b, off + j, none⟩) hlt).trans (hc j hj)⟩
theorem ReadsK.mono {w : World} {k : IntKind} {ao : Option Addr} {zs : List Int} {B C : Nat} (h : ReadsK w k ao zs B) (hb : B ≤ C) : ReadsK w k ao zs C := by
  intro hl
  obtain ⟨b, off, e, hlt, hc⟩ := h hl
  exact ⟨b, off, e, Nat.lt_of_lt_of_le hlt hb, hc⟩

theorem Reads.drop {w : World} {b off : Nat} {zs : List Int} {B : Nat} (h : Reads w (some ⟨b, off, none⟩) zs B) (n : Nat) (hn : n < zs.length) : Reads w (some ⟨b, off + n, none⟩) (zs.drop n) B := by
  intro _
  obtain ⟨b', off', e, hlt, hc⟩ := h (by omega)
  simp only [Option.some.injEq, Addr.mk.injEq, and_true] at e
  obtain ⟨rfl, rfl⟩ := e
  refine ⟨_, _, rfl, hlt, fun j hj => ?_⟩
  rw [List.length_drop] at hj
  have := hc (n + j) (by omega)
  rw [Nat.add_assoc, this]
  simp [List.getD]
theorem shl_or (n m s : Nat) (h : m < 2 ^ s) : m ||| n * 2 ^ s = m + n * 2 ^ s := by
  have := (Nat.shiftLeft_add_eq_or_of_lt h n).symm
  rw [Nat.shiftLeft_eq] at this
  rw [Nat.or_comm, this, Nat.add_comm]
theorem lit_readsK (W : World) (k : IntKind) (t : TypeId) (x : Int) : ReadsK (W.alloc (.cells #[.int k x] t)) k (some ⟨W.heap.size, 0, none⟩) [x] (W.alloc (.cells #[.int k x] t)).heap.size := by
  intro _
  refine ⟨W.heap.size, 0, rfl, by simp, fun j hj => ?_⟩
  have : j = 0 := by simpa using hj
  subst this
  simp
theorem Tryd.sz5 : (Tryd.prog.info? 5).map (·.size) = some 1 := by kernel_rfl
def atv (w : Nat) (zs : List Int) (at_ : Int) : Int := if 0 ≤ at_ ∧ at_ + w ≤ zs.length then num ((zs.drop at_.toNat).take w) else 0
def ate (w n : Nat) (at_ : Int) : Int := if 0 ≤ at_ ∧ at_ + w ≤ (n : Int) then 0 else 20
theorem atv_range (w : Nat) (zs : List Int) (at_ : Int) (h : ∀ z ∈ zs, 0 ≤ z ∧ z ≤ 255) : 0 ≤ atv w zs at_ ∧ atv w zs at_ < 256 ^ w := by
  unfold atv
  have hp := pow256_pos w
  split
  · rename_i hc
    have := num_range ((zs.drop at_.toNat).take w) (fun z hz => h z (List.mem_of_mem_drop (List.mem_of_mem_take hz)))
    have hl : ((zs.drop at_.toNat).take w).length = w := by simp; omega
    rwa [hl] at this
  · omega
def puts (w : Nat) (xs : List Int) (k : Nat) : List Int := (xs.take k).flatMap (nb w)
theorem flat_nb_len (w : Nat) (L : List Int) : (L.flatMap (nb w)).length = L.length * w := by
  induction L with
  | nil => simp
  | cons a L ih => simp only [List.flatMap_cons, List.length_append, nb_len, ih, List.length_cons, Nat.add_mul]; omega
theorem puts_len (w : Nat) (xs : List Int) (k : Nat) (h : k ≤ xs.length) : (puts w xs k).length = k * w := by
  rw [puts, flat_nb_len, List.length_take, Nat.min_eq_left h]
theorem len_255 : Lib.len8 255 = 8 := by decide +kernel
/-- bytes with a number laid over them -/
def wth (w : Nat) (zs : List Int) (p : Nat) (x : Int) : List Int := zs.take p ++ (nb w x ++ zs.drop (p + w))
theorem take_app3 {α : Type} (A B C : List α) (n : Nat) (h : A.length + B.length ≤ n) : (A ++ (B ++ C)).take n = A ++ (B ++ C.take (n - (A.length + B.length))) := by
  rw [List.take_append, List.take_of_length_le (by omega), List.take_append, List.take_of_length_le (by omega), Nat.sub_sub]
theorem splice_wth (w : Nat) (cur : List Value) (zs : List Int) (p : Nat) (x : Int) (hp : p + w ≤ zs.length) (h : cur.take zs.length = bv zs) :
    (splice cur p (bv (nb w x))).toArray.toList.take (zs.length * 1) = bv (wth w zs p x) := by
  have hc : zs.length ≤ cur.length := by
    have := congrArg List.length h
    simp [bv] at this
    omega
  have e1 : cur.take p = bv (zs.take p) := by
    have := congrArg (List.take p) h
    rw [List.take_take, Nat.min_eq_left (by omega)] at this
    rw [this, bv, bv, List.map_take]
  have e2 : (cur.take zs.length).drop (p + w) = bv (zs.drop (p + w)) := by rw [h, bv, bv, List.map_drop]
  have e3 : (cur.drop (p + w)).take (zs.length - (p + w)) = bv (zs.drop (p + w)) := by rw [← List.drop_take]; exact e2
  rw [Nat.mul_one, splice, e1, bv_len, nb_len, wth, bv_append, bv_append]
  show (bv (zs.take p) ++ (bv (nb w x) ++ cur.drop (p + w))).take zs.length = _
  rw [take_app3 _ _ _ _ (by rw [bv_len, bv_len, nb_len, List.length_take]; omega), bv_len, bv_len, nb_len, List.length_take, Nat.min_eq_left (by omega), e3]
end Go.Proofs.YtnplimdcfbgpeaaDoor
namespace Go.Proofs.YtnplimdcfbgpeaaDoor
open Go.RowKit
set_option maxRecDepth 100000

def stp (p : Int × Int) (c : Int) : Int × Int := ((p.1 + c) % 65521, (p.2 + (p.1 + c) % 65521) % 65521)
def st (zs : List Int) : Int × Int := zs.foldl stp (1, 0)
def adl (zs : List Int) : Int := (st zs).2 * 65536 + (st zs).1
theorem st_snoc (L : List Int) (c : Int) : st (L ++ [c]) = stp (st L) c := by simp [st]
theorem stp_range (p : Int × Int) (c : Int) : (0 ≤ (stp p c).1 ∧ (stp p c).1 ≤ 65520) ∧ 0 ≤ (stp p c).2 ∧ (stp p c).2 ≤ 65520 := by
  simp only [stp]; omega
theorem st_fold_range (L : List Int) : ∀ p : Int × Int, ((0 ≤ p.1 ∧ p.1 ≤ 65520) ∧ 0 ≤ p.2 ∧ p.2 ≤ 65520) → ((0 ≤ (L.foldl stp p).1 ∧ (L.foldl stp p).1 ≤ 65520) ∧ 0 ≤ (L.foldl stp p).2 ∧ (L.foldl stp p).2 ≤ 65520) := by
  induction L with
  | nil => intro p h; exact h
  | cons a L ih => intro p _; exact ih _ (stp_range p a)
theorem st_range (L : List Int) : (0 ≤ (st L).1 ∧ (st L).1 ≤ 65520) ∧ 0 ≤ (st L).2 ∧ (st L).2 ≤ 65520 := st_fold_range L _ (by decide)
theorem adl_range (L : List Int) : 0 ≤ adl L ∧ adl L ≤ 4294967295 := by have := st_range L; unfold adl; omega

theorem or16 (h l : Int) (h0 : 0 ≤ h) (h1 : h ≤ 65535) (l0 : 0 ≤ l) (l1 : l ≤ 65535) : bits .or .u32 (h * 65536) l = h * 65536 + l := by
  obtain ⟨n, rfl⟩ := Int.eq_ofNat_of_zero_le h0
  obtain ⟨m, rfl⟩ := Int.eq_ofNat_of_zero_le l0
  have := u32_or_nat (n * 65536) m (by omega) (by omega)
  have e : n * 65536 ||| m = n * 65536 + m := by
    have := (Nat.shiftLeft_add_eq_or_of_lt (i := 16) (b := m) (by omega) n).symm
    simpa [Nat.shiftLeft_eq] using this
  rw [e] at this
  simpa using this

set_option maxHeartbeats 400000 in
theorem sum_any (ao : Option Addr) (cap : Nat) (zs : List Int) (w : World) (hn : zs.length ≤ 140737488355328) (hwf : ∀ z ∈ zs, 0 ≤ z ∧ z ≤ 255) (hr : Reads w ao zs w.heap.size) :
    Calls Tryd.prog 36 #[.slice ao zs.length cap] w fun e w' => e = .returned (.int .u32 (adl zs)) ∧ w' = w := by
  go_enter Tryd.func36, Tryd.ntmps36
  go_wp2
  go_loop [3, 4, 9] (fun l h i => ∃ k : Nat, k ≤ zs.length ∧ i = .int .i64 k ∧ l = .int .u32 (st (zs.take k)).1 ∧ h = .int .u32 (st (zs.take k)).2)
    (fun _ _ i => zs.length - (intOf i).toNat)
  case atStart => exact ⟨0, Nat.zero_le _, rfl, rfl, rfl⟩
  case round =>
    obtain ⟨k, hk, rfl, rfl, rfl⟩ := hrel
    have hst := st_range (zs.take k)
    by_cases hlt : k < zs.length
    · obtain ⟨b, off, rfl, hbl, hc⟩ := hr (by omega)
      have hck := hc k hlt
      clear hc
      have hts := take_snoc zs k hlt
      have hcw := hwf _ (getD_mem hlt)
      generalize zs.getD k 0 = c at hck hts hcw
      have HS : Hid (st (zs.take (k + 1)) = stp (st (zs.take k)) c) := by rw [hts]; exact st_snoc _ _
      clear hts
      generalize st (zs.take k) = p at hst HS
      obtain ⟨l, h⟩ := p
      simp only at hst
      obtain ⟨⟨l0, l1⟩, h0, h1⟩ := hst
      obtain ⟨c0, c1⟩ := hcw
      go_wp2
      go_round
      case rel => exact ⟨k + 1, by omega, by go_num, by rw [HS.out]; rfl, by rw [HS.out]; rfl⟩
      case measure => simp [intOf]; omega
    · have HE : Hid (adl zs = (st (zs.take k)).2 * 65536 + (st (zs.take k)).1) := by rw [show k = zs.length by omega, List.take_length]; rfl
      generalize st (zs.take k) = p at hst HE
      obtain ⟨l, h⟩ := p
      simp only at hst
      obtain ⟨⟨l0, l1⟩, h0, h1⟩ := hst
      have ho := or16 h l h0 (by omega) l0 (by omega)
      go_wp2
      go_ret
      exact ⟨by rw [HE.out]; rfl, rfl⟩
end Go.Proofs.YtnplimdcfbgpeaaDoor
namespace Go.Proofs.YtnplimdcfbgpeaaDoor
open Go.RowKit
set_option maxRecDepth 100000

theorem take_ne {xs ys : List Int} {k : Nat} (h : xs.getD k 0 ≠ ys.getD k 0) : xs ≠ ys := by
  intro e; subst e; exact h rfl

set_option maxRecDepth 100000 in
set_option maxHeartbeats 2000000 in
theorem same_any (ao bo : Option Addr) (ca cb : Nat) (xs ys : List Int) (w : World) (hn : xs.length ≤ 140737488355328) (ha : Reads w ao xs w.heap.size) (hr : Reads w bo ys w.heap.size) :
    Calls Tryd.prog 14 #[.slice ao xs.length ca, .slice bo ys.length cb] w fun e w' => e = .returned (.bool (decide (xs = ys))) ∧ ∃ m, w' = w.drewN m := by
  by_cases hl : xs.length = ys.length
  · have hlI : (xs.length : Int) = (ys.length : Int) := by omega
    go_enter Tryd.func14, Tryd.ntmps14
    go_wp2
    go_loopw [5] (fun i wr => ∃ k m : Nat, k ≤ xs.length ∧ i = .int .i64 k ∧ wr = w.drewN m ∧ xs.take k = ys.take k)
      (fun i _ => xs.length - (intOf i).toNat)
    case atStart => exact ⟨0, 0, Nat.zero_le _, rfl, rfl, rfl⟩
    case round =>
      obtain ⟨k, m, hk, rfl, hw2, hpre⟩ := hrel
      have HP : Hid (xs.take k = ys.take k) := hpre
      clear hpre
      by_cases hlt : k < xs.length
      · obtain ⟨b, off, rfl, hbl, hc⟩ := hr (by omega)
        obtain ⟨b2, off2, rfl, hbl2, hc2⟩ := ha (by omega)
        have hck : wr.cell? ⟨b, off + k, none⟩ = some (.int .u8 (ys.getD k 0)) := by rw [hw2]; exact hc k (by omega)
        have hck2 : wr.cell? ⟨b2, off2 + k, none⟩ = some (.int .u8 (xs.getD k 0)) := by rw [hw2]; exact hc2 k hlt
        clear hc hc2
        have HW2 : Hid (wr = w.drewN m) := hw2
        clear hw2
        have hlt' : (k : Int) < (xs.length : Int) := by omega
        have hlt'' : (k : Int) < (ys.length : Int) := by omega
        have HT1 : Hid (xs.take (k + 1) = xs.take k ++ [xs.getD k 0]) := take_snoc xs k hlt
        have HT2 : Hid (ys.take (k + 1) = ys.take k ++ [ys.getD k 0]) := take_snoc ys k (by omega)
        by_cases hcc : xs.getD k 0 = ys.getD k 0
        · rw [hcc] at hck2 HT1
          generalize ys.getD k 0 = c at hck hck2 HT1 HT2
          clear hcc
          go_wp2
          go_quiet (fail)
          go_wp2
          go_roundw
          case rel => exact ⟨k + 1, _, by omega, by go_num, by rw [HW2.out, World.drewN_drewN], by rw [HT1.out, HT2.out, HP.out]⟩
          case measure => simp [intOf]; omega
        · have HN : Hid (decide (xs = ys) = false) := decide_eq_false (take_ne hcc)
          generalize ys.getD k 0 = c at hck hcc
          generalize xs.getD k 0 = c2 at hck2 hcc
          clear HT1 HT2 HP
          have hbe : (c2 != c) = true := by simpa using hcc
          go_wp2
          go_quiet (fail)
          go_wp2
          go_ret
          exact ⟨by rw [HN.out]; rfl, _, by rw [HW2.out, World.drewN_drewN]⟩
      · have HN : Hid (decide (xs = ys) = true) := by
          have e1 := HP.out
          rw [List.take_of_length_le (by omega), List.take_of_length_le (by omega)] at e1
          exact decide_eq_true e1
        have HW2 : Hid (wr = w.drewN m) := hw2
        clear hw2 HP
        go_wp2
        go_ret
        exact ⟨by rw [HN.out]; rfl, _, HW2.out⟩
  · have hlI : ¬ (xs.length : Int) = (ys.length : Int) := by omega
    have HN : Hid (decide (xs = ys) = false) := decide_eq_false (fun e => hl (by rw [e]))
    go_enter Tryd.func14, Tryd.ntmps14
    go_wp2
    go_ret
    exact ⟨by rw [HN.out]; rfl, 0, rfl⟩
end Go.Proofs.YtnplimdcfbgpeaaDoor
