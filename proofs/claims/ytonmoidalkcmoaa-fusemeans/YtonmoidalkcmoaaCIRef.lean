import Derived.Test.YtonmoidalkcmoaaCIWrd
import Derived.Test.YtonmoidalkcmoaaCIInf
import Derived.Test.YtonmoidalkcmoaaCZMo
namespace Go.Proofs.Ytonmoidalkcmoaa
open Go.RowKit
set_option maxRecDepth 100000

set_option maxHeartbeats 1000000 in
theorem check_any (op arg : Nat) (w : World) (h : op < 256) :
    Calls Try.prog 13 #[.agg #[.int .u8 op, .int .u32 arg]] w fun e w' => e = .returned (.int .i64 (erV op arg)) ∧ Below w.heap.size w w' := by
  have hI := fun w => sized_any op arg w h
  go_enter Try.func13, Try.ntmps13
  go_wp2_with (go_at_call 23; refine (hI _).mono ?_; rintro e wq ⟨rfl, hq⟩)
  go_ret
  exact ⟨rfl, bt (bel (Below.refl _ _)) hq⟩
theorem sz_of_er (op arg : Nat) (h : ¬ erV op arg = 0) : szV op arg = 0 := by
  unfold erV at h; unfold szV
  split at h
  · rw [if_pos (by assumption)]
  · rw [if_neg (by assumption)]
    split at h
    · rw [if_pos (by assumption)]
    · exact absurd rfl h
theorem sz_ok (op arg : Nat) (h : erV op arg = 0) : szV op arg = 1 + opWi op := by
  unfold erV at h; unfold szV
  split at h
  · cases h
  · rw [if_neg (by assumption)]
    split at h
    · cases h
    · rw [if_neg (by assumption)]
open Go.WideShapes
theorem PlO.below {W W' : World} {M : Col → Pc} {x pm sp : Nat} {m : Pm} (h : Hid (PlO W M x pm sp m)) (hb : Below W.heap.size W W') : Hid (PlO W' M x pm sp m) :=
  dhid ⟨stt_below h.out.1 hb, h.out.2⟩
theorem PlO.alloc {W : World} {M : Col → Pc} {x pm sp : Nat} {m : Pm} (h : Hid (PlO W M x pm sp m)) (o : Obj) : Hid (PlO (W.alloc o) M x pm sp m) := PlO.below h ((Below.refl _ _).alloc (Nat.le_refl _) o)
theorem PlO.drewN {W : World} {M : Col → Pc} {x pm sp : Nat} {m : Pm} (h : Hid (PlO W M x pm sp m)) (n : Nat) : Hid (PlO (W.drewN n) M x pm sp m) := dhid ⟨stt_drewN n h.out.1, h.out.2⟩
theorem PlO.drew {W : World} {M : Col → Pc} {x pm sp : Nat} {m : Pm} (h : Hid (PlO W M x pm sp m)) : Hid (PlO W.drew M x pm sp m) := dhid ⟨stt_drew h.out.1, h.out.2⟩
theorem PlO.len {W : World} {M : Col → Pc} {x pm sp : Nat} {m : Pm} (h : Hid (PlO W M x pm sp m)) : m.dat.length = 256 := h.out.2.1
theorem PlO.frz {W : World} {M : Col → Pc} {x pm sp : Nat} {m : Pm} (h : Hid (PlO W M x pm sp m)) (i : Nat) : W.frozen? ⟨pm, i, none⟩ = false := by
  obtain ⟨hS, hd, go, cap, full, h0, _⟩ := h.out
  exact obj_frozen (stt_obj hS h0) i
theorem PlO.csp {W : World} {M : Col → Pc} {x pm sp : Nat} {m : Pm} (h : Hid (PlO W M x pm sp m)) : W.cell? ⟨pm, 0, none⟩ = some (.int .u32 (sp : Int)) := by
  obtain ⟨hS, hd, go, cap, full, h0, _⟩ := h.out
  exact stt_cell hS h0 0 _ rfl
theorem PlO.cpc {W : World} {M : Col → Pc} {x pm sp : Nat} {m : Pm} (h : Hid (PlO W M x pm sp m)) : W.cell? ⟨pm, 258, none⟩ = some (.int .u32 (m.pc : Int)) := by
  obtain ⟨hS, hd, go, cap, full, h0, _⟩ := h.out
  exact stt_cell hS h0 _ _ (plC_pc _ _ _ _ hd)
theorem PlO.cbd {W : World} {M : Col → Pc} {x pm sp : Nat} {m : Pm} (h : Hid (PlO W M x pm sp m)) : W.cell? ⟨pm, 259, none⟩ = some (.bool m.bad) := by
  obtain ⟨hS, hd, go, cap, full, h0, _⟩ := h.out
  exact stt_cell hS h0 _ _ (plC_bd _ _ _ _ hd)
theorem PlO.cdat {W : World} {M : Col → Pc} {x pm sp : Nat} {m : Pm} (h : Hid (PlO W M x pm sp m)) (k : Nat) (hk : k < 256) : W.cell? ⟨pm, 2 + k, none⟩ = some (.int .u8 ((m.dat.getD k 0 : Nat) : Int)) := by
  obtain ⟨hS, hd, go, cap, full, h0, _⟩ := h.out
  exact stt_cell hS h0 _ _ (plC_d _ _ _ _ (by rw [hd]; exact hk))
theorem PlO.new {W W' : World} {M : Col → Pc} {x pm sp : Nat} {m : Pm} {c : Col} {p : Pc} (h : Hid (PlO W M x pm sp m)) (hb : Below W.heap.size W W') (hp : p.h (fun k => W.heap.size ≤ k) W') (h0 : (x, 0) ≠ c) (h1 : (x, 1) ≠ c) : Hid (PlO W' (upd M c p) x pm sp m) := by
  obtain ⟨hS, hd, go, cap, full, e0, e1, e2, e3⟩ := h.out
  exact dhid ⟨stt_new hS hb hp, hd, go, cap, full, (upd_ne h0).trans e0, (upd_ne h1).trans e1, e2, e3⟩
theorem PlO.objAt {W : World} {M : Col → Pc} {x pm sp o : Nat} {m : Pm} {c : Col} {cs : Array Value} {t : TypeId} (h : Hid (PlO W M x pm sp m)) (hc : M c = objP o cs t) : W.heap[o]? = some (.cells cs t (0, 0)) := stt_obj h.out.1 hc
theorem PlO.drop {W : World} {M M' : Col → Pc} {x pm sp : Nat} {m : Pm} (h : Hid (PlO W M x pm sp m)) (hd : ∀ d, M' d = M d ∨ M' d = noP) (h0 : M' (x, 0) = M (x, 0)) (h1 : M' (x, 1) = M (x, 1)) : Hid (PlO W M' x pm sp m) := by
  obtain ⟨hS, hd2, go, cap, full, e0, e1, e2, e3⟩ := h.out
  exact dhid ⟨stt_drop hS hd, hd2, go, cap, full, h0.trans e0, h1.trans e1, e2, e3⟩
/-- the place, and the mark of what is bad, are written -/
theorem PlO.setpc {W : World} {M : Col → Pc} {x pm sp : Nat} {m : Pm} (h : Hid (PlO W M x pm sp m)) (p : Nat) : ∃ M', Hid (PlO (W.setCell ⟨pm, 258, none⟩ (.int .u32 (p : Int))) M' x pm sp ⟨m.ops, m.dat, p, m.bad⟩) ∧ Kx x M M' := by
  obtain ⟨hS, hd, go, cap, full, h0, h1, h2, h3⟩ := h.out
  exact ⟨_, dhid ⟨stt_set hS h0 _ (plS_pc _ _ _ _ _ hd), hd, go, cap, full, upd_eq _ _ _, (upd_ne (by simp)).trans h1, h2, h3⟩, fun d d0 _ => upd_ne d0⟩
theorem PlO.setbd {W : World} {M : Col → Pc} {x pm sp : Nat} {m : Pm} (h : Hid (PlO W M x pm sp m)) (b : Bool) : ∃ M', Hid (PlO (W.setCell ⟨pm, 259, none⟩ (.bool b)) M' x pm sp ⟨m.ops, m.dat, m.pc, b⟩) ∧ Kx x M M' := by
  obtain ⟨hS, hd, go, cap, full, h0, h1, h2, h3⟩ := h.out
  exact ⟨_, dhid ⟨stt_set hS h0 _ (plS_bd _ _ _ _ _ hd), hd, go, cap, full, upd_eq _ _ _, (upd_ne (by simp)).trans h1, h2, h3⟩, fun d d0 _ => upd_ne d0⟩
theorem xload {W : World} {M : Col → Pc} {x pm sp : Nat} {m : Pm} (h : Hid (PlO W M x pm sp m)) (at_ n : Nat) (hb : ∀ k, m.dat.getD k 0 < 256) (hn : n ≤ 4) :
    Calls Try.prog 18 #[.pointer (some ⟨pm, 0, none⟩), .int .u32 (at_ : Int), .int .i64 (n : Int)] W fun e w' => e = .returned (.int .u32 (ldV m.dat at_ n : Nat)) ∧ Hid (PlO w' M x pm sp m) ∧ Below W.heap.size W w' :=
  (pload_any pm at_ n m.dat W (fun k hk => PlO.cdat h k hk) hn hb).mono fun e w' ⟨he, k, hw⟩ => ⟨he, by subst hw; exact PlO.drewN h k, by subst hw; exact ⟨rfl, rfl, rfl, Nat.le_refl _, fun _ _ => rfl⟩⟩
theorem xstore {W : World} {M : Col → Pc} {x pm sp : Nat} {m : Pm} (h : Hid (PlO W M x pm sp m)) (at_ v n : Nat) (hv : v < 4294967296) (hn : n ≤ 4) :
    Calls Try.prog 17 #[.pointer (some ⟨pm, 0, none⟩), .int .u32 (at_ : Int), .int .u32 (v : Int), .int .i64 (n : Int)] W fun e w' => e = .returned (.tuple #[]) ∧ ∃ M', Hid (PlO w' M' x pm sp ⟨m.ops, stV n m.dat at_ v, m.pc, m.bad⟩) ∧ Kx x M M' := by
  obtain ⟨hS, hd, go, cap, full, h0, h1, h2, h3⟩ := h.out
  refine (pstore_any x pm sp at_ v n _ m.dat m.pc m.bad W M hS hd h0 hv hn).mono ?_
  rintro e w' ⟨rfl, hs⟩
  refine ⟨rfl, _, dhid ⟨hs.out, ?_, go, cap, full, upd_eq _ _ _, (upd_ne (by simp)).trans h1, h2, h3⟩, fun d d0 _ => upd_ne d0⟩
  have hl : ∀ n (D : List Nat) a v, (stV n D a v).length = D.length := by
    intro n
    induction n with
    | zero => intros; rfl
    | succ n ih => intro D a v; rw [stV, ih, List.length_set]
  show (stV n m.dat at_ v).length = 256
  rw [hl, hd]
/-- what the words and bytes may be -/
structure Bd (m : Pm) : Prop where
  ops : ∀ x ∈ m.ops, x < 4294967296
  dat : ∀ k, m.dat.getD k 0 < 256
  pc : m.pc < 4294967296
theorem Bd.last {m : Pm} (h : Bd m) : m.ops.getLastD 0 < 4294967296 := by
  by_cases e : m.ops = []
  · rw [e]; decide
  · rw [List.getLastD_eq_getLast?, List.getLast?_eq_some_getLast e]; exact h.ops _ (List.getLast_mem e)
theorem Bd.cut {m : Pm} (h : Bd m) (pc : Nat) (hp : pc < 4294967296) (b : Bool) : Bd ⟨m.ops.dropLast, m.dat, pc, b⟩ := ⟨fun x hx => h.ops x (List.dropLast_subset _ hx), h.dat, hp⟩
theorem Bd.snoc {m : Pm} (h : Bd m) (v : Nat) (hv : v < 4294967296) : Bd ⟨m.ops ++ [v], m.dat, m.pc, m.bad⟩ := ⟨fun x hx => by rcases List.mem_append.1 hx with hx | hx; exact h.ops x hx; rw [List.mem_singleton.1 hx]; exact hv, h.dat, h.pc⟩
theorem stV_bd : ∀ n (D : List Nat) a v, (∀ k, D.getD k 0 < 256) → ∀ k, (stV n D a v).getD k 0 < 256
  | 0, D, _, _, h, k => h k
  | n + 1, D, a, v, h, k => stV_bd n _ _ _ (fun j => by
      rw [List.getD_eq_getElem?_getD, List.getElem?_set]
      split
      · split
        · exact Nat.mod_lt _ (by decide)
        · decide
      · rw [← List.getD_eq_getElem?_getD]; exact h j) k
theorem ldV_lt (D : List Nat) (a n : Nat) : ldV D a n < 4294967296 := ldL_lt D a n 0 (by decide)
/-- a machine, with two things of the call's own beside it -/
def XS (W : World) (M : Col → Pc) (x pm sp : Nat) (m : Pm) (p0 p1 : Pc) : Prop :=
  ∃ M4, Hid (PlO W M4 x pm sp m) ∧ M4 (9, 0) = p0 ∧ M4 (9, 1) = p1 ∧ (∀ d : Col, d.1 ≠ 9 → d ≠ (x, 0) → d ≠ (x, 1) → M4 d = M d)
theorem XS.begin {W : World} {M : Col → Pc} {x pm sp : Nat} {m : Pm} (h : Hid (PlO W M x pm sp m)) (hM : ∀ k, M (9, k) = noP) : XS W M x pm sp m noP noP := ⟨M, h, hM 0, hM 1, fun _ _ _ _ => rfl⟩
theorem XS.fin {W : World} {M : Col → Pc} {x pm sp : Nat} {m : Pm} {p0 p1 : Pc} (h : XS W M x pm sp m p0 p1) (hx : x ≠ 9) (hM : ∀ k, M (9, k) = noP) : ∃ M', Hid (PlO W M' x pm sp m) ∧ Kx x M M' := by
  obtain ⟨M4, h4, _, _, k⟩ := h
  refine ⟨fun d => if d.1 = 9 then noP else M4 d, PlO.drop h4 (fun d => ?_) (if_neg hx) (if_neg hx), fun d d0 d1 => ?_⟩
  · by_cases e : d.1 = 9
    · exact .inr (if_pos e)
    · exact .inl (if_neg e)
  · by_cases e : d.1 = 9
    · obtain ⟨a, b⟩ := d
      simp only at e
      subst e
      exact (if_pos rfl).trans (hM b).symm
    · exact (if_neg e).trans (k d e d0 d1)
theorem XS.new0 {W W' : World} {M : Col → Pc} {x pm sp : Nat} {m : Pm} {p0 p1 p : Pc} (h : XS W M x pm sp m p0 p1) (hx : x ≠ 9) (hb : Below W.heap.size W W') (hp : p.h (fun k => W.heap.size ≤ k) W') : XS W' M x pm sp m p p1 := by
  obtain ⟨M4, h4, e0, e1, k⟩ := h
  exact ⟨_, PlO.new (c := (9, 0)) h4 hb hp (by simp [hx]) (by simp [hx]), upd_eq _ _ _, (upd_ne (by simp)).trans e1, fun d d9 d0 d1 => (upd_ne (fun e => d9 (by rw [e]))).trans (k d d9 d0 d1)⟩
theorem XS.new1 {W W' : World} {M : Col → Pc} {x pm sp : Nat} {m : Pm} {p0 p1 p : Pc} (h : XS W M x pm sp m p0 p1) (hx : x ≠ 9) (hb : Below W.heap.size W W') (hp : p.h (fun k => W.heap.size ≤ k) W') : XS W' M x pm sp m p0 p := by
  obtain ⟨M4, h4, e0, e1, k⟩ := h
  exact ⟨_, PlO.new (c := (9, 1)) h4 hb hp (by simp [hx]) (by simp [hx]), (upd_ne (by simp)).trans e0, upd_eq _ _ _, fun d d9 d0 d1 => (upd_ne (fun e => d9 (by rw [e]))).trans (k d d9 d0 d1)⟩
theorem XS.go {W' : World} {M : Col → Pc} {x pm sp : Nat} {m' : Pm} {p0 p1 : Pc} (hx : x ≠ 9) {M4 M5 : Col → Pc} (h5 : Hid (PlO W' M5 x pm sp m')) (hk : Kx x M4 M5) (e0 : M4 (9, 0) = p0) (e1 : M4 (9, 1) = p1) (k : ∀ d : Col, d.1 ≠ 9 → d ≠ (x, 0) → d ≠ (x, 1) → M4 d = M d) : XS W' M x pm sp m' p0 p1 :=
  ⟨M5, h5, (hk _ (by simp [Ne.symm hx]) (by simp [Ne.symm hx])).trans e0, (hk _ (by simp [Ne.symm hx]) (by simp [Ne.symm hx])).trans e1, fun d d9 d0 d1 => (hk d d0 d1).trans (k d d9 d0 d1)⟩
theorem XS.below {W W' : World} {M : Col → Pc} {x pm sp : Nat} {m : Pm} {p0 p1 : Pc} (h : XS W M x pm sp m p0 p1) (hb : Below W.heap.size W W') : XS W' M x pm sp m p0 p1 := by
  obtain ⟨M4, h4, e⟩ := h
  exact ⟨M4, PlO.below h4 hb, e⟩
theorem XS.pl {W : World} {M : Col → Pc} {x pm sp : Nat} {m : Pm} {p0 p1 : Pc} (h : XS W M x pm sp m p0 p1) : ∃ M4, Hid (PlO W M4 x pm sp m) := by
  obtain ⟨M4, h4, _⟩ := h
  exact ⟨M4, h4⟩
theorem XS.c0 {W : World} {M : Col → Pc} {x pm sp o : Nat} {m : Pm} {p1 : Pc} {cs : Array Value} {t : TypeId} (h : XS W M x pm sp m (objP o cs t) p1) : W.heap[o]? = some (.cells cs t (0, 0)) := by
  obtain ⟨M4, h4, e0, _⟩ := h
  exact PlO.objAt h4 e0
theorem XS.c1 {W : World} {M : Col → Pc} {x pm sp o : Nat} {m : Pm} {p0 : Pc} {cs : Array Value} {t : TypeId} (h : XS W M x pm sp m p0 (objP o cs t)) : W.heap[o]? = some (.cells cs t (0, 0)) := by
  obtain ⟨M4, h4, _, e1, _⟩ := h
  exact PlO.objAt h4 e1
theorem XS.setpc {W : World} {M : Col → Pc} {x pm sp : Nat} {m : Pm} {p0 p1 : Pc} (h : XS W M x pm sp m p0 p1) (hx : x ≠ 9) (p : Nat) : XS (W.setCell ⟨pm, 258, none⟩ (.int .u32 (p : Int))) M x pm sp ⟨m.ops, m.dat, p, m.bad⟩ p0 p1 := by
  obtain ⟨M4, h4, e0, e1, k⟩ := h
  obtain ⟨M5, h5, hk⟩ := PlO.setpc h4 p
  exact XS.go hx h5 hk e0 e1 k
theorem XS.setbd {W : World} {M : Col → Pc} {x pm sp : Nat} {m : Pm} {p0 p1 : Pc} (h : XS W M x pm sp m p0 p1) (hx : x ≠ 9) (b : Bool) : XS (W.setCell ⟨pm, 259, none⟩ (.bool b)) M x pm sp ⟨m.ops, m.dat, m.pc, b⟩ p0 p1 := by
  obtain ⟨M4, h4, e0, e1, k⟩ := h
  obtain ⟨M5, h5, hk⟩ := PlO.setbd h4 b
  exact XS.go hx h5 hk e0 e1 k
theorem XS.push {W : World} {M : Col → Pc} {x pm sp : Nat} {m : Pm} {p0 p1 : Pc} (h : XS W M x pm sp m p0 p1) (hx : x ≠ 9) (v : Nat) (hb : m.ops.length ≤ 35184372088800) :
    Calls Try.prog 16 #[.pointer (some ⟨pm, 0, none⟩), .int .u32 v] W fun e w' => e = .returned (.tuple #[]) ∧ Hid (XS w' M x pm sp ⟨m.ops ++ [v], m.dat, m.pc, m.bad⟩ p0 p1) := by
  obtain ⟨M4, h4, e0, e1, k⟩ := h
  exact (xpush h4 v hb).mono fun e w' ⟨he, M5, h5, hk⟩ => ⟨he, dhid (XS.go hx h5 hk e0 e1 k)⟩
theorem XS.pop {W : World} {M : Col → Pc} {x pm sp : Nat} {m : Pm} {p0 p1 : Pc} (h : XS W M x pm sp m p0 p1) (hx : x ≠ 9) (hp : 0 < m.ops.length) (hb : m.ops.length ≤ 35184372088800) :
    Calls Try.prog 7 #[.pointer (some ⟨pm, 0, none⟩)] W fun e w' => e = .returned (.int .u32 (m.ops.getLastD 0 : Nat)) ∧ Hid (XS w' M x pm sp ⟨m.ops.dropLast, m.dat, m.pc, m.bad⟩ p0 p1) := by
  obtain ⟨M4, h4, e0, e1, k⟩ := h
  exact (xpop h4 hp hb).mono fun e w' ⟨he, M5, h5, hk⟩ => ⟨he, dhid (XS.go hx h5 hk e0 e1 k)⟩
theorem XS.store {W : World} {M : Col → Pc} {x pm sp : Nat} {m : Pm} {p0 p1 : Pc} (h : XS W M x pm sp m p0 p1) (hx : x ≠ 9) (at_ v n : Nat) (hv : v < 4294967296) (hn : n ≤ 4) :
    Calls Try.prog 17 #[.pointer (some ⟨pm, 0, none⟩), .int .u32 (at_ : Int), .int .u32 (v : Int), .int .i64 (n : Int)] W fun e w' => e = .returned (.tuple #[]) ∧ Hid (XS w' M x pm sp ⟨m.ops, stV n m.dat at_ v, m.pc, m.bad⟩ p0 p1) := by
  obtain ⟨M4, h4, e0, e1, k⟩ := h
  exact (xstore h4 at_ v n hv hn).mono fun e w' ⟨he, M5, h5, hk⟩ => ⟨he, dhid (XS.go hx h5 hk e0 e1 k)⟩
theorem XS.load {W : World} {M : Col → Pc} {x pm sp : Nat} {m : Pm} {p0 p1 : Pc} (h : XS W M x pm sp m p0 p1) (at_ n : Nat) (hb : ∀ k, m.dat.getD k 0 < 256) (hn : n ≤ 4) :
    Calls Try.prog 18 #[.pointer (some ⟨pm, 0, none⟩), .int .u32 (at_ : Int), .int .i64 (n : Int)] W fun e w' => e = .returned (.int .u32 (ldV m.dat at_ n : Nat)) ∧ Hid (XS w' M x pm sp m p0 p1) := by
  obtain ⟨M4, h4, e0, e1, k⟩ := h
  exact (xload h4 at_ n hb hn).mono fun e w' ⟨he, h5, _⟩ => ⟨he, dhid ⟨M4, h5, e0, e1, k⟩⟩
theorem szM_le (op : Nat) : szM op ≤ 4 := by unfold szM; split; decide; split <;> decide
theorem XS.gw {W : World} {M : Col → Pc} {x pm sp b op arg : Nat} {m : Pm} {t : TypeId} {p1 : Pc} (h : XS W M x pm sp m (objP b #[.int .u8 (op : Int), .int .u32 (arg : Int)] t) p1) :
    ∀ w', Below W.heap.size W w' → w'.cell? ⟨pm, 0, none⟩ = some (.int .u32 (sp : Int)) ∧ w'.cell? ⟨b, 0, none⟩ = some (.int .u8 (op : Int)) ∧ w'.cell? ⟨b, 1, none⟩ = some (.int .u32 (arg : Int)) := fun w' hb => by
  have h2 := h.below hb
  obtain ⟨_, q⟩ := h2.pl
  exact ⟨PlO.csp q, obj_cell h2.c0 0, obj_cell h2.c0 1⟩
theorem XS.gw1 {W : World} {M : Col → Pc} {x pm sp b op arg : Nat} {m : Pm} {t : TypeId} {p1 : Pc} (h : XS W M x pm sp m (objP b #[.int .u8 (op : Int), .int .u32 (arg : Int)] t) p1) :
    W.cell? ⟨b, 0, none⟩ = some (.int .u8 (op : Int)) ∧ W.cell? ⟨b, 1, none⟩ = some (.int .u32 (arg : Int)) := (h.gw W (Below.refl _ _)).2
theorem XS.mcells {W : World} {M : Col → Pc} {x pm sp : Nat} {m : Pm} {p0 p1 : Pc} (h : XS W M x pm sp m p0 p1) :
    W.cell? ⟨pm, 258, none⟩ = some (.int .u32 (m.pc : Int)) ∧ W.frozen? ⟨pm, 258, none⟩ = false ∧ W.cell? ⟨pm, 259, none⟩ = some (.bool m.bad) ∧ W.frozen? ⟨pm, 259, none⟩ = false := by
  obtain ⟨_, q⟩ := h.pl
  exact ⟨PlO.cpc q, PlO.frz q 258, PlO.cbd q, PlO.frz q 259⟩
end Go.Proofs.Ytonmoidalkcmoaa
