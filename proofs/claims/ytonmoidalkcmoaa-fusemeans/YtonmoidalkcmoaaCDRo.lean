import Derived.Test.YtonmoidalkcmoaaCPKp
import Derived.Test.YtonmoidalkcmoaaCAHo
import Derived.Test.YtonmoidalkcmoaaCIInf
namespace Go.Proofs.Ytonmoidalkcmoaa
set_option maxHeartbeats 4000000
open Go.RowKit Go.WideShapes
set_option maxRecDepth 100000
theorem dhid {p : Prop} (h : p) : Hid p := h
/-- a row of words in memory: 64 places and how many stand -/
structure RoS (b : Nat) (w : World) (ws : List Nat) : Prop where
  obj : ∃ cs : Array Value, w.heap[b]? = some (.cells cs 112 (0, 0)) ∧ cs.size = 65 ∧ cs[64]? = some (.int .i64 (ws.length : Int)) ∧ (∀ i, i < ws.length → cs[i]? = some (.int .u32 ((ws.getD i 0 : Nat) : Int)))
  le : ws.length ≤ 64
  bd : ∀ x ∈ ws, x < 4294967296
theorem RoS.lt {b : Nat} {w : World} {ws : List Nat} (h : RoS b w ws) : b < w.heap.size := by
  obtain ⟨cs, h1, _⟩ := h.obj
  exact (Array.getElem?_eq_some_iff.1 h1).1
theorem RoS.cnt {b : Nat} {w : World} {ws : List Nat} (h : RoS b w ws) : w.cell? ⟨b, 64, none⟩ = some (.int .i64 (ws.length : Int)) := by
  obtain ⟨cs, h1, _, h3, _⟩ := h.obj
  rw [obj_cell h1]; exact h3
theorem RoS.frz {b : Nat} {w : World} {ws : List Nat} (h : RoS b w ws) (i : Nat) : w.frozen? ⟨b, i, none⟩ = false := by
  obtain ⟨cs, h1, _⟩ := h.obj
  exact obj_frozen h1 i
theorem RoS.wd {b : Nat} {w : World} {ws : List Nat} (h : RoS b w ws) {i : Nat} (hi : i < ws.length) : w.cell? ⟨b, i, none⟩ = some (.int .u32 ((ws.getD i 0 : Nat) : Int)) := by
  obtain ⟨cs, h1, _, _, h4⟩ := h.obj
  rw [obj_cell h1]; exact h4 i hi
theorem RoS.there {b : Nat} {w : World} {ws : List Nat} (h : RoS b w ws) {i : Nat} (hi : i < 65) : ∃ v, w.cell? ⟨b, i, none⟩ = some v := by
  obtain ⟨cs, h1, h2, _⟩ := h.obj
  exact ⟨cs[i]'(by omega), by rw [obj_cell h1]; exact Array.getElem?_eq_getElem (by omega)⟩
theorem RoS.kept {b : Nat} {w w' : World} {ws : List Nat} (h : RoS b w ws) {S : Nat → Prop} (hk : Kp S w w') (hn : ¬ S b) : RoS b w' ws := by
  obtain ⟨cs, h1, h2⟩ := h.obj
  exact ⟨⟨cs, (hk.block b h.lt hn).trans h1, h2⟩, h.le, h.bd⟩
theorem getD_app_lt {ws : List Nat} {x i : Nat} (h : i < ws.length) : (ws ++ [x]).getD i 0 = ws.getD i 0 := by
  simp [List.getD, List.getElem?_append_left h]
theorem getD_app_eq (ws : List Nat) (x : Nat) : (ws ++ [x]).getD ws.length 0 = x := by
  simp [List.getD]
/-- a word is put on -/
theorem RoS.put {b : Nat} {w : World} {ws : List Nat} (h : RoS b w ws) {x : Nat} (hx : x < 4294967296) (hl : ws.length < 64) :
    RoS b ((w.setCell ⟨b, ws.length, none⟩ (.int .u32 (x : Int))).setCell ⟨b, 64, none⟩ (.int .i64 ((ws.length : Int) + 1))) (ws ++ [x]) := by
  obtain ⟨cs, h1, h2, h3, h4⟩ := h.obj
  have e1 := heap_setCell_same w b ws.length _ _ (.int .u32 (x : Int)) h1
  have e2 := heap_setCell_same _ b 64 _ _ (.int .i64 ((ws.length : Int) + 1)) e1
  refine ⟨⟨_, e2, by simp [h2], ?_, ?_⟩, by simp; omega, ?_⟩
  · rw [Array.getElem?_setIfInBounds_self_of_lt (by simp [h2])]
    simp
  · intro i hi
    simp only [List.length_append, List.length_cons, List.length_nil] at hi
    rw [Array.getElem?_setIfInBounds_ne (by omega)]
    by_cases hlt : i < ws.length
    · rw [Array.getElem?_setIfInBounds_ne (by omega), getD_app_lt hlt]
      exact h4 i hlt
    · have : i = ws.length := by omega
      subst this
      rw [Array.getElem?_setIfInBounds_self_of_lt (by omega), getD_app_eq]
  · intro y hy
    rw [List.mem_append, List.mem_singleton] at hy
    rcases hy with hy | rfl
    · exact h.bd y hy
    · exact hx
/-- a word is taken -/
theorem RoS.drop {b : Nat} {w : World} {ws : List Nat} {x : Nat} (h : RoS b w (ws ++ [x])) :
    RoS b (w.setCell ⟨b, 64, none⟩ (.int .i64 (ws.length : Int))) ws := by
  obtain ⟨cs, h1, h2, h3, h4⟩ := h.obj
  have e1 := heap_setCell_same w b 64 _ _ (.int .i64 (ws.length : Int)) h1
  have hle := h.le
  simp only [List.length_append, List.length_cons, List.length_nil] at hle
  refine ⟨⟨_, e1, by simp [h2], ?_, ?_⟩, by omega, fun y hy => h.bd y (List.mem_append_left _ hy)⟩
  · rw [Array.getElem?_setIfInBounds_self_of_lt (by omega)]
  · intro i hi
    rw [Array.getElem?_setIfInBounds_ne (by omega), ← getD_app_lt (x := x) hi]
    exact h4 i (by simp; omega)
theorem RoS.drewN {b : Nat} {w : World} {ws : List Nat} (h : RoS b w ws) (n : Nat) : RoS b (w.drewN n) ws := ⟨h.obj, h.le, h.bd⟩
theorem RoS.drew {b : Nat} {w : World} {ws : List Nat} (h : RoS b w ws) : RoS b w.drew ws := ⟨h.obj, h.le, h.bd⟩
theorem push_any (b x : Nat) (w : World) (ws : List Nat) (h : RoS b w ws) (hx : x < 4294967296) (hl : ws.length < 64) :
    Calls Try.prog 73 #[.pointer (some ⟨b, 0, none⟩), .int .u32 (x : Int)] w fun e w' => e = .returned (.tuple #[]) ∧ RoS b w' (ws ++ [x]) ∧ Kp (fun k => k = b) w w' := by
  have c64 := h.cnt
  obtain ⟨v, cn⟩ := h.there (i := ws.length) (by omega)
  have f64 := h.frz 64
  have fn := h.frz ws.length
  have HP := dhid ((h.put hx hl).drew)
  have hd : decide ((ws.length : Int) < 64) = true := by simp; omega
  have hlt : (ws.length : Int) < 64 := by omega
  have hne : ¬ ws.length = 64 := by omega
  clear h
  generalize hn : ws.length = n at *
  go_enter Try.func73, Try.ntmps73
  go_wp2
  go_region
  go_wp2
  first | go_end0 | refine bodyPost_ret (results_none rfl _ _ _) rfl ?_
  refine ⟨rfl, ?_, ?_⟩
  · exact HP.out
  · exact ⟨rfl, rfl, rfl, by simp, fun k hk hn => (Below.heap_setCell _ _ _ _ hn).trans (Below.heap_setCell _ _ _ _ hn)⟩
theorem pop_any (b x : Nat) (w : World) (ws : List Nat) (h : RoS b w (ws ++ [x])) :
    Calls Try.prog 74 #[.pointer (some ⟨b, 0, none⟩)] w fun e w' => e = .returned (.int .u32 (x : Int)) ∧ RoS b w' ws ∧ Kp (fun k => k = b) w w' := by
  have c64 := h.cnt
  have hle := h.le
  rw [List.length_append, List.length_singleton] at c64 hle
  have cn := h.wd (i := ws.length) (by simp)
  rw [getD_app_eq] at cn
  have f64 := h.frz 64
  have HP := dhid (fun n => h.drop.drewN n)
  have hd : decide ((ws.length : Int) < 64) = true := by simp; omega
  have hlt : (ws.length : Int) < 64 := by omega
  have hne : ¬ ws.length = 64 := by omega
  have hne' : ¬ 64 = ws.length := by omega
  clear h
  generalize hn : ws.length = n at *
  go_enter Try.func74, Try.ntmps74
  go_wp2
  go_quiet (fail)
  go_wp2
  go_ret
  refine ⟨rfl, ?_, ?_⟩
  · exact HP.out _
  · exact ⟨rfl, rfl, rfl, by simp, fun k hk hn => Below.heap_setCell _ _ _ _ hn⟩
theorem pop2_any (b x y : Nat) (w : World) (ws : List Nat) (h : RoS b w (ws ++ [x] ++ [y])) :
    Calls Try.prog 72 #[.pointer (some ⟨b, 0, none⟩)] w fun e w' => e = .returned (.tuple #[.int .u32 (x : Int), .int .u32 (y : Int)]) ∧ RoS b w' ws ∧ Kp (fun k => k = b) w w' := by
  have H1 := dhid (pop_any b y w (ws ++ [x]) h)
  have H2 := dhid (fun w' => pop_any b x w' ws)
  clear h
  go_enter Try.func72, Try.ntmps72
  go_wp2_with (go_at_call 74; first | (refine H1.out.mono ?_; rintro e w1 ⟨rfl, h1, k1⟩) | (refine (H2.out _ h1).mono ?_; rintro e w2 ⟨rfl, h2, k2⟩))
  go_ret2
  exact ⟨rfl, h2, k1.trans k2 (fun _ _ e => e)⟩
/-- MATHEMATICS for FuseMeans: the statement's small machine -/
structure Pm where
  ops : List Nat
  dat : List Nat
  pc : Nat
  bad : Bool
def ldL (D : List Nat) (at_ : Nat) : Nat → Nat → Nat
  | 0, w => w
  | i + 1, w => ldL D at_ i ((w * 256 + D.getD ((at_ + i) % 256) 0) % 4294967296)
def ldV (D : List Nat) (at_ n : Nat) : Nat := ldL D at_ n 0
def stV : Nat → List Nat → Nat → Nat → List Nat
  | 0, D, _, _ => D
  | n + 1, D, at_, w => stV n (D.set (at_ % 256) (w % 256)) (at_ + 1) (w / 256)
def szM (op : Nat) : Nat := if op = 29 ∨ op = 32 then 1 else if op = 30 ∨ op = 33 then 2 else 4
end Go.Proofs.Ytonmoidalkcmoaa
