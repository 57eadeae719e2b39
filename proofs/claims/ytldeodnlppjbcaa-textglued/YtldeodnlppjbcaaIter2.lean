import Derived.Test.YtldeodnlppjbcaaIter
namespace Go.Proofs.Ytldeodnlppjbcaa
open Go.RowKit Go.Shelf
attribute [local go_sem] Oper.semAt_some

set_option maxHeartbeats 1000000 in
theorem runes_in (n : Nat) (s : ByteArray) (w : World) :
    CallsIn Fence.wide n Try.prog 37 #[.string s] w fun e w' => e = .returned (.func (.func 54) #[] #[.pointer (some ⟨w.heap.size, 0, none⟩)]) ∧ w' = w.alloc (.cells #[.string s] 9) := by
  refine callsIn_of_wp Try.func37 rfl trivial ?_ rfl
  simp only [Try.ntmps37, List.size_toArray, List.length_cons, List.length_nil, Nat.reduceAdd, Nat.reduceSub, Array.replicate_succ, Array.replicate_zero, List.push_toArray, List.append_toArray, List.nil_append, List.cons_append]
  gi_wp2
  go_ret
  exact ⟨rfl, rfl⟩

theorem runes_stops (n : Nat) (hn : 1 ≤ n) (Bs : Nat) (s : ByteArray) (w : World) (hc : Boxed w Bs 9 (.string s)) :
    SeqStopsK Fence.wide n Try.prog 54 #[.pointer (some ⟨Bs, 0, none⟩)] (encs (s := s)) (Kp Bs s) (fun ys => ys = cuts s) (fun pre => pre <+: cuts s) s.size w :=
  fun l J Jx W hW hJ _ hY h0 => runes1_in n hn l Bs s J Jx W hJ hY ((hW.block Bs hc.lt).trans hc) h0

theorem kp_set {Bs : Nat} {s : ByteArray} (W : World) (b : Nat) (u : Value) (h : Bs ≠ b) : Kp Bs s W (W.setCell ⟨b, 0, none⟩ u) :=
  ⟨fun x => x.other h u, KeepsWalks.setCell W _ u⟩
theorem kp_refl (Bs : Nat) (s : ByteArray) (W : World) : Kp Bs s W W := ⟨id, KeepsWalks.refl W⟩
end Go.Proofs.Ytldeodnlppjbcaa
