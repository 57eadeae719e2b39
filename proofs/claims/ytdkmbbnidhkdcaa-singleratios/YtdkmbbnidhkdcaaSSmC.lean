import Derived.Test.YtdkmbbnidhkdcaaSSmB0
import Derived.Test.YtdkmbbnidhkdcaaSSmB1
import Derived.Test.YtdkmbbnidhkdcaaSSmB2
import Derived.Test.YtdkmbbnidhkdcaaSSmB3
import Derived.Test.YtdkmbbnidhkdcaaSSmB4
import Derived.Test.YtdkmbbnidhkdcaaSSmB5
import Derived.Test.YtdkmbbnidhkdcaaSSmB6
import Derived.Test.YtdkmbbnidhkdcaaSSmB7
namespace Go.Proofs.Ytdkmbbnidhkdcaa
open Go.RowKit

abbrev vN : Value := .agg #[.int .u8 1, .bool false, .int .u64 0, .int .i64 0]
abbrev vE (m : Bool) : Value := .agg #[.int .u8 2, .bool m, .int .u64 0, .int .i64 0]
abbrev vF (m : Bool) (n p : Int) : Value := .agg #[.int .u8 3, .bool m, .int .u64 n, .int .i64 p]
set_option maxRecDepth 100000 in
set_option maxHeartbeats 4000000 in
theorem sm_n1 (sb : Int) (mb : Bool) (nb pb : Int) (w : World) :
    Calls Try.prog 20 #[.agg #[.int .i64 24, .int .i64 (-149), .int .i64 104], .agg #[.int .u8 1, .bool false, .int .u64 0, .int .i64 0], .agg #[.int .u8 sb, .bool mb, .int .u64 nb, .int .i64 pb]] w fun e w' => e = .returned vN ∧ Below w.heap.size w w' := by
  go_enter Try.func20, Try.ntmps20
  go_wp2_with (go_at_call 32; refine (vnone_any _).mono ?_; rintro e wq ⟨rfl, hq⟩; subst wq)
  refine bodyPost_ret (v := vN) (by simp [results, Try.f20, go_sem]) rfl ?_
  exact ⟨rfl, by repeat (first | exact Below.refl _ _ | refine bel ?_ | refine Below.drew ?_)⟩
set_option maxRecDepth 100000 in
set_option maxHeartbeats 4000000 in
theorem sm_n2 (sa : Int) (ma : Bool) (na pa : Int) (w : World) (h : (sa == 1) = false) :
    Calls Try.prog 20 #[.agg #[.int .i64 24, .int .i64 (-149), .int .i64 104], .agg #[.int .u8 sa, .bool ma, .int .u64 na, .int .i64 pa], .agg #[.int .u8 1, .bool false, .int .u64 0, .int .i64 0]] w fun e w' => e = .returned vN ∧ Below w.heap.size w w' := by
  go_enter Try.func20, Try.ntmps20
  go_wp2_with (go_at_call 32; refine (vnone_any _).mono ?_; rintro e wq ⟨rfl, hq⟩; subst wq)
  refine bodyPost_ret (v := vN) (by simp [results, Try.f20, go_sem]) rfl ?_
  exact ⟨rfl, by repeat (first | exact Below.refl _ _ | refine bel ?_ | refine Below.drew ?_)⟩
set_option maxRecDepth 100000 in
set_option maxHeartbeats 4000000 in
theorem sm_ef (ma mb : Bool) (nb pb : Int) (w : World) :
    Calls Try.prog 20 #[.agg #[.int .i64 24, .int .i64 (-149), .int .i64 104], .agg #[.int .u8 2, .bool ma, .int .u64 0, .int .i64 0], .agg #[.int .u8 3, .bool mb, .int .u64 nb, .int .i64 pb]] w fun e w' => e = .returned (vE ma) ∧ Below w.heap.size w w' := by
  go_enter Try.func20, Try.ntmps20
  go_wp2
  refine bodyPost_ret (v := vE ma) (by simp [results, Try.f20, go_sem]) rfl ?_
  exact ⟨rfl, by repeat (first | exact Below.refl _ _ | refine bel ?_ | refine Below.drew ?_)⟩
set_option maxRecDepth 100000 in
set_option maxHeartbeats 4000000 in
theorem sm_fe (ma mb : Bool) (na pa : Int) (w : World) :
    Calls Try.prog 20 #[.agg #[.int .i64 24, .int .i64 (-149), .int .i64 104], .agg #[.int .u8 3, .bool ma, .int .u64 na, .int .i64 pa], .agg #[.int .u8 2, .bool mb, .int .u64 0, .int .i64 0]] w fun e w' => e = .returned (vE mb) ∧ Below w.heap.size w w' := by
  go_enter Try.func20, Try.ntmps20
  go_wp2
  refine bodyPost_ret (v := vE mb) (by simp [results, Try.f20, go_sem]) rfl ?_
  exact ⟨rfl, by repeat (first | exact Below.refl _ _ | refine bel ?_ | refine Below.drew ?_)⟩
set_option maxRecDepth 100000 in
set_option maxHeartbeats 4000000 in
theorem sm_ee (ma : Bool) (w : World) :
    Calls Try.prog 20 #[.agg #[.int .i64 24, .int .i64 (-149), .int .i64 104], .agg #[.int .u8 2, .bool ma, .int .u64 0, .int .i64 0], .agg #[.int .u8 2, .bool ma, .int .u64 0, .int .i64 0]] w fun e w' => e = .returned (vE ma) ∧ Below w.heap.size w w' := by
  go_enter Try.func20, Try.ntmps20
  go_wp2
  refine bodyPost_ret (v := vE ma) (by simp [results, Try.f20, go_sem]) rfl ?_
  exact ⟨rfl, by repeat (first | exact Below.refl _ _ | refine bel ?_ | refine Below.drew ?_ | refine bt3 ?_)⟩
set_option maxRecDepth 100000 in
set_option maxHeartbeats 4000000 in
theorem sm_en (ma mb : Bool) (hmm : (ma == mb) = false) (w : World) :
    Calls Try.prog 20 #[.agg #[.int .i64 24, .int .i64 (-149), .int .i64 104], .agg #[.int .u8 2, .bool ma, .int .u64 0, .int .i64 0], .agg #[.int .u8 2, .bool mb, .int .u64 0, .int .i64 0]] w fun e w' => e = .returned vN ∧ Below w.heap.size w w' := by
  have hm2 : (ma != mb) = true := by simp [bne, hmm]
  go_enter Try.func20, Try.ntmps20
  go_wp2_with (go_at_call 32; refine (vnone_any _).mono ?_; rintro e wq ⟨rfl, hq⟩; subst wq)
  refine bodyPost_ret (v := vN) (by simp [results, Try.f20, go_sem]) rfl ?_
  exact ⟨rfl, by repeat (first | exact Below.refl _ _ | refine bel ?_ | refine Below.drew ?_ | refine bt3 ?_)⟩
end Go.Proofs.Ytdkmbbnidhkdcaa
