/- The reference's check of what is read from a well, way by way (part 1). -/
import Derived.Test.YtdjmidoegidlbaaKo0
namespace Go.Proofs.Ytdjmidoegidlbaa
open Go.RowKit

set_option maxRecDepth 100000 in
set_option maxHeartbeats 1000000 in
theorem rshut_1 (pl ph cl ch gl gh wt dp ar : Int)  (b : pl < 0) (w : World) :
    Calls Try.prog 74 #[.agg (xv pl ph cl ch gl gh wt dp ar)] w fun e w' => e = .returned (.int .i64 2) ∧ Below w.heap.size w w' := by
  go_enter Try.func74, Try.ntmps74
  go_wp2
  refine wp_loop_rounds 3 ?_
  rw [rounds_succ]
  go_wp2
  go_quiet (fail)
  go_wp2
  go_ret
  refine ⟨rfl, ?_⟩
  repeat (with_reducible refine dn ?_ _)
  go_grown
set_option maxRecDepth 100000 in
set_option maxHeartbeats 1000000 in
theorem rshut_2 (pl ph cl ch gl gh wt dp ar : Int) (t1 : 0 ≤ pl) (b : ph < pl) (w : World) :
    Calls Try.prog 74 #[.agg (xv pl ph cl ch gl gh wt dp ar)] w fun e w' => e = .returned (.int .i64 2) ∧ Below w.heap.size w w' := by
  go_enter Try.func74, Try.ntmps74
  go_wp2
  refine wp_loop_rounds 3 ?_
  rw [rounds_succ]
  go_wp2
  go_quiet (fail)
  go_wp2
  go_ret
  refine ⟨rfl, ?_⟩
  repeat (with_reducible refine dn ?_ _)
  go_grown
set_option maxRecDepth 100000 in
set_option maxHeartbeats 1000000 in
theorem rshut_3 (pl ph cl ch gl gh wt dp ar : Int) (t1 : 0 ≤ pl) (t2 : pl ≤ ph) (b : 68719476736 < ph) (w : World) :
    Calls Try.prog 74 #[.agg (xv pl ph cl ch gl gh wt dp ar)] w fun e w' => e = .returned (.int .i64 2) ∧ Below w.heap.size w w' := by
  go_enter Try.func74, Try.ntmps74
  go_wp2
  refine wp_loop_rounds 3 ?_
  rw [rounds_succ]
  go_wp2
  go_quiet (fail)
  go_wp2
  go_ret
  refine ⟨rfl, ?_⟩
  repeat (with_reducible refine dn ?_ _)
  go_grown
set_option maxRecDepth 100000 in
set_option maxHeartbeats 1000000 in
theorem rshut_4 (pl ph cl ch gl gh wt dp ar : Int) (t1 : 0 ≤ pl) (t2 : pl ≤ ph) (t3 : ph ≤ 68719476736) (b : cl < 0) (w : World) :
    Calls Try.prog 74 #[.agg (xv pl ph cl ch gl gh wt dp ar)] w fun e w' => e = .returned (.int .i64 2) ∧ Below w.heap.size w w' := by
  go_enter Try.func74, Try.ntmps74
  go_wp2
  refine wp_loop_rounds 3 ?_
  rw [rounds_succ]
  go_wp2
  go_quiet (fail)
  go_wp2
  rw [rounds_succ]
  go_wp2
  go_quiet (fail)
  go_wp2
  go_ret
  refine ⟨rfl, ?_⟩
  repeat (with_reducible refine dn ?_ _)
  go_grown
set_option maxRecDepth 100000 in
set_option maxHeartbeats 1000000 in
theorem rshut_5 (pl ph cl ch gl gh wt dp ar : Int) (t1 : 0 ≤ pl) (t2 : pl ≤ ph) (t3 : ph ≤ 68719476736) (t4 : 0 ≤ cl) (b : ch < cl) (w : World) :
    Calls Try.prog 74 #[.agg (xv pl ph cl ch gl gh wt dp ar)] w fun e w' => e = .returned (.int .i64 2) ∧ Below w.heap.size w w' := by
  go_enter Try.func74, Try.ntmps74
  go_wp2
  refine wp_loop_rounds 3 ?_
  rw [rounds_succ]
  go_wp2
  go_quiet (fail)
  go_wp2
  rw [rounds_succ]
  go_wp2
  go_quiet (fail)
  go_wp2
  go_ret
  refine ⟨rfl, ?_⟩
  repeat (with_reducible refine dn ?_ _)
  go_grown
set_option maxRecDepth 100000 in
set_option maxHeartbeats 1000000 in
theorem rshut_6 (pl ph cl ch gl gh wt dp ar : Int) (t1 : 0 ≤ pl) (t2 : pl ≤ ph) (t3 : ph ≤ 68719476736) (t4 : 0 ≤ cl) (t5 : cl ≤ ch) (b : 68719476736 < ch) (w : World) :
    Calls Try.prog 74 #[.agg (xv pl ph cl ch gl gh wt dp ar)] w fun e w' => e = .returned (.int .i64 2) ∧ Below w.heap.size w w' := by
  go_enter Try.func74, Try.ntmps74
  go_wp2
  refine wp_loop_rounds 3 ?_
  rw [rounds_succ]
  go_wp2
  go_quiet (fail)
  go_wp2
  rw [rounds_succ]
  go_wp2
  go_quiet (fail)
  go_wp2
  go_ret
  refine ⟨rfl, ?_⟩
  repeat (with_reducible refine dn ?_ _)
  go_grown
set_option maxRecDepth 100000 in
set_option maxHeartbeats 1000000 in
theorem rshut_7 (pl ph cl ch gl gh wt dp ar : Int) (t1 : 0 ≤ pl) (t2 : pl ≤ ph) (t3 : ph ≤ 68719476736) (t4 : 0 ≤ cl) (t5 : cl ≤ ch) (t6 : ch ≤ 68719476736) (b : wi wt 1 40000 = false) (w : World) :
    Calls Try.prog 74 #[.agg (xv pl ph cl ch gl gh wt dp ar)] w fun e w' => e = .returned (.int .i64 2) ∧ Below w.heap.size w w' := by
  go_enter Try.func74, Try.ntmps74
  go_wp2
  refine wp_loop_rounds 3 ?_
  rw [rounds_succ]
  go_wp2
  go_quiet (fail)
  go_wp2
  rw [rounds_succ]
  go_wp2
  go_quiet (fail)
  go_wp2
  rw [rounds_succ]
  go_wp2_with (go_at_call 55; refine (between_any _ _ _ _).mono ?_; rintro e w' ⟨rfl, rfl⟩)
  go_ret
  refine ⟨rfl, ?_⟩
  repeat (with_reducible refine dn ?_ _)
  go_grown
set_option maxRecDepth 100000 in
set_option maxHeartbeats 1000000 in
theorem rshut_8 (pl ph cl ch gl gh wt dp ar : Int) (t1 : 0 ≤ pl) (t2 : pl ≤ ph) (t3 : ph ≤ 68719476736) (t4 : 0 ≤ cl) (t5 : cl ≤ ch) (t6 : ch ≤ 68719476736) (t7 : wi wt 1 40000 = true) (b : wi dp 1 1048576 = false) (w : World) :
    Calls Try.prog 74 #[.agg (xv pl ph cl ch gl gh wt dp ar)] w fun e w' => e = .returned (.int .i64 2) ∧ Below w.heap.size w w' := by
  go_enter Try.func74, Try.ntmps74
  go_wp2
  refine wp_loop_rounds 3 ?_
  rw [rounds_succ]
  go_wp2
  go_quiet (fail)
  go_wp2
  rw [rounds_succ]
  go_wp2
  go_quiet (fail)
  go_wp2
  rw [rounds_succ]
  go_wp2_with (go_at_call 55; refine (between_any _ _ _ _).mono ?_; rintro e w' ⟨rfl, rfl⟩)
  go_ret
  refine ⟨rfl, ?_⟩
  repeat (with_reducible refine dn ?_ _)
  go_grown
end Go.Proofs.Ytdjmidoegidlbaa
