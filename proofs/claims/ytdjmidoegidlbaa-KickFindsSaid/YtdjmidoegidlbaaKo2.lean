/- The reference's check of what is read from a well, way by way (part 2). -/
import Derived.Test.YtdjmidoegidlbaaKo0
namespace Go.Proofs.Ytdjmidoegidlbaa
open Go.RowKit

set_option maxRecDepth 100000 in
set_option maxHeartbeats 1000000 in
theorem rshut_9 (pl ph cl ch gl gh wt dp ar : Int) (t1 : 0 ≤ pl) (t2 : pl ≤ ph) (t3 : ph ≤ 68719476736) (t4 : 0 ≤ cl) (t5 : cl ≤ ch) (t6 : ch ≤ 68719476736) (t7 : wi wt 1 40000 = true) (t8 : wi dp 1 1048576 = true) (b : wi ar 1 5000 = false) (w : World) :
    Calls Try.prog 74 #[.agg (xv pl ph cl ch gl gh wt dp ar)] w fun e w' => e = .returned (.int .i64 2) ∧ Below w.heap.size w w' := by
  go_enter Try.func74, Try.ntmps74
  go_wp2
  refine wp_loop_rounds 3 ?_
  rw [rounds_succ]
  go_wp2
  go_quiet (fail)
  go_wp2
  rw [rounds_succ]
  go_wp2
  go_quiet (fail)
  go_wp2
  rw [rounds_succ]
  go_wp2_with (go_at_call 55; refine (between_any _ _ _ _).mono ?_; rintro e w' ⟨rfl, rfl⟩)
  go_ret
  exact ⟨rfl, dn (by go_grown) _⟩
set_option maxRecDepth 100000 in
set_option maxHeartbeats 1000000 in
theorem rshut_10 (pl ph cl ch gl gh wt dp ar : Int) (t1 : 0 ≤ pl) (t2 : pl ≤ ph) (t3 : ph ≤ 68719476736) (t4 : 0 ≤ cl) (t5 : cl ≤ ch) (t6 : ch ≤ 68719476736) (t7 : wi wt 1 40000 = true) (t8 : wi dp 1 1048576 = true) (t9 : wi ar 1 5000 = true) (b : gl < ar) (w : World) :
    Calls Try.prog 74 #[.agg (xv pl ph cl ch gl gh wt dp ar)] w fun e w' => e = .returned (.int .i64 2) ∧ Below w.heap.size w w' := by
  go_enter Try.func74, Try.ntmps74
  go_wp2
  refine wp_loop_rounds 3 ?_
  rw [rounds_succ]
  go_wp2
  go_quiet (fail)
  go_wp2
  rw [rounds_succ]
  go_wp2
  go_quiet (fail)
  go_wp2
  rw [rounds_succ]
  go_wp2_with (go_at_call 55; refine (between_any _ _ _ _).mono ?_; rintro e w' ⟨rfl, rfl⟩)
  go_ret
  exact ⟨rfl, dn (by go_grown) _⟩
set_option maxRecDepth 100000 in
set_option maxHeartbeats 1000000 in
theorem rshut_11 (pl ph cl ch gl gh wt dp ar : Int) (t1 : 0 ≤ pl) (t2 : pl ≤ ph) (t3 : ph ≤ 68719476736) (t4 : 0 ≤ cl) (t5 : cl ≤ ch) (t6 : ch ≤ 68719476736) (t7 : wi wt 1 40000 = true) (t8 : wi dp 1 1048576 = true) (t9 : wi ar 1 5000 = true) (t10 : ar ≤ gl) (b : gh < gl) (w : World) :
    Calls Try.prog 74 #[.agg (xv pl ph cl ch gl gh wt dp ar)] w fun e w' => e = .returned (.int .i64 2) ∧ Below w.heap.size w w' := by
  go_enter Try.func74, Try.ntmps74
  go_wp2
  refine wp_loop_rounds 3 ?_
  rw [rounds_succ]
  go_wp2
  go_quiet (fail)
  go_wp2
  rw [rounds_succ]
  go_wp2
  go_quiet (fail)
  go_wp2
  rw [rounds_succ]
  go_wp2_with (go_at_call 55; refine (between_any _ _ _ _).mono ?_; rintro e w' ⟨rfl, rfl⟩)
  go_ret
  exact ⟨rfl, dn (by go_grown) _⟩
end Go.Proofs.Ytdjmidoegidlbaa
