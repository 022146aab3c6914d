/- The examples of layer 6 that every statement asks: awake returns true in every world. -/
import Derived.Test.YtngcfohmlppghaaKf
namespace Go.Proofs.Ytngcfohmlppghaa
open Go.RowKit

set_option maxHeartbeats 400000 in
theorem pit_any (w : World) : Calls Try.prog 38 #[] w fun e w' => e = .returned (.agg (sv 1 10 5 2 1000 1 20000 2)) ∧ Below w.heap.size w w' := by
  go_enter Try.func38, Try.ntmps38
  go_wp2
  refine bodyPost_ret (v := .agg (sv 1 10 5 2 1000 1 20000 2)) (by simp [results, Try.results38, go_sem]) rfl ⟨rfl, by go_grown⟩
set_option maxHeartbeats 400000 in
theorem shown_any (w : World) : Calls Try.prog 37 #[] w fun e w' => e = .returned (.agg #[.int .i64 1000, .int .i64 100]) ∧ Below w.heap.size w w' := by
  go_enter Try.func37, Try.ntmps37
  go_wp2
  refine bodyPost_ret (v := .agg #[.int .i64 1000, .int .i64 100]) (by simp [results, Try.results37, go_sem]) rfl ⟨rfl, by go_grown⟩
theorem late_shown (w : World) : Calls Try.prog 29 #[.agg (sv 1 10 5 2 1000 1 20000 2), .agg #[.int .i64 1000, .int .i64 100]] w fun e w' =>
    e = .returned (.tuple #[.int .i64 58, .bool true]) ∧ Below w.heap.size w w' := by
  refine (late_yes 1 10 5 2 1000 1 20000 2 1000 100 (Or.inl rfl) (by decide) (by decide) (by rw [latest_shown]) w).mono fun e w' ⟨he, hb⟩ => ⟨?_, hb⟩
  rw [he, latest_shown]
theorem false_shown (w : World) : Calls Try.prog 43 #[.agg (sv 1 1 0 2 1000 0 1000 2), .int .i64 3] w fun e w' =>
    e = .returned (.tuple #[.int .i64 32, .int .i64 125, .int .i64 0]) ∧ Below w.heap.size w w' := by
  refine (false_any 1 1 0 2 1000 0 1000 2 3 (Or.inl rfl) (by decide) (by omega) (by omega) w).mono fun e w' ⟨he, hb⟩ => ⟨?_, hb⟩
  rw [he, show falseV 2 1000 1000 2 3 = 32 by kernel_rfl, show powF (2 * 2 + 1) 3 = 125 by kernel_rfl]
theorem gain_shown (w : World) : Calls Try.prog 41 #[.agg #[.int .i64 1000, .int .i64 100], .int .i64 3] w fun e w' =>
    e = .returned (.int .i64 3300) ∧ Below w.heap.size w w' := by
  refine (gain_any 1000 100 3 (by decide) (by omega) w).mono fun e w' ⟨he, hb⟩ => ⟨?_, hb⟩
  rw [he, show gainV 1000 100 3 = 3300 by kernel_rfl]

set_option maxHeartbeats 400000 in
theorem awake_any (w : World) : Calls Try.prog 13 #[] w fun e w' => e = .returned (.bool true) ∧ Below w.heap.size w w' := by
  go_enter Try.func13, Try.ntmps13
  go_wp2_with (first
    | (go_at_call 38; refine (pit_any _).mono ?_; rintro e w1 ⟨rfl, hb1⟩)
    | (go_at_call 37; refine (shown_any _).mono ?_; rintro e w2 ⟨rfl, hb2⟩)
    | (go_at_call 29; refine (late_shown _).mono ?_; rintro e w3 ⟨rfl, hb3⟩)
    | (go_at_call 43; refine (false_shown _).mono ?_; rintro e w4 ⟨rfl, hb4⟩)
    | (go_at_call 41; refine (gain_shown _).mono ?_; rintro e w5 ⟨rfl, hb5⟩))
  go_ret
  exact ⟨rfl, bel_trans (bel_trans (bel_trans (bel_trans (bel_trans hb1 (by assumption)) hb3) hb4) hb2) hb5⟩
end Go.Proofs.Ytngcfohmlppghaa
