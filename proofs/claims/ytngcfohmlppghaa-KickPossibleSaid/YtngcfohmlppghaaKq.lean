/- Pairs of functions of layer 6, the program's and the reference's, that return the same: sets of kicks. -/
import Derived.Test.YtngcfohmlppghaaKd
namespace Go.Proofs.Ytngcfohmlppghaa
open Go.RowKit

/-- A set of kicks, as a value. -/
abbrev kv (a b c d : Int) : Array Value := #[.int .i64 a, .int .i64 b, .int .i64 c, .int .i64 d]

set_option maxHeartbeats 400000 in
theorem least_any (a b c d : Int) (w : World) :
    Calls Try.prog 71 #[.agg (kv a b c d)] w fun e w' => e = .returned (.agg #[.int .i64 a, .int .i64 c]) ∧ Below w.heap.size w w' := by
  go_enter Try.func71, Try.ntmps71
  go_wp2
  refine bodyPost_ret (v := .agg #[.int .i64 a, .int .i64 c]) (by simp [results, Try.results71, go_sem]) rfl ⟨rfl, by go_grown⟩
set_option maxHeartbeats 400000 in
theorem rleast_any (a b c d : Int) (w : World) :
    Calls Try.prog 74 #[.agg (kv a b c d)] w fun e w' => e = .returned (.agg #[.int .i64 a, .int .i64 c]) ∧ Below w.heap.size w w' := by
  go_enter Try.func74, Try.ntmps74
  go_wp2
  refine bodyPost_ret (v := .agg #[.int .i64 a, .int .i64 c]) (by simp [results, Try.results74, go_sem]) rfl ⟨rfl, by go_grown⟩

/-- A set of kicks is valid. -/
def kicksB (a b c d : Int) : Bool := decide (a ≤ b) && (decide (c ≤ d) && (kickB a c && kickB b d))

set_option maxHeartbeats 1000000 in
theorem kicks_no (a b c d : Int) (h : kicksB a b c d = false) (w : World) :
    Calls Try.prog 69 #[.agg (kv a b c d)] w fun e w' => e = .returned (.int .i64 2) ∧ Below w.heap.size w w' := by
  by_cases h1 : a ≤ b
  case neg =>
    clear h
    go_enter Try.func69, Try.ntmps69
    go_wp2
    go_ret
    exact ⟨rfl, by go_grown⟩
  by_cases h2 : c ≤ d
  case neg =>
    clear h
    go_enter Try.func69, Try.ntmps69
    go_wp2
    go_ret
    exact ⟨rfl, by go_grown⟩
  cases h3 : kickB a c
  · clear h
    go_enter Try.func69, Try.ntmps69
    go_wp2_with (first
      | (go_at_call 71; refine (least_any _ _ _ _ _).mono ?_; rintro e w1 ⟨rfl, hb1⟩; obtain ⟨hc1, -⟩ := bcell hb1; simp only [World.size_alloc] at hc1)
      | (go_at_call_of 58 (Value.int IntKind.i64 a); refine (kick_no a c h3 _).mono ?_; rintro e w2 ⟨rfl, rfl⟩)
      | (go_at_call 58; refine (kick_no a c h3 _).mono ?_; rintro e w3 ⟨rfl, rfl⟩))
    go_ret
    exact ⟨rfl, (bel_trans (by go_grown) hb1).alloc (by have := hb1.size; simp at this; omega) _⟩
  · cases h4 : kickB b d
    · clear h
      go_enter Try.func69, Try.ntmps69
      go_wp2_with fail
      refine (least_any _ _ _ _ _).mono ?_
      rintro e w1 ⟨rfl, hb1⟩
      obtain ⟨hc1, -⟩ := bcell hb1
      simp only [World.size_alloc] at hc1
      have hsz : w.heap.size < w1.heap.size := by have := hb1.size; simp at this; omega
      have q0 : w1.cell? ⟨w.heap.size, 0, none⟩ = some (.int .i64 a) := (hc1 _ _ (by omega)).trans (by simp [go_sem])
      have q1 : w1.cell? ⟨w.heap.size, 1, none⟩ = some (.int .i64 b) := (hc1 _ _ (by omega)).trans (by simp [go_sem])
      have q3 : w1.cell? ⟨w.heap.size, 3, none⟩ = some (.int .i64 d) := (hc1 _ _ (by omega)).trans (by simp [go_sem])
      go_wp2_with fail
      refine (kick_ok a c h3 _).mono ?_
      rintro e w2 ⟨rfl, rfl⟩
      go_wp2_with fail
      refine (kick_no b d h4 _).mono ?_
      rintro e w3 ⟨rfl, rfl⟩
      go_wp2
      go_ret
      exact ⟨rfl, ((bel_trans (by go_grown) hb1).alloc (by have := hb1.size; simp at this; omega) _).alloc (by have := hb1.size; simp at this; simp; omega) _⟩
    · simp [kicksB, h1, h2, h3, h4] at h
set_option maxHeartbeats 1000000 in
theorem kicks_ok (a b c d : Int) (h : kicksB a b c d = true) (w : World) :
    Calls Try.prog 69 #[.agg (kv a b c d)] w fun e w' => e = .returned (.int .i64 0) ∧ Below w.heap.size w w' := by
  simp only [kicksB, Bool.and_eq_true, decide_eq_true_eq] at h
  obtain ⟨h1, h2, h3, h4⟩ := h
  go_enter Try.func69, Try.ntmps69
  go_wp2_with fail
  refine (least_any _ _ _ _ _).mono ?_
  rintro e w1 ⟨rfl, hb1⟩
  obtain ⟨hc1, -⟩ := bcell hb1
  simp only [World.size_alloc] at hc1
  have hsz : w.heap.size < w1.heap.size := by have := hb1.size; simp at this; omega
  have q0 : w1.cell? ⟨w.heap.size, 0, none⟩ = some (.int .i64 a) := (hc1 _ _ (by omega)).trans (by simp [go_sem])
  have q1 : w1.cell? ⟨w.heap.size, 1, none⟩ = some (.int .i64 b) := (hc1 _ _ (by omega)).trans (by simp [go_sem])
  have q3 : w1.cell? ⟨w.heap.size, 3, none⟩ = some (.int .i64 d) := (hc1 _ _ (by omega)).trans (by simp [go_sem])
  go_wp2_with fail
  refine (kick_ok a c h3 _).mono ?_
  rintro e w2 ⟨rfl, rfl⟩
  go_wp2_with fail
  refine (kick_ok b d h4 _).mono ?_
  rintro e w3 ⟨rfl, rfl⟩
  go_wp2
  go_ret
  exact ⟨rfl, ((bel_trans (by go_grown) hb1).alloc (by have := hb1.size; simp at this; omega) _).alloc (by have := hb1.size; simp at this; simp; omega) _⟩
set_option maxHeartbeats 1000000 in
theorem rkicks_no (a b c d : Int) (h : kicksB a b c d = false) (w : World) :
    Calls Try.prog 72 #[.agg (kv a b c d)] w fun e w' => e = .returned (.int .i64 2) ∧ Below w.heap.size w w' := by
  by_cases h1 : a ≤ b
  case neg =>
    clear h
    go_enter Try.func72, Try.ntmps72
    go_wp2
    go_ret
    exact ⟨rfl, by go_grown⟩
  by_cases h2 : c ≤ d
  case neg =>
    clear h
    go_enter Try.func72, Try.ntmps72
    go_wp2
    go_ret
    exact ⟨rfl, by go_grown⟩
  cases h3 : kickB a c
  · clear h
    go_enter Try.func72, Try.ntmps72
    go_wp2_with (first
      | (go_at_call 74; refine (rleast_any _ _ _ _ _).mono ?_; rintro e w1 ⟨rfl, hb1⟩; obtain ⟨hc1, -⟩ := bcell hb1; simp only [World.size_alloc] at hc1)
      | (go_at_call_of 62 (Value.int IntKind.i64 a); refine (rkick_no a c h3 _).mono ?_; rintro e w2 ⟨rfl, rfl⟩)
      | (go_at_call 62; refine (rkick_no a c h3 _).mono ?_; rintro e w3 ⟨rfl, rfl⟩))
    go_ret
    exact ⟨rfl, (bel_trans (by go_grown) hb1).alloc (by have := hb1.size; simp at this; omega) _⟩
  · cases h4 : kickB b d
    · clear h
      go_enter Try.func72, Try.ntmps72
      go_wp2_with fail
      refine (rleast_any _ _ _ _ _).mono ?_
      rintro e w1 ⟨rfl, hb1⟩
      obtain ⟨hc1, -⟩ := bcell hb1
      simp only [World.size_alloc] at hc1
      have hsz : w.heap.size < w1.heap.size := by have := hb1.size; simp at this; omega
      have q0 : w1.cell? ⟨w.heap.size, 0, none⟩ = some (.int .i64 a) := (hc1 _ _ (by omega)).trans (by simp [go_sem])
      have q1 : w1.cell? ⟨w.heap.size, 1, none⟩ = some (.int .i64 b) := (hc1 _ _ (by omega)).trans (by simp [go_sem])
      have q3 : w1.cell? ⟨w.heap.size, 3, none⟩ = some (.int .i64 d) := (hc1 _ _ (by omega)).trans (by simp [go_sem])
      go_wp2_with fail
      refine (rkick_ok a c h3 _).mono ?_
      rintro e w2 ⟨rfl, rfl⟩
      go_wp2_with fail
      refine (rkick_no b d h4 _).mono ?_
      rintro e w3 ⟨rfl, rfl⟩
      go_wp2
      go_ret
      exact ⟨rfl, ((bel_trans (by go_grown) hb1).alloc (by have := hb1.size; simp at this; omega) _).alloc (by have := hb1.size; simp at this; simp; omega) _⟩
    · simp [kicksB, h1, h2, h3, h4] at h
set_option maxHeartbeats 1000000 in
theorem rkicks_ok (a b c d : Int) (h : kicksB a b c d = true) (w : World) :
    Calls Try.prog 72 #[.agg (kv a b c d)] w fun e w' => e = .returned (.int .i64 0) ∧ Below w.heap.size w w' := by
  simp only [kicksB, Bool.and_eq_true, decide_eq_true_eq] at h
  obtain ⟨h1, h2, h3, h4⟩ := h
  go_enter Try.func72, Try.ntmps72
  go_wp2_with fail
  refine (rleast_any _ _ _ _ _).mono ?_
  rintro e w1 ⟨rfl, hb1⟩
  obtain ⟨hc1, -⟩ := bcell hb1
  simp only [World.size_alloc] at hc1
  have hsz : w.heap.size < w1.heap.size := by have := hb1.size; simp at this; omega
  have q0 : w1.cell? ⟨w.heap.size, 0, none⟩ = some (.int .i64 a) := (hc1 _ _ (by omega)).trans (by simp [go_sem])
  have q1 : w1.cell? ⟨w.heap.size, 1, none⟩ = some (.int .i64 b) := (hc1 _ _ (by omega)).trans (by simp [go_sem])
  have q3 : w1.cell? ⟨w.heap.size, 3, none⟩ = some (.int .i64 d) := (hc1 _ _ (by omega)).trans (by simp [go_sem])
  go_wp2_with fail
  refine (rkick_ok a c h3 _).mono ?_
  rintro e w2 ⟨rfl, rfl⟩
  go_wp2_with fail
  refine (rkick_ok b d h4 _).mono ?_
  rintro e w3 ⟨rfl, rfl⟩
  go_wp2
  go_ret
  exact ⟨rfl, ((bel_trans (by go_grown) hb1).alloc (by have := hb1.size; simp at this; omega) _).alloc (by have := hb1.size; simp at this; simp; omega) _⟩
end Go.Proofs.Ytngcfohmlppghaa
