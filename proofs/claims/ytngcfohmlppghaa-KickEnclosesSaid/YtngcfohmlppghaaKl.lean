/- The contracts of what is read from a well that is shut in: which of it is valid, and what an influx is. -/
import Derived.Test.YtngcfohmlppghaaKj
import Derived.Test.YtngcfohmlppghaaKd
namespace Go.Proofs.Ytngcfohmlppghaa
open Go.RowKit

/-- A range lies from least to most. -/
def isR (lo hi a b : Int) : Bool := decide (a ≤ lo) && (decide (lo ≤ hi) && decide (hi ≤ b))
set_option maxHeartbeats 400000 in
theorem isRange_any (lo hi a b : Int) (w : World) :
    Calls Try.prog 86 #[.agg #[.int .i64 lo, .int .i64 hi], .int .i64 a, .int .i64 b] w fun e w' => e = .returned (.bool (isR lo hi a b)) ∧ w.alloc (.cells #[.int .i64 lo, .int .i64 hi] 54) = w' := by
  by_cases h1 : a ≤ lo
  · by_cases h2 : lo ≤ hi
    · have e0 : isR lo hi a b = decide (hi ≤ b) := by simp [isR, h1, h2]
      rw [e0]
      clear e0
      go_enter Try.func86, Try.ntmps86
      go_wp2
      go_ret
      exact ⟨rfl, rfl⟩
    · have e0 : isR lo hi a b = false := by simp [isR, h2]
      rw [e0]
      clear e0
      go_enter Try.func86, Try.ntmps86
      go_wp2
      go_ret
      exact ⟨rfl, rfl⟩
  · have e0 : isR lo hi a b = false := by simp [isR, h1]
    rw [e0]
    clear e0
    go_enter Try.func86, Try.ntmps86
    go_wp2
    go_ret
    exact ⟨rfl, rfl⟩

/-- What is read from a well, as a value. -/
abbrev xv (pl ph cl ch gl gh wt dp ar : Int) : Array Value := #[.int .i64 pl, .int .i64 ph, .int .i64 cl, .int .i64 ch, .int .i64 gl, .int .i64 gh, .int .i64 wt, .int .i64 dp, .int .i64 ar]
def shutB (pl ph cl ch gl gh wt dp ar : Int) : Bool := wi ar 1 5000 && wi wt 1 40000 && wi dp 1 1048576 && isR pl ph 0 68719476736 && isR cl ch 0 68719476736 && isR gl gh ar 1073741824

set_option maxHeartbeats 1600000 in
theorem shut_range (pl ph cl ch gl gh wt dp ar : Int) (h : shutB pl ph cl ch gl gh wt dp ar = false) (w : World) :
    Calls Try.prog 79 #[.agg (xv pl ph cl ch gl gh wt dp ar)] w fun e w' => e = .returned (.int .i64 2) ∧ Below w.heap.size w w' := by
  cases h1 : wi ar 1 5000
  · clear h
    go_enter Try.func79, Try.ntmps79
    go_wp2_with (first
      | (go_at_call 59; refine (within_any _ _ _ _).mono ?_; rintro e w' ⟨rfl, rfl⟩)
      | (go_at_call 86; refine (isRange_any _ _ _ _ _).mono ?_; rintro e w' ⟨rfl, rfl⟩))
    go_ret
    exact ⟨rfl, by go_grown⟩
  cases h2 : wi wt 1 40000
  · clear h
    go_enter Try.func79, Try.ntmps79
    go_wp2_with (first
      | (go_at_call 59; refine (within_any _ _ _ _).mono ?_; rintro e w' ⟨rfl, rfl⟩)
      | (go_at_call 86; refine (isRange_any _ _ _ _ _).mono ?_; rintro e w' ⟨rfl, rfl⟩))
    go_ret
    exact ⟨rfl, by go_grown⟩
  cases h3 : wi dp 1 1048576
  · clear h
    go_enter Try.func79, Try.ntmps79
    go_wp2_with (first
      | (go_at_call 59; refine (within_any _ _ _ _).mono ?_; rintro e w' ⟨rfl, rfl⟩)
      | (go_at_call 86; refine (isRange_any _ _ _ _ _).mono ?_; rintro e w' ⟨rfl, rfl⟩))
    go_ret
    exact ⟨rfl, by go_grown⟩
  cases h4 : isR pl ph 0 68719476736
  · clear h
    go_enter Try.func79, Try.ntmps79
    go_wp2_with (first
      | (go_at_call 59; refine (within_any _ _ _ _).mono ?_; rintro e w' ⟨rfl, rfl⟩)
      | (go_at_call 86; refine (isRange_any _ _ _ _ _).mono ?_; rintro e w' ⟨rfl, rfl⟩))
    go_ret
    exact ⟨rfl, by go_grown⟩
  cases h5 : isR cl ch 0 68719476736
  · clear h
    go_enter Try.func79, Try.ntmps79
    go_wp2_with (first
      | (go_at_call 59; refine (within_any _ _ _ _).mono ?_; rintro e w' ⟨rfl, rfl⟩)
      | (go_at_call 86; refine (isRange_any _ _ _ _ _).mono ?_; rintro e w' ⟨rfl, rfl⟩))
    go_ret
    exact ⟨rfl, by go_grown⟩
  cases h6 : isR gl gh ar 1073741824
  · clear h
    go_enter Try.func79, Try.ntmps79
    go_wp2_with (first
      | (go_at_call 59; refine (within_any _ _ _ _).mono ?_; rintro e w' ⟨rfl, rfl⟩)
      | (go_at_call 86; refine (isRange_any _ _ _ _ _).mono ?_; rintro e w' ⟨rfl, rfl⟩))
    go_ret
    exact ⟨rfl, by go_grown⟩
  simp [shutB, h1, h2, h3, h4, h5, h6] at h
set_option maxHeartbeats 800000 in
theorem shut_order (pl ph cl ch gl gh wt dp ar : Int) (h : shutB pl ph cl ch gl gh wt dp ar = true) (hc : cl < ph) (w : World) :
    Calls Try.prog 79 #[.agg (xv pl ph cl ch gl gh wt dp ar)] w fun e w' => e = .returned (.int .i64 11) ∧ Below w.heap.size w w' := by
  simp only [shutB, Bool.and_eq_true] at h
  obtain ⟨⟨⟨⟨⟨h1, h2⟩, h3⟩, h4⟩, h5⟩, h6⟩ := h
  go_enter Try.func79, Try.ntmps79
  go_wp2_with (first
    | (go_at_call 59; refine (within_any _ _ _ _).mono ?_; rintro e w' ⟨rfl, rfl⟩)
    | (go_at_call 86; refine (isRange_any _ _ _ _ _).mono ?_; rintro e w' ⟨rfl, rfl⟩))
  go_ret
  exact ⟨rfl, by go_grown⟩
set_option maxHeartbeats 800000 in
theorem shut_ok (pl ph cl ch gl gh wt dp ar : Int) (h : shutB pl ph cl ch gl gh wt dp ar = true) (hc : ¬ cl < ph) (w : World) :
    Calls Try.prog 79 #[.agg (xv pl ph cl ch gl gh wt dp ar)] w fun e w' => e = .returned (.int .i64 0) ∧ Below w.heap.size w w' := by
  simp only [shutB, Bool.and_eq_true] at h
  obtain ⟨⟨⟨⟨⟨h1, h2⟩, h3⟩, h4⟩, h5⟩, h6⟩ := h
  go_enter Try.func79, Try.ntmps79
  go_wp2_with (first
    | (go_at_call 59; refine (within_any _ _ _ _).mono ?_; rintro e w' ⟨rfl, rfl⟩)
    | (go_at_call 86; refine (isRange_any _ _ _ _ _).mono ?_; rintro e w' ⟨rfl, rfl⟩))
  go_ret
  exact ⟨rfl, by go_grown⟩

/-- What an influx of a weight is. -/
def kindV (lo hi : Int) : Int := if hi ≤ 3500 then 1 else if 9000 ≤ lo then 3 else if 3500 < lo ∧ hi < 9000 then 2 else 4
set_option maxHeartbeats 800000 in
theorem kindOf_any (lo hi : Int) (w : World) :
    Calls Try.prog 82 #[.agg #[.int .i64 lo, .int .i64 hi]] w fun e w' => e = .returned (.int .i64 (kindV lo hi)) ∧ w.alloc (.cells #[.int .i64 lo, .int .i64 hi] 54) = w' := by
  by_cases h1 : hi ≤ 3500
  · have e0 : kindV lo hi = 1 := by simp [kindV, h1]
    rw [e0]; clear e0
    go_enter Try.func82, Try.ntmps82
    go_wp2
    go_ret
    exact ⟨rfl, rfl⟩
  · by_cases h2 : 9000 ≤ lo
    · have e0 : kindV lo hi = 3 := by simp [kindV, h1, h2]
      rw [e0]; clear e0
      go_enter Try.func82, Try.ntmps82
      go_wp2
      go_ret
      exact ⟨rfl, rfl⟩
    · by_cases h3 : 3500 < lo
      · by_cases h4 : hi < 9000
        · have e0 : kindV lo hi = 2 := by simp [kindV, h1, h2, h3, h4]
          rw [e0]; clear e0
          go_enter Try.func82, Try.ntmps82
          go_wp2
          go_ret
          exact ⟨rfl, rfl⟩
        · have e0 : kindV lo hi = 4 := by simp [kindV, h1, h2, h4]
          rw [e0]; clear e0
          go_enter Try.func82, Try.ntmps82
          go_wp2
          go_ret
          exact ⟨rfl, rfl⟩
      · have e0 : kindV lo hi = 4 := by simp [kindV, h1, h2, h3]
        rw [e0]; clear e0
        go_enter Try.func82, Try.ntmps82
        go_wp2
        go_ret
        exact ⟨rfl, rfl⟩
end Go.Proofs.Ytngcfohmlppghaa
