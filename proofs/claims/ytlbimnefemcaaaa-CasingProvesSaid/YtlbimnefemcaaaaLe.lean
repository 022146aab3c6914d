/-
  The least number of which something is true. No program.
-/
import Derived.Test.YtlbimnefemcaaaaYw
set_option linter.unusedSimpArgs false
set_option linter.unusedVariables false
namespace Go.Rx
open Go
/-! ### The least number -/
def leastN (p : Int → Bool) : Nat → Int → Int
  | 0, j => j
  | k + 1, j => if p j then j else leastN p k (j + 1)
theorem leastN_spec (p : Int → Bool) : ∀ (k : Nat) (j : Int), j ≤ leastN p k j ∧ leastN p k j ≤ j + k ∧ (∀ g, j ≤ g → g < leastN p k j → p g = false) ∧ (leastN p k j = j + k ∨ p (leastN p k j) = true)
  | 0, j => ⟨Int.le_refl _, by simp [leastN], fun g h1 h2 => (by simp only [leastN] at h2; omega), .inl (by simp [leastN])⟩
  | k + 1, j => by
    unfold leastN
    by_cases h : p j
    · rw [if_pos h]; exact ⟨by omega, by omega, fun g h1 h2 => by omega, .inr h⟩
    · rw [if_neg h]
      obtain ⟨a, b, c, d⟩ := leastN_spec p k (j + 1)
      refine ⟨by omega, by omega, fun g h1 h2 => ?_, d.imp_left fun e => by omega⟩
      by_cases e : g = j
      · subst e; simpa using h
      · exact c g (by omega) h2
theorem leastN_lt (p : Int → Bool) (k : Nat) : (leastN p k 0 < k) ↔ ∃ j : Int, 0 ≤ j ∧ j < k ∧ p j = true := by
  obtain ⟨a, b, c, d⟩ := leastN_spec p k 0
  constructor
  · intro h; exact ⟨_, a, h, d.resolve_left (by omega)⟩
  · rintro ⟨j, h1, h2, h3⟩
    by_cases hq : leastN p k 0 < k
    · exact hq
    · have := c j h1 (by omega)
      rw [h3] at this; cases this
theorem leastN_step {p : Int → Bool} {k : Nat} {i : Int} (h0 : 0 ≤ i) (h1 : i ≤ leastN p k 0) (h2 : i < k) : (p i = true → leastN p k 0 = i) ∧ (p i = false → i + 1 ≤ leastN p k 0) := by
  obtain ⟨a, b, c, d⟩ := leastN_spec p k 0
  refine ⟨fun h => ?_, fun h => ?_⟩
  · by_cases hq : i < leastN p k 0
    · have := c i h0 hq; rw [h] at this; cases this
    · omega
  · by_cases hq : leastN p k 0 = i
    · rw [hq] at d
      rcases d with d | d
      · omega
      · rw [h] at d; cases d
    · omega
end Go.Rx
