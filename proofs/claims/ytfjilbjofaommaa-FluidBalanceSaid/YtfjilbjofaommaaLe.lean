/-
  The least number of which something is true. No program.
-/
import Derived.Test.YtfjilbjofaommaaYw
set_option linter.unusedSimpArgs false
set_option linter.unusedVariables false
namespace Go.Rx
open Go
/-! ### The least number -/
def leastN (p : Int → Bool) : Nat → Int → Int
  | 0, j => j
  | k + 1, j => if p j then j else leastN p k (j + 1)
theorem leastN_spec (p : Int → Bool) : ∀ (k : Nat) (j : Int), j ≤ leastN p k j ∧ leastN p k j ≤ j + k ∧ (∀ g, j ≤ g → g < leastN p k j → p g = false) ∧ (leastN p k j = j + k ∨ p (leastN p k j) = true)
  | 0, j => ⟨Int.le_refl _, by simp [leastN], fun g h1 h2 => (by simp only [leastN] at h2; omega), .inl (by simp [leastN])⟩
  | k + 1, j => by
    unfold leastN
    by_cases h : p j
    · rw [if_pos h]; exact ⟨by omega, by omega, fun g h1 h2 => by omega, .inr h⟩
    · rw [if_neg h]
      obtain ⟨a, b, c, d⟩ := leastN_spec p k (j + 1)
      refine ⟨by omega, by omega, fun g h1 h2 => ?_, d.imp_left fun e => by omega⟩
      by_cases e : g = j
      · subst e; simpa using h
      · exact c g (by omega) h2
theorem leastN_lt (p : Int → Bool) (k : Nat) : (leastN p k 0 < k) ↔ ∃ j : Int, 0 ≤ j ∧ j < k ∧ p j = true := by
  obtain ⟨a, b, c, d⟩ := leastN_spec p k 0
  constructor
  · intro h; exact ⟨_, a, h, d.resolve_left (by omega)⟩
  · rintro ⟨j, h1, h2, h3⟩
    by_cases hq : leastN p k 0 < k
    · exact hq
    · have := c j h1 (by omega)
      rw [h3] at this; cases this
theorem leastN_step {p : Int → Bool} {k : Nat} {i : Int} (h0 : 0 ≤ i) (h1 : i ≤ leastN p k 0) (h2 : i < k) : (p i = true → leastN p k 0 = i) ∧ (p i = false → i + 1 ≤ leastN p k 0) := by
  obtain ⟨a, b, c, d⟩ := leastN_spec p k 0
  refine ⟨fun h => ?_, fun h => ?_⟩
  · by_cases hq : i < leastN p k 0
    · have := c i h0 hq; rw [h] at this; cases this
    · omega
  · by_cases hq : leastN p k 0 = i
    · rw [hq] at d
      rcases d with d | d
      · omega
      · rw [h] at d; cases d
    · omega
theorem tmod_cases (a b : Int) (hb : 1 ≤ b) : (0 ≤ a ∧ a.tmod b = a % b ∨ a.tmod b = a % b) ∧ 0 ≤ a.tmod b ∨ (a.tmod b < 0 ∧ a.tmod b + b = a % b) := by
  have e0 := Int.emod_nonneg a (show b ≠ 0 by omega)
  by_cases h : 0 ≤ a
  · have e := Int.tmod_eq_emod_of_nonneg h (b := b)
    exact .inl ⟨.inr e, by omega⟩
  · have e : a.tmod b = -((-a) % b) := by rw [show a = -(-a) by omega, Int.neg_tmod, Int.tmod_eq_emod_of_nonneg (by omega), show - - -a = -a by omega]
    have r0 := Int.emod_nonneg (-a) (show b ≠ 0 by omega)
    have r1 := Int.emod_lt_of_pos (-a) (show 0 < b by omega)
    by_cases hz : (-a) % b = 0
    · have : a % b = 0 := by
        rw [← Int.dvd_iff_emod_eq_zero] at hz ⊢
        exact (Int.dvd_neg.1 hz)
      exact .inl ⟨.inr (by omega), by omega⟩
    · have : a % b = b - (-a) % b := by
        have e2 : a = (b - (-a) % b) + b * (-((-a) / b) - 1) := by rw [Int.mul_sub, Int.mul_neg]; have := Int.mul_ediv_add_emod (-a) b; omega
        conv => lhs; rw [e2]
        rw [Int.add_mul_emod_self_left, Int.emod_eq_of_lt (by omega) (by omega)]
      exact .inr ⟨by omega, by omega⟩
end Go.Rx
