/-
  Layer 1: turns of multiples. No program.
-/
import Derived.Test.YtohpjhplofimjaaPm
set_option linter.unusedSimpArgs false
set_option linter.unusedVariables false
namespace Go.Rx
open Go
theorem len3_mul {x y z k : Int} (h : len3 x y z * len3 x y z = x * x + y * y + z * z) (hk : 1 ≤ k) : len3 (x * k) (y * k) (z * k) = len3 x y z * k := by
  have l0 := len3_nonneg x y z
  have e : x * k * (x * k) + y * k * (y * k) + z * k * (z * k) = len3 x y z * k * (len3 x y z * k) := by
    have a : ∀ p : Int, p * k * (p * k) = (k * k) * (p * p) := fun p => by
      rw [Int.mul_comm p k, Int.mul_assoc, Int.mul_left_comm p k p, ← Int.mul_assoc]
    rw [a, a, a, a, h, Int.mul_add, Int.mul_add]
  rw [show len3 (x * k) (y * k) (z * k) = isqI (x * k * (x * k) + y * k * (y * k) + z * k * (z * k)) from rfl, e]
  exact isq_sq (Int.mul_nonneg l0 (by omega))
theorem okV_mul {x y z k : Int} (h : okV x y z) (x0 : -24 ≤ x) (x1 : x ≤ 24) (y0 : -24 ≤ y) (y1 : y ≤ 24) (z0 : -24 ≤ z) (z1 : z ≤ 24) (hl : len3 x y z ≤ 26) (hk : 1 ≤ k) (k1 : k ≤ 5000) : okV (x * k) (y * k) (z * k) := by
  obtain ⟨_, _, _, e, _⟩ := h
  have b : ∀ p : Int, -24 ≤ p → p ≤ 24 → -120000 ≤ p * k ∧ p * k ≤ 120000 := fun p p0 p1 => by
    have a1 : 0 ≤ (24 - p) * k := Int.mul_nonneg (by omega) (by omega)
    have a2 : 0 ≤ (24 + p) * k := Int.mul_nonneg (by omega) (by omega)
    rw [Int.sub_mul] at a1
    rw [Int.add_mul] at a2
    omega
  have l0 := len3_nonneg x y z
  have a3 : 0 ≤ (26 - len3 x y z) * k := Int.mul_nonneg (by omega) (by omega)
  rw [Int.sub_mul] at a3
  have bx := b x x0 x1
  have bY := b y y0 y1
  have bz := b z z0 z1
  refine ⟨by omega, by omega, by omega, ?_, ?_⟩
  · rw [len3_mul e hk]
    have a : ∀ p : Int, p * k * (p * k) = (k * k) * (p * p) := fun p => by
      rw [Int.mul_comm p k, Int.mul_assoc, Int.mul_left_comm p k p, ← Int.mul_assoc]
    rw [a, a, a, a, e, Int.mul_add, Int.mul_add]
  · rw [len3_mul e hk]; omega
theorem t_mul {x y z u v w k l : Int} (h1 : okV x y z) (h2 : okV u v w) (hk : 1 ≤ k) (hl : 1 ≤ l) :
    tD (u * k) (v * k) (w * k) (x * l) (y * l) (z * l) = k * l * tD x y z u v w ∧ tN (u * k) (v * k) (w * k) (x * l) (y * l) (z * l) = k * l * tN x y z u v w := by
  obtain ⟨_, _, _, e1, _⟩ := h1
  obtain ⟨_, _, _, e2, _⟩ := h2
  have a : ∀ p q : Int, q * k * (p * l) = k * l * (p * q) := fun p q => by
    rw [Int.mul_comm q k, Int.mul_assoc, Int.mul_assoc k l, Int.mul_comm p l, Int.mul_left_comm q l p, Int.mul_comm p q]
  have d : tD (u * k) (v * k) (w * k) (x * l) (y * l) (z * l) = k * l * tD x y z u v w := by
    unfold tD
    rw [len3_mul e1 hl, len3_mul e2 hk, a]
  refine ⟨d, ?_⟩
  unfold tN
  rw [d, a, a, a, Int.mul_sub, Int.mul_add, Int.mul_add]
theorem turn_mul {x y z u v w k l : Int} (h : okT x y z u v w) (x0 : -24 ≤ x) (x1 : x ≤ 24) (y0 : -24 ≤ y) (y1 : y ≤ 24) (z0 : -24 ≤ z) (z1 : z ≤ 24) (u0 : -24 ≤ u) (u1 : u ≤ 24) (v0 : -24 ≤ v) (v1 : v ≤ 24) (w0 : -24 ≤ w) (w1 : w ≤ 24)
    (hl1 : len3 x y z ≤ 26) (hl2 : len3 u v w ≤ 26) (hk : 1 ≤ k) (k1 : k ≤ 5000) (hl : 1 ≤ l) (l1 : l ≤ 5000) :
    okT (u * k) (v * k) (w * k) (x * l) (y * l) (z * l) ∧ pN (u * k) (v * k) (w * k) (x * l) (y * l) (z * l) = pN x y z u v w ∧ pD (u * k) (v * k) (w * k) (x * l) (y * l) (z * l) = pD x y z u v w := by
  obtain ⟨o1, o2, p1, p2, p0⟩ := h
  obtain ⟨d, n⟩ := t_mul o1 o2 hk hl
  have q : 1 * 1 ≤ k * l := Int.mul_le_mul hk hl (by omega) (by omega)
  have D0 : 1 * 1 ≤ tD x y z u v w := Int.mul_le_mul p1 p2 (by omega) (by omega)
  refine ⟨⟨okV_mul o2 u0 u1 v0 v1 w0 w1 hl2 hk k1, okV_mul o1 x0 x1 y0 y1 z0 z1 hl1 hl l1, ?_, ?_, ?_⟩, ?_, ?_⟩
  · rw [len3_mul o2.2.2.2.1 hk]
    have : 1 * 1 ≤ len3 u v w * k := Int.mul_le_mul p2 hk (by omega) (by omega)
    omega
  · rw [len3_mul o1.2.2.2.1 hl]
    have : 1 * 1 ≤ len3 x y z * l := Int.mul_le_mul p1 hl (by omega) (by omega)
    omega
  · rw [n]; exact Int.mul_nonneg (by omega) p0
  · unfold pN
    rw [d, n, gcdI_scale (by omega) p0 (by omega), Int.mul_ediv_mul_of_pos _ _ (by omega)]
  · unfold pD
    rw [d, n, gcdI_scale (by omega) p0 (by omega), Int.mul_ediv_mul_of_pos _ _ (by omega)]
end Go.Rx
