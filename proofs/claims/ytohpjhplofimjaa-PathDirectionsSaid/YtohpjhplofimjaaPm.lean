/-
  Layer 1: roots, greatest common divisors, the 52 directions. No program.
-/
import Derived.Test.YtohpjhplofimjaaFm
set_option linter.unusedSimpArgs false
set_option linter.unusedVariables false
namespace Go.Rx
open Go
/-- The greatest number whose square is at most n. -/
def isqN : Nat → Nat
  | 0 => 0
  | n + 1 => if (isqN n + 1) * (isqN n + 1) ≤ n + 1 then isqN n + 1 else isqN n
theorem isqN_is (n : Nat) : isqN n * isqN n ≤ n ∧ n < (isqN n + 1) * (isqN n + 1) := by
  induction n with
  | zero => exact ⟨by decide, by decide⟩
  | succ n ih =>
    unfold isqN
    split
    · rename_i h
      refine ⟨h, ?_⟩
      have e : (isqN n + 1 + 1) * (isqN n + 1 + 1) = (isqN n + 1) * (isqN n + 1) + 2 * isqN n + 3 := by
        simp only [Nat.add_mul, Nat.mul_add]; omega
      omega
    · rename_i h
      exact ⟨by omega, by omega⟩
def isqI (n : Int) : Int := ((isqN n.toNat : Nat) : Int)
theorem isqI_is {n : Int} (h : 0 ≤ n) : 0 ≤ isqI n ∧ isqI n * isqI n ≤ n ∧ n < (isqI n + 1) * (isqI n + 1) := by
  obtain ⟨k, rfl⟩ := Int.eq_ofNat_of_zero_le h
  obtain ⟨a, b⟩ := isqN_is k
  unfold isqI
  refine ⟨Int.natCast_nonneg _, ?_, ?_⟩
  · rw [show ((k : Nat) : Int).toNat = k from rfl]; exact_mod_cast a
  · rw [show ((k : Nat) : Int).toNat = k from rfl]; exact_mod_cast b
theorem sq_lt {a b : Int} (ha : 0 ≤ a) (h : a < b) : a * a < b * b := by
  have h1 : a * a ≤ a * b := Int.mul_le_mul_of_nonneg_left (by omega) ha
  have h2 : a * b < b * b := Int.mul_lt_mul_of_pos_right h (by omega)
  omega
theorem sq_le {a b : Int} (ha : 0 ≤ a) (h : a ≤ b) : a * a ≤ b * b := by
  have h1 : a * a ≤ a * b := Int.mul_le_mul_of_nonneg_left (by omega) ha
  have h2 : a * b ≤ b * b := Int.mul_le_mul_of_nonneg_right h (by omega)
  omega
theorem isq_uniq {n r : Int} (h : 0 ≤ n) (hr : 0 ≤ r) (h1 : r * r ≤ n) (h2 : n < (r + 1) * (r + 1)) : isqI n = r := by
  obtain ⟨a, b, c⟩ := isqI_is h
  rcases Int.lt_trichotomy (isqI n) r with e | e | e
  · have := sq_le (show 0 ≤ isqI n + 1 by omega) (show isqI n + 1 ≤ r by omega); omega
  · exact e
  · have := sq_le (show 0 ≤ r + 1 by omega) (show r + 1 ≤ isqI n by omega); omega
theorem isq_sq {r : Int} (hr : 0 ≤ r) : isqI (r * r) = r := by
  refine isq_uniq (Int.mul_nonneg hr hr) hr (Int.le_refl _) (sq_lt hr (by omega))
/-- Greatest common divisor of numbers from 0 on. -/
def gcdI (a b : Int) : Int := ((Nat.gcd a.toNat b.toNat : Nat) : Int)
theorem gcdI_zero {a : Int} (h : 0 ≤ a) : gcdI a 0 = a := by
  unfold gcdI
  rw [show (0 : Int).toNat = 0 from rfl, Nat.gcd_zero_right]
  omega
theorem gcdI_step {a b : Int} (ha : 0 ≤ a) (hb : 0 ≤ b) : gcdI b (a % b) = gcdI a b := by
  obtain ⟨x, rfl⟩ := Int.eq_ofNat_of_zero_le ha
  obtain ⟨y, rfl⟩ := Int.eq_ofNat_of_zero_le hb
  unfold gcdI
  rw [show ((x : Int) % (y : Int)).toNat = x % y from by rw [← Int.natCast_emod]; rfl, show ((x : Nat) : Int).toNat = x from rfl, show ((y : Nat) : Int).toNat = y from rfl]
  rw [Nat.gcd_comm x y, Nat.gcd_rec y x, Nat.gcd_comm (x % y) y]
theorem gcdI_pos {a b : Int} (hb : 1 ≤ b) : 1 ≤ gcdI a b := by
  unfold gcdI
  have := Nat.gcd_pos_of_pos_right a.toNat (show 0 < b.toNat by omega)
  omega
theorem gcdI_scale {k a b : Int} (hk : 1 ≤ k) (ha : 0 ≤ a) (hb : 0 ≤ b) : gcdI (k * a) (k * b) = k * gcdI a b := by
  obtain ⟨z, rfl⟩ := Int.eq_ofNat_of_zero_le (show 0 ≤ k by omega)
  obtain ⟨x, rfl⟩ := Int.eq_ofNat_of_zero_le ha
  obtain ⟨y, rfl⟩ := Int.eq_ofNat_of_zero_le hb
  unfold gcdI
  rw [← Int.natCast_mul, ← Int.natCast_mul, show ((z * x : Nat) : Int).toNat = z * x from rfl, show ((z * y : Nat) : Int).toNat = z * y from rfl, Nat.gcd_mul_left, Int.natCast_mul]
  rfl
/-! The directions. -/
def dX (j : Int) : Int := if j = 0 then 0 else if j = 1 then 0 else if j = 2 then 3 else if j = 3 then 1 else if j = 4 then 2 else if j = 5 then 1 else if j = 6 then 4 else if j = 7 then 2 else if j = 8 then 0 else if j = 9 then 0 else if j = 10 then 6 else if j = 11 then 1 else 0
def dY (j : Int) : Int := if j = 0 then 0 else if j = 1 then 3 else if j = 2 then 0 else if j = 3 then 2 else if j = 4 then 3 else if j = 5 then 4 else if j = 6 then 4 else if j = 7 then 6 else if j = 8 then 5 else if j = 9 then 7 else if j = 10 then 6 else if j = 11 then 0 else 4
def dZ (j : Int) : Int := if j = 0 then 1 else if j = 1 then 4 else if j = 2 then 4 else if j = 3 then 2 else if j = 4 then 6 else if j = 5 then 8 else if j = 6 then 7 else if j = 7 then 9 else if j = 8 then 12 else if j = 9 then 24 else if j = 10 then 7 else if j = 11 then 0 else -3
def eX (q j : Int) : Int := if q = 1 then -dX j else if q = 2 then dX j else if q = 3 then dY j else dX j
def eY (q j : Int) : Int := if q = 1 then dY j else if q = 2 then -dY j else if q = 3 then dX j else dY j
def dirX (n : Int) : Int := eX (Int.tdiv (n % 52) 13) (n % 13)
def dirY (n : Int) : Int := eY (Int.tdiv (n % 52) 13) (n % 13)
def dirZ (n : Int) : Int := dZ (n % 13)
def len3 (x y z : Int) : Int := isqI (x * x + y * y + z * z)
def okV (x y z : Int) : Prop := (-16777216 ≤ x ∧ x ≤ 16777216) ∧ (-16777216 ≤ y ∧ y ≤ 16777216) ∧ (-16777216 ≤ z ∧ z ≤ 16777216) ∧ len3 x y z * len3 x y z = x * x + y * y + z * z ∧ len3 x y z ≤ 131072
instance (x y z : Int) : Decidable (okV x y z) := by unfold okV; infer_instance
def tD (x y z u v w : Int) : Int := len3 x y z * len3 u v w
def tN (x y z u v w : Int) : Int := tD x y z u v w - (x * u + y * v + z * w)
def okT (x y z u v w : Int) : Prop := okV x y z ∧ okV u v w ∧ 1 ≤ len3 x y z ∧ 1 ≤ len3 u v w ∧ 0 ≤ tN x y z u v w
instance (x y z u v w : Int) : Decidable (okT x y z u v w) := by unfold okT; infer_instance
def pN (x y z u v w : Int) : Int := tN x y z u v w / gcdI (tN x y z u v w) (tD x y z u v w)
def pD (x y z u v w : Int) : Int := tD x y z u v w / gcdI (tN x y z u v w) (tD x y z u v w)
theorem len3_nonneg (x y z : Int) : 0 ≤ len3 x y z := Int.natCast_nonneg _
end Go.Rx
