/- Plain arithmetic of the false alarms: rows of high samples, counted by how many high samples a sequence ends with. -/
import Derived.Test.YtngcfohmlppghaaKd
namespace Go.Proofs.Ytngcfohmlppghaa
open Go.RowKit

/-- How many errors reach the limit. -/
def highF (s m : Int) : Nat → Int → Int → Int
  | 0, _, h => h
  | f + 1, n, h => highF s m f (n + 1) (if m ≤ n * s then h + 1 else h)
def highV (n s m : Int) : Int := highF s m (2 * n + 1).toNat (-n) 0
def upd (f : Nat → Int) (i : Nat) (v : Int) : Nat → Int := fun j => if j = i then v else f j
def innerF (R : Nat → Int) (v h : Int) : Nat → Nat → (Nat → Int) → (Nat → Int)
  | 0, _, N => N
  | f + 1, row, N => innerF R v h f (row + 1) (upd (upd N (row + 1) (N (row + 1) + R row * h)) 0 (upd N (row + 1) (N (row + 1) + R row * h) 0 + R row * (v - h)))
def drawF (v h : Int) (k : Nat) (R : Nat → Int) : Nat → Int := innerF R v h k 0 (upd (fun _ => 0) k (R k * v))
def rowsF (v h : Int) (k : Nat) : Nat → (Nat → Int) → (Nat → Int)
  | 0, R => R
  | f + 1, R => rowsF v h k f (drawF v h k R)
def row0 : Nat → Int := upd (fun _ => 0) 0 1
/-- The sum of the rows from 0 to k. -/
def sumF (N : Nat → Int) : Nat → Int
  | 0 => N 0
  | k + 1 => sumF N k + N (k + 1)
def powF (v : Int) : Nat → Int
  | 0 => 1
  | f + 1 => powF v f * v

theorem upd_same (f : Nat → Int) (i : Nat) (v : Int) : upd f i v i = v := by simp [upd]
theorem upd_other (f : Nat → Int) {i j : Nat} (v : Int) (h : j ≠ i) : upd f i v j = f j := by simp [upd, h]
theorem sum_over (N : Nat → Int) (i : Nat) (d : Int) : ∀ k, k < i → sumF (upd N i (N i + d)) k = sumF N k
  | 0, h => by simp [sumF, upd, show ¬ (0 = i) by omega]
  | k + 1, h => by
    have := sum_over N i d k (by omega)
    simp only [sumF, this]
    rw [upd_other _ _ (by omega)]
theorem sum_upd (N : Nat → Int) (i : Nat) (d : Int) : ∀ k, i ≤ k → sumF (upd N i (N i + d)) k = sumF N k + d
  | 0, h => by
    obtain rfl : i = 0 := by omega
    simp [sumF, upd]
  | k + 1, h => by
    by_cases hk : i = k + 1
    · subst hk
      simp only [sumF]
      rw [sum_over _ _ _ _ (by omega), upd_same]
      omega
    · have := sum_upd N i d k (by omega)
      simp only [sumF, this]
      rw [upd_other _ _ (by omega)]
      omega
theorem sum_nonneg {N : Nat → Int} (h : ∀ j, 0 ≤ N j) : ∀ k, 0 ≤ sumF N k
  | 0 => h 0
  | k + 1 => by have := sum_nonneg h k; have := h (k + 1); simp only [sumF]; omega
theorem le_sum {N : Nat → Int} (h : ∀ j, 0 ≤ N j) (i : Nat) : ∀ k, i ≤ k → N i ≤ sumF N k
  | 0, hi => by
    obtain rfl : i = 0 := by omega
    exact Int.le_refl _
  | k + 1, hi => by
    have h0 := sum_nonneg h k
    by_cases hk : i = k + 1
    · subst hk; simp only [sumF]; omega
    · have := le_sum h i k (by omega); have := h (k + 1); simp only [sumF]; omega
theorem sum_zero : ∀ k, sumF (fun _ => 0) k = 0
  | 0 => rfl
  | k + 1 => by simp [sumF, sum_zero k]
theorem sum_split {R : Nat → Int} (h : ∀ j, 0 ≤ R j) {i k : Nat} (hk : i < k) : R i + R k ≤ sumF R k := by
  obtain ⟨k, rfl⟩ : ∃ n, k = n + 1 := ⟨k - 1, by omega⟩
  have := le_sum h i k (by omega)
  simp only [sumF]
  omega
/-- The bounds of a power of at most 31. -/
theorem pow_bd {v : Int} (h0 : 1 ≤ v) (h1 : v ≤ 31) : ∀ f, 1 ≤ powF v f ∧ powF v f ≤ powF 31 f
  | 0 => ⟨Int.le_refl _, Int.le_refl _⟩
  | f + 1 => by
    obtain ⟨a, b⟩ := pow_bd h0 h1 f
    have c : (1 : Int) * 1 ≤ powF v f * v := Int.mul_le_mul a h0 (by omega) (by omega)
    exact ⟨by simp only [powF]; omega, by simp only [powF]; exact Int.mul_le_mul b h1 (by omega) (by omega)⟩
theorem pow31_mono : ∀ {f g : Nat}, f ≤ g → powF 31 f ≤ powF 31 g := by
  intro f g h
  induction h with
  | refl => exact Int.le_refl _
  | @step n _ ih =>
    have := (pow_bd (v := 31) (by omega) (by omega) n).1
    have e : powF 31 (n + 1) = powF 31 n * 31 := rfl
    show powF 31 f ≤ powF 31 (n + 1)
    omega
theorem pow12 : powF 31 12 = 787662783788549761 := by kernel_rfl

/-- What holds of the rows that are being counted: none is below 0, and their sum is at most a bound. -/
def Rows0 (N : Nat → Int) (k : Nat) (b : Int) : Prop := (∀ j, 0 ≤ N j) ∧ sumF N k ≤ b
theorem rows0_upd {N : Nat → Int} {k : Nat} {b d : Int} (h : Rows0 N k b) {i : Nat} (hi : i ≤ k) (hd : 0 ≤ d) : Rows0 (upd N i (N i + d)) k (b + d) := by
  refine ⟨fun j => ?_, by rw [sum_upd _ _ _ _ hi]; have := h.2; omega⟩
  unfold upd
  split
  · have := h.1 i; omega
  · exact h.1 j
theorem rows0_le {N : Nat → Int} {k : Nat} {b : Int} (h : Rows0 N k b) {i : Nat} (hi : i ≤ k) : 0 ≤ N i ∧ N i ≤ b :=
  ⟨h.1 i, Int.le_trans (le_sum h.1 i k hi) h.2⟩
theorem high_bd (s m : Int) : ∀ f n h, 0 ≤ h → 0 ≤ highF s m f n h ∧ highF s m f n h ≤ h + f
  | 0, n, h, h0 => by simp [highF]; omega
  | f + 1, n, h, h0 => by
    simp only [highF]
    split
    · have := high_bd s m f (n + 1) (h + 1) (by omega); omega
    · have := high_bd s m f (n + 1) h h0; omega
end Go.Proofs.Ytngcfohmlppghaa
