/-
  Layer 3: holes, their volumes, heights and places. No program.
-/
import Derived.Test.YtfjilbjofaommaaLe
import Derived.Test.YtfjilbjofaommaaFm
set_option linter.unusedSimpArgs false
set_option linter.unusedVariables false
namespace Go.Rx
open Go
/-- A segment that a hole may not have. -/
def sBad (l : Ll) (i : Int) : Bool := decide (Ll.get l i 0 < 1 ∨ Ll.get l i 1 < 0 ∨ Ll.get l i 0 < Ll.get l i 1 ∨ Ll.get l i 2 < 1 ∨ 5000 < Ll.get l i 2 ∨ Ll.get l i 3 < 1 ∨ 200 < Ll.get l i 3)
def bI (l : Ll) : Int := leastN (sBad l) l.length 0
def sumN (l : Ll) : Nat → Int | 0 => 0 | n + 1 => sumN l n + Ll.get l n 0
def minN (l : Ll) : Nat → Int | 0 => 0 | n + 1 => minN l n + minL (Ll.get l n 0) 1048577
def volN (l : Ll) : Nat → Int | 0 => 0 | n + 1 => volN l n + Ll.get l n 0 * Ll.get l n 2
def risN (l : Ll) : Nat → Int | 0 => 0 | n + 1 => risN l n + Ll.get l n 1
def holeE (l : Ll) : Int := if l.length = 0 then 6 else if 16 < l.length then 8 else if bI l < l.length then 2 else if 1048576 < sumN l l.length then 5 else 0
def holeV (l : Ll) : Int := if holeE l = 0 then volN l l.length else 0
def hgtP (l : Ll) : Nat → Ll | 0 => [[0, 0]] | n + 1 => hgtP l n ++ [[volN l (n + 1), risN l (n + 1)]]
def hgtL (l : Ll) : Ll := if holeE l = 0 then hgtP l l.length else []
/-- The first segment above whose bottom part a place lies. -/
def whN (l : Ll) (u : Int) : Int := leastN (fun j => decide (u < volN l (j.toNat + 1))) l.length 0
def whI (l : Ll) (u : Int) : Int := if whN l u < l.length then whN l u else l.length - 1
def whereI (l : Ll) (u : Int) : Int := if holeE l = 0 ∧ 0 ≤ u ∧ u ≤ volN l l.length then whI l u else -1

theorem sBad_no {l : Ll} {i : Int} (h : sBad l i = false) : 1 ≤ Ll.get l i 0 ∧ 0 ≤ Ll.get l i 1 ∧ Ll.get l i 1 ≤ Ll.get l i 0 ∧ 1 ≤ Ll.get l i 2 ∧ Ll.get l i 2 ≤ 5000 ∧ 1 ≤ Ll.get l i 3 ∧ Ll.get l i 3 ≤ 200 := by
  unfold sBad at h
  simp only [decide_eq_false_iff_not] at h
  omega
theorem bI_spec (l : Ll) : 0 ≤ bI l ∧ bI l ≤ l.length ∧ (∀ j : Int, 0 ≤ j → j < bI l → sBad l j = false) := by
  obtain ⟨a, b, c, d⟩ := leastN_spec (sBad l) l.length 0
  exact ⟨a, by unfold bI; omega, c⟩
/-- All segments before one are good. -/
def GoodN (l : Ll) (n : Nat) : Prop := ∀ j : Nat, j < n → sBad l j = false
theorem good_of {l : Ll} {n : Nat} (h : (n : Int) ≤ bI l) : GoodN l n := fun j hj => (bI_spec l).2.2 j (by omega) (by omega)
theorem good_all {l : Ll} (h : ¬ bI l < l.length) : GoodN l l.length := good_of (by omega)
theorem sumN_b {l : Ll} : ∀ {n : Nat}, GoodN l n → (n : Int) ≤ sumN l n ∧ 0 ≤ risN l n ∧ risN l n ≤ sumN l n ∧ (n : Int) ≤ volN l n ∧ volN l n ≤ 5000 * sumN l n ∧ (n : Int) ≤ minN l n ∧ minN l n ≤ n * 1048577 ∧ (minN l n = sumN l n ∨ (1048576 < minN l n ∧ 1048576 < sumN l n))
  | 0, _ => by simp [sumN, risN, volN, minN]
  | n + 1, h => by
    obtain ⟨a1, a2, a3, a4, a5, a6, a7, a8⟩ := sumN_b (n := n) fun j hj => h j (by omega)
    obtain ⟨b1, b2, b3, b4, b5, b6, b7⟩ := sBad_no (h n (by omega))
    simp only [sumN, risN, volN, minN, minL_eq]
    have m1 : Ll.get l n 0 ≤ Ll.get l n 0 * Ll.get l n 2 := by
      have := Int.mul_le_mul_of_nonneg_left b4 (show 0 ≤ Ll.get l n 0 by omega); omega
    have m2 : Ll.get l n 0 * Ll.get l n 2 ≤ Ll.get l n 0 * 5000 := Int.mul_le_mul_of_nonneg_left b5 (by omega)
    refine ⟨by omega, by omega, by omega, by omega, by omega, ?_, ?_, ?_⟩ <;> (split <;> omega)
theorem sumN_mono {l : Ll} {n : Nat} (h : GoodN l n) : ∀ {k : Nat}, k ≤ n → sumN l k + (n - k : Nat) ≤ sumN l n ∧ volN l k ≤ volN l n := by
  intro k hk
  induction n with
  | zero => obtain rfl : k = 0 := by omega
            simp
  | succ n ih =>
    by_cases e : k = n + 1
    · subst e; simp
    · obtain ⟨i1, i2⟩ := ih (fun j hj => h j (by omega)) (by omega)
      obtain ⟨b1, b2, b3, b4, b5, b6, b7⟩ := sBad_no (h n (by omega))
      have m1 : Ll.get l n 0 ≤ Ll.get l n 0 * Ll.get l n 2 := by
        have := Int.mul_le_mul_of_nonneg_left b4 (show 0 ≤ Ll.get l n 0 by omega); omega
      simp only [sumN, volN]
      have : ((n + 1 - k : Nat) : Int) = ((n - k : Nat) : Int) + 1 := by omega
      omega
/-- A valid hole. -/
structure HoleOK (l : Ll) : Prop where
  len : 1 ≤ l.length ∧ l.length ≤ 16
  bad : ¬ bI l < l.length
  sum : sumN l l.length ≤ 1048576
theorem hole_of {l : Ll} (h : holeE l = 0) : HoleOK l := by
  unfold holeE at h
  split at h
  · omega
  · split at h
    · omega
    · split at h
      · omega
      · split at h
        · omega
        · exact ⟨by omega, by assumption, by omega⟩
theorem HoleOK.good {l : Ll} (h : HoleOK l) : GoodN l l.length := good_all h.bad
theorem HoleOK.at {l : Ll} (h : HoleOK l) {i : Int} (h0 : 0 ≤ i) (h1 : i < l.length) : (1 ≤ Ll.get l i 0 ∧ Ll.get l i 0 ≤ 1048576) ∧ 0 ≤ Ll.get l i 1 ∧ Ll.get l i 1 ≤ Ll.get l i 0 ∧ 1 ≤ Ll.get l i 2 ∧ Ll.get l i 2 ≤ 5000 ∧ 1 ≤ Ll.get l i 3 ∧ Ll.get l i 3 ≤ 200 := by
  obtain ⟨k, rfl⟩ : ∃ k : Nat, i = k := ⟨i.toNat, by omega⟩
  obtain ⟨b1, b2, b3, b4, b5, b6, b7⟩ := sBad_no (h.good k (by omega))
  have h2 := (sumN_mono h.good (k := k + 1) (by omega)).1
  have h3 := (sumN_b (fun j hj => h.good j (by omega) : GoodN l k)).1
  have := h.sum
  simp only [sumN] at h2
  omega
/-- What is reckoned on the way lies in its ranges. -/
theorem HoleOK.b {l : Ll} (h : HoleOK l) {n : Nat} (hn : n ≤ l.length) : (n : Int) ≤ sumN l n ∧ sumN l n ≤ 1048576 ∧ 0 ≤ risN l n ∧ risN l n ≤ 1048576 ∧ (n : Int) ≤ volN l n ∧ volN l n ≤ 5242880000 ∧ volN l n ≤ volN l l.length := by
  obtain ⟨a1, a2, a3, a4, a5, _⟩ := sumN_b (n := n) fun j hj => h.good j (by omega)
  obtain ⟨c1, c2⟩ := sumN_mono h.good hn
  have := h.sum
  omega
theorem volN_succ {l : Ll} {i : Int} (h : 0 ≤ i) : volN l (i.toNat + 1) = volN l i.toNat + Ll.get l i 0 * Ll.get l i 2 := by
  show volN l i.toNat + Ll.get l (i.toNat : Int) 0 * Ll.get l (i.toNat : Int) 2 = _
  rw [Int.toNat_of_nonneg h]
theorem risN_succ {l : Ll} {i : Int} (h : 0 ≤ i) : risN l (i.toNat + 1) = risN l i.toNat + Ll.get l i 1 := by
  show risN l i.toNat + Ll.get l (i.toNat : Int) 1 = _
  rw [Int.toNat_of_nonneg h]
theorem sumN_succ {l : Ll} {i : Int} (h : 0 ≤ i) : sumN l (i.toNat + 1) = sumN l i.toNat + Ll.get l i 0 := by
  show sumN l i.toNat + Ll.get l (i.toNat : Int) 0 = _
  rw [Int.toNat_of_nonneg h]
theorem minN_succ {l : Ll} {i : Int} (h : 0 ≤ i) : minN l (i.toNat + 1) = minN l i.toNat + minL (Ll.get l i 0) 1048577 := by
  show minN l i.toNat + minL (Ll.get l (i.toNat : Int) 0) 1048577 = _
  rw [Int.toNat_of_nonneg h]
theorem hgtP_len (l : Ll) : ∀ n, (hgtP l n).length = n + 1
  | 0 => rfl
  | n + 1 => by simp [hgtP, hgtP_len l n]
theorem hgtP_rows (l : Ll) : ∀ n, ∀ x ∈ hgtP l n, x.length = 2
  | 0, x, h => by simp [hgtP] at h; subst h; rfl
  | n + 1, x, h => by
    rw [hgtP, List.mem_append] at h
    rcases h with h | h
    · exact hgtP_rows l n x h
    · simp at h; subst h; rfl
theorem whN_spec (l : Ll) (u : Int) : 0 ≤ whN l u ∧ whN l u ≤ l.length := by
  obtain ⟨a, b, c, d⟩ := leastN_spec (fun j => decide (u < volN l (j.toNat + 1))) l.length 0
  exact ⟨a, by unfold whN; omega⟩
/-- A segment begins at or below a place just where it is not above the first one that ends above. -/
theorem from_le {l : Ll} {u : Int} (h : HoleOK l) (hu : 0 ≤ u) {i : Nat} (hi : i < l.length) : volN l i ≤ u ↔ (i : Int) ≤ whN l u := by
  obtain ⟨a, b, c, d⟩ := leastN_spec (fun j => decide (u < volN l (j.toNat + 1))) l.length 0
  constructor
  · intro hv
    refine Int.not_lt.1 fun hlt => ?_
    rcases d with d | d
    · unfold whN at hlt; omega
    · have d : decide (u < volN l ((whN l u).toNat + 1)) = true := d
      have d := of_decide_eq_true d
      have := (sumN_mono (l := l) (n := i) (fun j hj => h.good j (by omega)) (k := (whN l u).toNat + 1) (by have : 0 ≤ whN l u := a; omega)).2
      omega
  · intro hle
    by_cases hz : i = 0
    · subst hz; exact hu
    · have := c ((i : Int) - 1) (by omega) (by unfold whN at hle; omega)
      simp only [decide_eq_false_iff_not] at this
      rw [show ((i : Int) - 1).toNat + 1 = i by omega] at this
      omega
/-- Where a place lies, among the first segments. -/
def wAt (l : Ll) (u i : Int) : Int := if i = 0 then -1 else if i - 1 ≤ whN l u then i - 1 else whN l u
/-- Lists of knots that are compared. -/
def rowE2 (a b : Ll) (j : Int) : Bool := decide (Ll.get a j 0 = Ll.get b j 0) && decide (Ll.get a j 1 = Ll.get b j 1)
def dfL (a b : Ll) : Int := leastN (fun j => !rowE2 a b j) (min a.length b.length) 0
def sameL2 (a b : Ll) : Bool := decide (a.length = b.length ∧ ¬ dfL a b < (min a.length b.length : Nat))
theorem sameL2_self (a : Ll) : sameL2 a a = true := by
  have h : ¬ dfL a a < ((min a.length a.length : Nat) : Int) := fun h => by
    obtain ⟨j, h1, h2, h3⟩ := (leastN_lt _ _).1 h
    simp [rowE2] at h3
  exact decide_eq_true ⟨rfl, h⟩
theorem mul_bd {a b : Int} {m n : Int} (h0 : 0 ≤ a) (h1 : a ≤ m) (h2 : 0 ≤ b) (h3 : b ≤ n) : 0 ≤ a * b ∧ a * b ≤ m * n := ⟨Int.mul_nonneg h0 h2, Int.mul_le_mul h1 h3 h2 (by omega)⟩
end Go.Rx
