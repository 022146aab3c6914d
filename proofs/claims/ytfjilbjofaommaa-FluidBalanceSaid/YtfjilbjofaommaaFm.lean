/-
  Divisions that are rounded. No program.
-/
import Derived.Test.YtfjilbjofaommaaYn
set_option linter.unusedSimpArgs false
set_option linter.unusedVariables false
namespace Go.Rx
open Go
/-- Rounded up. -/
def cdiv (a b : Int) : Int := -((-a) / b)
theorem neg_div (a b : Int) (ha : a < 0) (hb : 1 ≤ b) : ∃ q r : Int, a.tdiv b = -q ∧ a.tmod b = -r ∧ 0 ≤ q ∧ q ≤ -a ∧ 0 ≤ r ∧ r < b ∧ (r = 0 → a / b = -q) ∧ (r ≠ 0 → a / b = -q - 1) := by
  refine ⟨(-a) / b, (-a) % b, ?_, ?_, Int.ediv_nonneg (by omega) (by omega), Int.ediv_le_self _ (by omega), Int.emod_nonneg _ (by omega), Int.emod_lt_of_pos _ (by omega), ?_, ?_⟩
  · rw [show a = -(-a) by omega, Int.neg_tdiv, Int.tdiv_eq_ediv_of_nonneg (by omega), show - - -a = -a by omega]
  · rw [show a = -(-a) by omega, Int.neg_tmod, Int.tmod_eq_emod_of_nonneg (by omega), show - - -a = -a by omega]
  · intro h
    have e := Int.mul_ediv_add_emod (-a) b
    rw [h] at e
    have e2 : a = b * (-((-a) / b)) := by rw [Int.mul_neg]; omega
    conv => lhs; rw [e2]
    exact Int.mul_ediv_cancel_left _ (by omega)
  · intro h
    have e := Int.mul_ediv_add_emod (-a) b
    have r0 := Int.emod_nonneg (-a) (show b ≠ 0 by omega)
    have r1 := Int.emod_lt_of_pos (-a) (show 0 < b by omega)
    have e2 : a = (b - (-a) % b) + b * (-((-a) / b) - 1) := by rw [Int.mul_sub, Int.mul_neg]; omega
    conv => lhs; rw [e2]
    rw [Int.add_mul_ediv_left _ _ (by omega), Int.ediv_eq_zero_of_lt (by omega) (by omega)]
    omega
theorem down_math (a b : Int) (hb : 1 ≤ b) : (a.tmod b < 0 → a.tdiv b - 1 = a / b) ∧ (¬ a.tmod b < 0 → a.tdiv b = a / b) ∧ (0 ≤ a → 0 ≤ a.tdiv b ∧ a.tdiv b ≤ a) ∧ (a < 0 → a ≤ a.tdiv b ∧ a.tdiv b ≤ 0) ∧ (a < 0 → a.tmod b < 0 → a < a.tdiv b ∨ b = 1) := by
  by_cases h : 0 ≤ a
  · have e0 : a.tdiv b = a / b := Int.tdiv_eq_ediv_of_nonneg h
    have e1 : a.tmod b = a % b := Int.tmod_eq_emod_of_nonneg h
    have e2 : 0 ≤ a / b := Int.ediv_nonneg h (by omega)
    have e3 : a / b ≤ a := Int.ediv_le_self _ h
    have e4 : 0 ≤ a % b := Int.emod_nonneg _ (by omega)
    omega
  · obtain ⟨q, r, e0, e1, q0, q1, r0, r1, h0, h1⟩ := neg_div a b (by omega) hb
    refine ⟨fun h => ?_, fun h => ?_, by omega, by omega, fun h2 h3 => ?_⟩
    · have := h1 (by omega); omega
    · have := h0 (by omega); omega
    · by_cases hb1 : b = 1
      · exact .inr hb1
      · refine .inl ?_
        have e : (-a) / b < -a := Int.ediv_lt_self_of_pos_of_ne_one (by omega) (by omega)|> fun h => h
        have : a.tdiv b = -((-a)/b) := by rw [show a = -(-a) by omega, Int.neg_tdiv, Int.tdiv_eq_ediv_of_nonneg (by omega), show - - -a = -a by omega]
        omega
theorem up_math (a b : Int) (hb : 1 ≤ b) : (a.tmod b > 0 → a.tdiv b + 1 = cdiv a b) ∧ (¬ a.tmod b > 0 → a.tdiv b = cdiv a b) ∧ (0 ≤ a → 0 ≤ a.tdiv b ∧ a.tdiv b ≤ a) ∧ (a < 0 → a ≤ a.tdiv b ∧ a.tdiv b ≤ 0) := by
  unfold cdiv
  by_cases h : 0 < a
  · obtain ⟨q, r, e0, e1, q0, q1, r0, r1, h0, h1⟩ := neg_div (-a) b (by omega) hb
    rw [Int.neg_tdiv] at e0
    rw [Int.neg_tmod] at e1
    refine ⟨fun h => ?_, fun h => ?_, by omega, by omega⟩
    · have := h1 (by omega); omega
    · have := h0 (by omega); omega
  · have e : a.tdiv b = -((-a) / b) := by rw [show a = -(-a) by omega, Int.neg_tdiv, Int.tdiv_eq_ediv_of_nonneg (by omega), show - - -a = -a by omega]
    have e1 : a.tmod b = -((-a) % b) := by rw [show a = -(-a) by omega, Int.neg_tmod, Int.tmod_eq_emod_of_nonneg (by omega), show - - -a = -a by omega]
    have r0 := Int.emod_nonneg (-a) (show b ≠ 0 by omega)
    have q0 := Int.ediv_nonneg (show 0 ≤ -a by omega) (show 0 ≤ b by omega)
    have q1 := Int.ediv_le_self b (show 0 ≤ -a by omega)
    omega
theorem cdiv_eq (a b : Int) (ha : 0 ≤ a) (hb : 1 ≤ b) : cdiv a b = (a + b - 1) / b := by
  unfold cdiv
  have e := Int.mul_ediv_add_emod (-a) b
  have r0 := Int.emod_nonneg (-a) (show b ≠ 0 by omega)
  have r1 := Int.emod_lt_of_pos (-a) (show 0 < b by omega)
  have e3 : b * (-((-a) / b)) = -(b * ((-a) / b)) := Int.mul_neg _ _
  have e2 : a + b - 1 = (b - 1 - (-a) % b) + b * (-((-a) / b)) := by omega
  have e4 : (b - 1 - (-a) % b) / b = 0 := Int.ediv_eq_zero_of_lt (by omega) (by omega)
  rw [e2, Int.add_mul_ediv_left _ _ (by omega), e4]
  omega
theorem fdiv_pow (a b : Int) (hb : 0 ≤ b) : a.fdiv b = a / b := Int.fdiv_eq_ediv_of_nonneg a hb
/-- The end of a call that gives a number. -/
theorem end_i {fs : Fs} {ov : Bool} {k : IntKind} {x y : Int} {n : Nat} {M : SH (stdA fs ov)} (h : x = y) : doneK (fs := fs) (ov := ov) (.i k y) n (.i k x) M n [] := ⟨fun _ _ hv => by rw [show _ = _ from hv, h], rfl, rfl⟩
theorem end_b {fs : Fs} {ov : Bool} {x y : Bool} {n : Nat} {M : SH (stdA fs ov)} (h : x = y) : doneK (fs := fs) (ov := ov) (.b y) n (.b x) M n [] := ⟨fun _ _ hv => by rw [show _ = _ from hv, h], rfl, rfl⟩
theorem end_ii {fs : Fs} {ov : Bool} {k k' : IntKind} {x y x' y' : Int} {n : Nat} {M : SH (stdA fs ov)} (h : x = y) (h' : x' = y') : doneK (fs := fs) (ov := ov) (.agg [.i k y, .i k' y']) n (.agg [.i k x, .i k' x']) M n [] :=
  ⟨fun _ _ hv => by obtain ⟨l, rfl, a, r, rfl, rfl, a2, r2, rfl, rfl, rfl⟩ := hv; rw [h, h'], rfl, rfl⟩
theorem end_ib {fs : Fs} {ov : Bool} {k : IntKind} {x y : Int} {x' y' : Bool} {n : Nat} {M : SH (stdA fs ov)} (h : x = y) (h' : x' = y') : doneK (fs := fs) (ov := ov) (.tup [.i k y, .b y']) n (.tup [.i k x, .b x']) M n [] :=
  ⟨fun _ _ hv => by obtain ⟨l, rfl, a, r, rfl, rfl, a2, r2, rfl, rfl, rfl⟩ := hv; rw [h, h'], rfl, rfl⟩
end Go.Rx
