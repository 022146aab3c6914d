/-
  Layer 3: divisions, by the symbolic run.
-/
import Derived.Test.YtgjnkdedknpniaaKx
import Derived.Test.YtgjnkdedknpniaaFm
set_option linter.unusedSimpArgs false
set_option linter.unusedVariables false
namespace Go.Proofs.Ytgjnkdedknpniaa
open Go Go.Rx

abbrev AW : Nat := 14
/-- Only the call of the examples is told of. -/
abbrev sp0 {A : Go.Rx.Alg} : Go.Rx.SpL A := [(AW, Go.Rx.awakeS)]
abbrev fs0 : Fs := ⟨fun _ _ _ => 0, fun _ _ _ => false, fun _ _ _ => []⟩
theorem sp0_ok {fs : Fs} {ov : Bool} {d : Nat} : SpOK (fs := fs) (ov := ov) Try.prog AW d sp0 := SpOK.cons awake_ok SpOK.nil
theorem sp0_aw {fs : Fs} {ov : Bool} : (spOf (A := stdA fs ov) sp0 AW).isSome = true := rfl
theorem down_eq (a b : Int) (KK : KS (stdA fs0 true)) : sFunc Try.prog 30 (sCall Try.prog 30 (spOf sp0) noLoop 20) noLoop 65 [.i .i64 a, .i .i64 b] .l 0 KK =
  (b ≠ 0 ∧ (InK .i64 (Int.tdiv a b) ∧ (b ≠ 0 ∧ (cond (decide ((Int.tmod a b) < (0 : Int)))
 (InK .i64 ((Int.tdiv a b) - (1 : Int)) ∧ (KK (.i .i64 ((Int.tdiv a b) - (1 : Int))) .l 0 []))
 (KK (.i .i64 (Int.tdiv a b)) .l 0 []))))) := by kernel_rfl
theorem up_eq (a b : Int) (KK : KS (stdA fs0 true)) : sFunc Try.prog 30 (sCall Try.prog 30 (spOf sp0) noLoop 20) noLoop 66 [.i .i64 a, .i .i64 b] .l 0 KK =
  (b ≠ 0 ∧ (InK .i64 (Int.tdiv a b) ∧ (b ≠ 0 ∧ (cond (decide ((Int.tmod a b) > (0 : Int)))
 (InK .i64 ((Int.tdiv a b) + (1 : Int)) ∧ (KK (.i .i64 ((Int.tdiv a b) + (1 : Int))) .l 0 []))
 (KK (.i .i64 (Int.tdiv a b)) .l 0 []))))) := by kernel_rfl
theorem rup_eq (a b : Int) (KK : KS (stdA fs0 true)) : sFunc Try.prog 30 (sCall Try.prog 30 (spOf sp0) noLoop 20) noLoop 67 [.i .i64 a, .i .i64 b] .l 0 KK =
  (InK .i64 (a + b) ∧ (InK .i64 ((a + b) - (1 : Int)) ∧ (b ≠ 0 ∧ (InK .i64 (Int.tdiv ((a + b) - (1 : Int)) b) ∧ (KK (.i .i64 (Int.tdiv ((a + b) - (1 : Int)) b)) .l 0 []))))) := by kernel_rfl
theorem mod64_eq (a b : Int) (KK : KS (stdA fs0 true)) : sFunc Try.prog 30 (sCall Try.prog 30 (spOf sp0) noLoop 20) noLoop 45 [.i .i64 a, .i .i64 b] .l 0 KK =
  (b ≠ 0 ∧ (cond (decide ((Int.tmod a b) < (0 : Int)))
 (InK .i64 ((Int.tmod a b) + b) ∧ (KK (.i .i64 ((Int.tmod a b) + b)) .l 0 []))
 (KK (.i .i64 (Int.tmod a b)) .l 0 []))) := by kernel_rfl
section
variable {m : Nat} (hm : 100 ≤ m) {H : Hp} {nx : Nat}
include hm
theorem down_pure (a b : Int) (a0 : -9223372036854775808 ≤ a) (a1 : a ≤ 9223372036854775807) (hb : 1 ≤ b) : Pure Try.prog AW m 65 [.i .i64 a, .i .i64 b] H nx (.i .i64 (a / b)) := by
  refine pure_of (n := 20) (d := m - 21) (U := 30) (fs := fs0) (ov := true) sp0_ok sp0_aw noLoop_ok (by decide) (by decide) (by omega) (args := [.i .i64 a, .i .i64 b]) (M := .l) (snx := 0) ?_ (VSL.cons rfl (VSL.cons rfl rfl)) hs_empty
  rw [down_eq]
  simp only [cond_iff, InK64]
  obtain ⟨h1, h2, h3, h4, h5⟩ := down_math a b hb
  refine ⟨by omega, by omega, by omega, fun h => ⟨?_, end_i (h1 h)⟩, fun h => end_i (h2 h)⟩
  by_cases h0 : 0 ≤ a
  · omega
  · rcases h5 (by omega) h with h5 | h5
    · omega
    · subst h5; simp at h
theorem up_pure (a b : Int) (a0 : -9223372036854775808 ≤ a) (a1 : a ≤ 9223372036854775806) (hb : 1 ≤ b) : Pure Try.prog AW m 66 [.i .i64 a, .i .i64 b] H nx (.i .i64 (cdiv a b)) := by
  refine pure_of (n := 20) (d := m - 21) (U := 30) (fs := fs0) (ov := true) sp0_ok sp0_aw noLoop_ok (by decide) (by decide) (by omega) (args := [.i .i64 a, .i .i64 b]) (M := .l) (snx := 0) ?_ (VSL.cons rfl (VSL.cons rfl rfl)) hs_empty
  rw [up_eq]
  simp only [cond_iff, InK64]
  obtain ⟨h1, h2, h3, h4⟩ := up_math a b hb
  exact ⟨by omega, by omega, by omega, fun h => ⟨by omega, end_i (h1 h)⟩, fun h => end_i (h2 h)⟩
theorem rup_pure (a b : Int) (a0 : 0 ≤ a) (a1 : a + b ≤ 9223372036854775807) (hb : 1 ≤ b) : Pure Try.prog AW m 67 [.i .i64 a, .i .i64 b] H nx (.i .i64 (cdiv a b)) := by
  refine pure_of (n := 20) (d := m - 21) (U := 30) (fs := fs0) (ov := true) sp0_ok sp0_aw noLoop_ok (by decide) (by decide) (by omega) (args := [.i .i64 a, .i .i64 b]) (M := .l) (snx := 0) ?_ (VSL.cons rfl (VSL.cons rfl rfl)) hs_empty
  rw [rup_eq]
  simp only [cond_iff, InK64]
  have e := Int.tdiv_eq_ediv_of_nonneg (show 0 ≤ a + b - 1 by omega) (b := b)
  have q0 := Int.ediv_nonneg (show 0 ≤ a + b - 1 by omega) (show 0 ≤ b by omega)
  have q1 := Int.ediv_le_self b (show 0 ≤ a + b - 1 by omega)
  exact ⟨by omega, by omega, by omega, by omega, end_i (e.trans (cdiv_eq a b a0 hb).symm)⟩
theorem mod64_pure (a b : Int) (hb : 1 ≤ b) (b1 : b ≤ 9223372036854775807) : Pure Try.prog AW m 45 [.i .i64 a, .i .i64 b] H nx (.i .i64 (a % b)) := by
  refine pure_of (n := 20) (d := m - 21) (U := 30) (fs := fs0) (ov := true) sp0_ok sp0_aw noLoop_ok (by decide) (by decide) (by omega) (args := [.i .i64 a, .i .i64 b]) (M := .l) (snx := 0) ?_ (VSL.cons rfl (VSL.cons rfl rfl)) hs_empty
  rw [mod64_eq]
  simp only [cond_iff, InK64]
  have e0 := Int.emod_nonneg a (show b ≠ 0 by omega)
  have e1 := Int.emod_lt_of_pos a (show 0 < b by omega)
  by_cases h : 0 ≤ a
  · have e := Int.tmod_eq_emod_of_nonneg h (b := b)
    exact ⟨by omega, fun h => absurd h (by omega), fun h => end_i e⟩
  · have e : a.tmod b = -((-a) % b) := by rw [show a = -(-a) by omega, Int.neg_tmod, Int.tmod_eq_emod_of_nonneg (by omega), show - - -a = -a by omega]
    have r0 := Int.emod_nonneg (-a) (show b ≠ 0 by omega)
    have r1 := Int.emod_lt_of_pos (-a) (show 0 < b by omega)
    have s1 := Int.mul_ediv_add_emod (-a) b
    by_cases hz : (-a) % b = 0
    · have : a % b = 0 := by
        have := Int.emod_emod_of_dvd (-a) (Int.dvd_refl b)
        rw [← Int.dvd_iff_emod_eq_zero] at hz ⊢
        exact (Int.dvd_neg.1 hz)
      exact ⟨by omega, fun h => absurd h (by omega), fun h => end_i (by omega)⟩
    · have : a % b = b - (-a) % b := by
        have e2 : a = (b - (-a) % b) + b * (-((-a) / b) - 1) := by rw [Int.mul_sub, Int.mul_neg]; omega
        conv => lhs; rw [e2]
        rw [Int.add_mul_emod_self_left, Int.emod_eq_of_lt (by omega) (by omega)]
      exact ⟨by omega, fun h => ⟨by omega, end_i (by omega)⟩, fun h => absurd h (by omega)⟩
end
end Go.Proofs.Ytgjnkdedknpniaa
