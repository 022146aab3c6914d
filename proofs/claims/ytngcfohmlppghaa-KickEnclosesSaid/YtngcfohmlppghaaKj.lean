/- The contracts of divisions that are rounded down and up, by the program and by the reference. -/
import Derived.Test.YtngcfohmlppghaaKr
import Derived.Deep.LoopGhost
import Derived.Handy
namespace Go.Proofs.Ytngcfohmlppghaa
open Go.RowKit

theorem retj {k : IntKind} {a b : Int} (h : a = b) : Ending.returned (.int k a) = .returned (.int k b) := by rw [h]
/-- What the quotient and the remainder of a number below 0 are. -/
theorem neg_div (a b : Int) (ha : a < 0) (hb : 1 ≤ b) : ∃ q r : Int, a.tdiv b = -q ∧ a.tmod b = -r ∧ 0 ≤ q ∧ q ≤ -a ∧ 0 ≤ r ∧ r < b ∧ (r = 0 → a / b = -q) ∧ (r ≠ 0 → a / b = -q - 1) := by
  refine ⟨(-a) / b, (-a) % b, ?_, ?_, Int.ediv_nonneg (by omega) (by omega), Int.ediv_le_self _ (by omega), Int.emod_nonneg _ (by omega), Int.emod_lt_of_pos _ (by omega), ?_, ?_⟩
  · rw [show a = -(-a) by omega, Int.neg_tdiv, Int.tdiv_eq_ediv_of_nonneg (by omega), show - - -a = -a by omega]
  · rw [show a = -(-a) by omega, Int.neg_tmod, Int.tmod_eq_emod_of_nonneg (by omega), show - - -a = -a by omega]
  · intro h
    have e := Int.mul_ediv_add_emod (-a) b
    rw [h] at e
    have e2 : a = b * (-((-a) / b)) := by rw [Int.mul_neg]; omega
    conv => lhs; rw [e2]
    exact Int.mul_ediv_cancel_left _ (by omega)
  · intro h
    have e := Int.mul_ediv_add_emod (-a) b
    have r0 := Int.emod_nonneg (-a) (show b ≠ 0 by omega)
    have r1 := Int.emod_lt_of_pos (-a) (show 0 < b by omega)
    have e2 : a = (b - (-a) % b) + b * (-((-a) / b) - 1) := by rw [Int.mul_sub, Int.mul_neg]; omega
    conv => lhs; rw [e2]
    rw [Int.add_mul_ediv_left _ _ (by omega), Int.ediv_eq_zero_of_lt (by omega) (by omega)]
    omega

set_option maxHeartbeats 400000 in
theorem down_any (a b : Int) (a0 : -4611686018427387904 ≤ a) (a1 : a ≤ 4611686018427387904) (hb : 1 ≤ b) (b1 : b ≤ 4611686018427387904) (w : World) :
    Calls Try.prog 80 #[.int .i64 a, .int .i64 b] w fun e w' => e = .returned (.int .i64 (a / b)) ∧ w = w' := by
  have hb0 : ¬ b = 0 := by omega
  by_cases h : 0 ≤ a
  · have e0 : a.tdiv b = a / b := Int.tdiv_eq_ediv_of_nonneg h
    have e1 : a.tmod b = a % b := Int.tmod_eq_emod_of_nonneg h
    have e2 : 0 ≤ a / b := Int.ediv_nonneg h (by omega)
    have e3 : a / b ≤ a := Int.ediv_le_self _ h
    have e4 : 0 ≤ a % b := Int.emod_nonneg _ hb0
    go_enter Try.func80, Try.ntmps80
    go_wp2
    go_ret
    exact ⟨rfl, rfl⟩
  · obtain ⟨q, r, e0, e1, q0, q1, r0, r1, h0, h1⟩ := neg_div a b (by omega) hb
    have ha : a < 0 := by omega
    have E0 : Aside (a.tdiv b = -q) := e0
    by_cases hr : r = 0
    · have E : Aside (a / b = -q) := h0 hr
      subst hr
      clear h0 h1 h
      go_enter Try.func80, Try.ntmps80
      go_wp2
      go_ret
      have := E0.out
      have := E.out
      exact ⟨retj (by omega), rfl⟩
    · have E : Aside (a / b = -q - 1) := h1 hr
      have hr1 : 1 ≤ r := by omega
      clear h0 h1 h hr
      go_enter Try.func80, Try.ntmps80
      go_wp2
      go_ret
      have := E0.out
      have := E.out
      exact ⟨retj (by omega), rfl⟩

/-- Rounded up. -/
def cdiv (a b : Int) : Int := -((-a) / b)
set_option maxHeartbeats 400000 in
theorem up_any (a b : Int) (a0 : -4611686018427387904 ≤ a) (a1 : a ≤ 4611686018427387904) (hb : 1 ≤ b) (b1 : b ≤ 4611686018427387904) (w : World) :
    Calls Try.prog 81 #[.int .i64 a, .int .i64 b] w fun e w' => e = .returned (.int .i64 (cdiv a b)) ∧ w = w' := by
  have hb0 : ¬ b = 0 := by omega
  by_cases h : 0 < a
  · obtain ⟨q, r, e0, e1, q0, q1, r0, r1, h0, h1⟩ := neg_div (-a) b (by omega) hb
    rw [Int.neg_tdiv] at e0
    rw [Int.neg_tmod] at e1
    have f0 : a.tdiv b = q := by omega
    have f1 : a.tmod b = r := by omega
    have F0 : Aside (a.tdiv b = q) := f0
    rw [show - -a = a by omega] at q1
    by_cases hr : r = 0
    · have E : Aside (cdiv a b = q) := by show _ = _; unfold cdiv; rw [h0 hr]; omega
      subst hr
      clear h0 h1 e0 e1
      go_enter Try.func81, Try.ntmps81
      go_wp2
      go_ret
      have := F0.out
      have := E.out
      exact ⟨retj (by omega), rfl⟩
    · have E : Aside (cdiv a b = q + 1) := by show _ = _; unfold cdiv; rw [h1 hr]; omega
      have hr1 : 1 ≤ r := by omega
      clear h0 h1 e0 e1 hr
      go_enter Try.func81, Try.ntmps81
      go_wp2
      go_ret
      have := F0.out
      have := E.out
      exact ⟨retj (by omega), rfl⟩
  · have g0 : 0 ≤ -a := by omega
    have f0 : a.tdiv b = -((-a) / b) := by rw [show a = -(-a) by omega, Int.neg_tdiv, Int.tdiv_eq_ediv_of_nonneg g0, show - - -a = -a by omega]
    have f1 : a.tmod b = -((-a) % b) := by rw [show a = -(-a) by omega, Int.neg_tmod, Int.tmod_eq_emod_of_nonneg g0, show - - -a = -a by omega]
    have e4 : 0 ≤ (-a) % b := Int.emod_nonneg _ hb0
    have e2 : 0 ≤ (-a) / b := Int.ediv_nonneg g0 (by omega)
    have e3 : (-a) / b ≤ -a := Int.ediv_le_self _ g0
    have f2 : ¬ 0 < a.tmod b := by omega
    have F0 : Aside (a.tdiv b = -((-a) / b)) := f0
    have f3 : -4611686018427387904 ≤ a.tdiv b ∧ a.tdiv b ≤ 0 := by omega
    obtain ⟨f4, f5⟩ := f3
    clear f0 f1 e4 e2 e3 g0
    go_enter Try.func81, Try.ntmps81
    go_wp2
    go_ret
    exact ⟨retj F0.out, rfl⟩
end Go.Proofs.Ytngcfohmlppghaa
