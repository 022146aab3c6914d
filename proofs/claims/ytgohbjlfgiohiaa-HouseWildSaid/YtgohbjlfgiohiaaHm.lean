/- The remainder of an int, from 0 to m - 1, whatever the sign. -/
import Derived.Test.YtgohbjlfgiohiaaHa
namespace Go.Proofs.Ytgohbjlfgiohiaa
open Go.RowKit

set_option maxHeartbeats 400000 in
theorem mod_any (n m : Int) (h0 : -9223372036854775808 ≤ n) (h1 : n ≤ 9223372036854775807) (m0 : 1 ≤ m) (m1 : m ≤ 4611686018427387904) (w : World) :
    Calls Try.prog 28 #[.int .i64 n, .int .i64 m] w fun e w' => e = .returned (.int .i64 (n % m)) ∧ w = w' := by
  have hm : ¬ m = 0 := by omega
  by_cases h : 0 ≤ n
  · have e0 : n.tmod m = n % m := Int.tmod_eq_emod_of_nonneg h
    have e1 : 0 ≤ n % m := Int.emod_nonneg _ hm
    have e2 : n % m < m := Int.emod_lt_of_pos _ (by omega)
    go_enter Try.func28, Try.ntmps28
    go_wp2
    go_ret
    exact ⟨rfl, rfl⟩
  · obtain ⟨r, hr⟩ : ∃ r : Int, r = (-n) % m := ⟨_, rfl⟩
    have r0 : 0 ≤ r := by rw [hr]; exact Int.emod_nonneg _ hm
    have r1 : r < m := by rw [hr]; exact Int.emod_lt_of_pos _ (by omega)
    have e0 : n.tmod m = -r := by
      rw [show n = -(-n) by omega, Int.neg_tmod, Int.tmod_eq_emod_of_nonneg (by omega), ← hr]
    have e1 : n % m = (m - r) % m := by
      have := Int.emod_add_mul_ediv (-n) m
      rw [← hr] at this
      have e : n = (m - r) + m * (-((-n) / m) - 1) := by
        rw [Int.mul_sub, Int.mul_neg]
        omega
      conv => lhs; rw [e]
      exact Int.add_mul_emod_self_left _ _ _
    have hn : n < 0 := by omega
    by_cases hz : r = 0
    · have e2 : n % m = 0 := by rw [e1, hz]; simp
      rw [hz] at e0
      rw [e2]
      clear e1 hr e2 hz h
      go_enter Try.func28, Try.ntmps28
      go_wp2
      go_ret
      exact ⟨rfl, rfl⟩
    · have e2 : n % m = m - r := by rw [e1, Int.emod_eq_of_lt (by omega) (by omega)]
      have r2 : 1 ≤ r := by omega
      have E0 : Aside (n.tmod m = -r) := e0
      rw [e2]
      clear e1 hr e2 hz h
      go_enter Try.func28, Try.ntmps28
      go_wp2
      go_ret
      have := E0.out
      exact ⟨ret_i (by omega), rfl⟩

end Go.Proofs.Ytgohbjlfgiohiaa
