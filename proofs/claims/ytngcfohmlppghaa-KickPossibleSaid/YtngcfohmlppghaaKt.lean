/- Pairs of functions of layer 6 that return the same: flows and gains. -/
import Derived.Test.YtngcfohmlppghaaKd
namespace Go.Proofs.Ytngcfohmlppghaa
open Go.RowKit

def flowE (r g n : Int) : Int := if kickB r g = true ∧ n ≤ 20000 then flowV r g n else 0
def gainE (r g n : Int) : Int := if kickB r g = true ∧ n ≤ 20000 then gainV r g n else 0

set_option maxHeartbeats 400000 in
theorem flow_all (r g n : Int) (w : World) :
    Calls Try.prog 40 #[.agg #[.int .i64 r, .int .i64 g], .int .i64 n] w fun e w' => e = .returned (.int .i64 (flowE r g n)) ∧ Below w.heap.size w w' := by
  cases hk : kickB r g
  · have e0 : flowE r g n = 0 := by simp [flowE, hk]
    rw [e0]; clear e0
    go_enter Try.func40, Try.ntmps40
    go_wp2_with (go_at_call 58; refine (kick_no r g hk _).mono ?_; rintro e w' ⟨rfl, rfl⟩)
    go_ret
    exact ⟨rfl, by go_grown⟩
  · by_cases hn : n ≤ 20000
    · have e0 : flowE r g n = flowV r g n := by simp [flowE, hk, hn]
      rw [e0]; clear e0
      exact flow_any r g n hk hn w
    · have e0 : flowE r g n = 0 := by simp [flowE, hn]
      rw [e0]; clear e0
      go_enter Try.func40, Try.ntmps40
      go_wp2_with (go_at_call 58; refine (kick_ok r g hk _).mono ?_; rintro e w' ⟨rfl, rfl⟩)
      go_ret
      exact ⟨rfl, by go_grown⟩
set_option maxHeartbeats 400000 in
theorem gain_all (r g n : Int) (w : World) :
    Calls Try.prog 41 #[.agg #[.int .i64 r, .int .i64 g], .int .i64 n] w fun e w' => e = .returned (.int .i64 (gainE r g n)) ∧ Below w.heap.size w w' := by
  cases hk : kickB r g
  · have e0 : gainE r g n = 0 := by simp [gainE, hk]
    rw [e0]; clear e0
    go_enter Try.func41, Try.ntmps41
    go_wp2_with (go_at_call 58; refine (kick_no r g hk _).mono ?_; rintro e w' ⟨rfl, rfl⟩)
    go_ret
    exact ⟨rfl, by go_grown⟩
  · by_cases hn : n ≤ 20000
    · have e0 : gainE r g n = gainV r g n := by simp [gainE, hk, hn]
      rw [e0]; clear e0
      exact gain_any r g n hk hn w
    · have e0 : gainE r g n = 0 := by simp [gainE, hn]
      rw [e0]; clear e0
      go_enter Try.func41, Try.ntmps41
      go_wp2_with (go_at_call 58; refine (kick_ok r g hk _).mono ?_; rintro e w' ⟨rfl, rfl⟩)
      go_ret
      exact ⟨rfl, by go_grown⟩
set_option maxHeartbeats 400000 in
theorem rflow_all (r g n : Int) (w : World) :
    Calls Try.prog 102 #[.agg #[.int .i64 r, .int .i64 g], .int .i64 n] w fun e w' => e = .returned (.int .i64 (flowE r g n)) ∧ Below w.heap.size w w' := by
  cases hk : kickB r g
  · have e0 : flowE r g n = 0 := by simp [flowE, hk]
    rw [e0]; clear e0
    go_enter Try.func102, Try.ntmps102
    go_wp2_with (first
      | (go_at_call 62; refine (rkick_no r g hk _).mono ?_; rintro e w' ⟨rfl, rfl⟩)
      | (go_at_call 63; refine (between_any _ _ _ _).mono ?_; rintro e w' ⟨rfl, rfl⟩))
    go_ret
    exact ⟨rfl, by go_grown⟩
  cases hn : wi n 0 20000
  · have e0 : flowE r g n = 0 := by
      unfold flowE
      split
      · rename_i h
        have : n < 0 := by simp [wi] at hn; omega
        simp [flowV, this]
      · rfl
    rw [e0]; clear e0
    go_enter Try.func102, Try.ntmps102
    go_wp2_with (first
      | (go_at_call 62; refine (rkick_ok r g hk _).mono ?_; rintro e w' ⟨rfl, rfl⟩)
      | (go_at_call 63; refine (between_any _ _ _ _).mono ?_; rintro e w' ⟨rfl, rfl⟩))
    go_ret
    exact ⟨rfl, by go_grown⟩
  · obtain ⟨hr, hg⟩ := kickB_bd hk
    have hn' : 0 ≤ n ∧ n ≤ 20000 := by simpa [wi] using hn
    obtain ⟨n0, n1⟩ := hn'
    have e0 : flowE r g n = r + n * g := by simp [flowE, flowV, hk, n1, show ¬ n < 0 by omega]
    obtain ⟨b10, b11⟩ := mul_bd (a := n) (A := 20000) (b := g) (B := 4096) n0 n1 hg.1 hg.2
    rw [e0]; clear e0
    obtain ⟨r0, r1⟩ := hr
    obtain ⟨g0, g1⟩ := hg
    go_enter Try.func102, Try.ntmps102
    go_wp2_with (first
      | (go_at_call 62; refine (rkick_ok r g hk _).mono ?_; rintro e w' ⟨rfl, rfl⟩)
      | (go_at_call 63; refine (between_any _ _ _ _).mono ?_; rintro e w' ⟨rfl, rfl⟩))
    go_ret
    exact ⟨rfl, by go_grown⟩
set_option maxHeartbeats 400000 in
theorem rgain_all (r g n : Int) (w : World) :
    Calls Try.prog 76 #[.agg #[.int .i64 r, .int .i64 g], .int .i64 n] w fun e w' => e = .returned (.int .i64 (gainE r g n)) ∧ Below w.heap.size w w' := by
  cases hk : kickB r g
  · have e0 : gainE r g n = 0 := by simp [gainE, hk]
    rw [e0]; clear e0
    go_enter Try.func76, Try.ntmps76
    go_wp2_with (first
      | (go_at_call 62; refine (rkick_no r g hk _).mono ?_; rintro e w' ⟨rfl, rfl⟩)
      | (go_at_call 63; refine (between_any _ _ _ _).mono ?_; rintro e w' ⟨rfl, rfl⟩))
    go_ret
    exact ⟨rfl, by go_grown⟩
  cases hn : wi n 0 20000
  · have e0 : gainE r g n = 0 := by
      unfold gainE
      split
      · rename_i h
        have : n < 0 := by simp [wi] at hn; omega
        simp [gainV, this]
      · rfl
    rw [e0]; clear e0
    go_enter Try.func76, Try.ntmps76
    go_wp2_with (first
      | (go_at_call 62; refine (rkick_ok r g hk _).mono ?_; rintro e w' ⟨rfl, rfl⟩)
      | (go_at_call 63; refine (between_any _ _ _ _).mono ?_; rintro e w' ⟨rfl, rfl⟩))
    go_ret
    exact ⟨rfl, by go_grown⟩
  · obtain ⟨hr, hg⟩ := kickB_bd hk
    have hn' : 0 ≤ n ∧ n ≤ 20000 := by simpa [wi] using hn
    obtain ⟨n0, n1⟩ := hn'
    have e0 : gainE r g n = n * r + g * (n * (n - 1) / 2) := by simp [gainE, gainV, hk, n1, show ¬ n < 0 by omega]
    obtain ⟨b10, b11⟩ := mul_bd (a := n) (A := 20000) (b := r) (B := 16777216) n0 n1 hr.1 hr.2
    have b2 : 0 ≤ n * (n - 1) ∧ n * (n - 1) ≤ 20000 * 20000 := by
      by_cases h0 : n = 0
      · subst h0; simp
      · exact mul_bd (by omega) n1 (by omega) (by omega)
    obtain ⟨b20, b21⟩ := b2
    obtain ⟨b30, b31⟩ := mul_bd (a := g) (A := 4096) (b := n * (n - 1) / 2) (B := 200000000) hg.1 hg.2 (by omega) (by omega)
    rw [e0]; clear e0
    obtain ⟨r0, r1⟩ := hr
    obtain ⟨g0, g1⟩ := hg
    go_enter Try.func76, Try.ntmps76
    go_wp2_with (first
      | (go_at_call 62; refine (rkick_ok r g hk _).mono ?_; rintro e w' ⟨rfl, rfl⟩)
      | (go_at_call 63; refine (between_any _ _ _ _).mono ?_; rintro e w' ⟨rfl, rfl⟩))
    go_ret
    exact ⟨rfl, by go_grown⟩
end Go.Proofs.Ytngcfohmlppghaa
