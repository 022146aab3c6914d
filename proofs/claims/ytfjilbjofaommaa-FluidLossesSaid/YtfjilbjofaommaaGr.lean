/-
  What flows, gradients. No program.
-/
import Derived.Test.YtfjilbjofaommaaYw
import Derived.Test.YtfjilbjofaommaaFm
import Derived.Test.YtfjilbjofaommaaLe
set_option linter.unusedSimpArgs false
set_option linter.unusedVariables false
namespace Go.Rx
open Go
theorem mul_bound {a b : Int} {m n : Int} (h0 : 0 ≤ a) (h1 : a ≤ m) (h2 : 0 ≤ b) (h3 : b ≤ n) : 0 ≤ a * b ∧ a * b ≤ m * n := ⟨Int.mul_nonneg h0 h2, Int.mul_le_mul h1 h3 h2 (by omega)⟩
/-- What flows: t the shear, y the yield. -/
def FlowsP (g flow c e y v : Int) : Prop := if flow = 0 ∨ g * e ≤ y then flow = 0 else (flow * v) * (g * e * (g * e)) ≤ ((g * e - y) * (g * e - y)) * ((2 * (g * e) + y) * e * c)
instance {g flow c e y v : Int} : Decidable (FlowsP g flow c e y v) := by unfold FlowsP; infer_instance
def CanP (a b c e y v flow : Int) : Prop := (1 ≤ a ∧ a ≤ 1048576 ∧ 0 ≤ b ∧ b ≤ a ∧ 1 ≤ c ∧ c ≤ 5000 ∧ 1 ≤ e ∧ e ≤ 200) ∧ 0 ≤ y ∧ y ≤ 1000000 ∧ 1 ≤ v ∧ v ≤ 1000000 ∧ 0 ≤ flow ∧ flow ≤ 1000000
instance {a b c e y v flow : Int} : Decidable (CanP a b c e y v flow) := by unfold CanP; infer_instance
def gradI (c e y v flow : Int) : Int := leastN (fun g => decide (FlowsP g flow c e y v)) 20001 0
theorem gradI_spec (c e y v flow : Int) : 0 ≤ gradI c e y v flow ∧ gradI c e y v flow ≤ 20001 ∧ (∀ g, 0 ≤ g → g < gradI c e y v flow → ¬ FlowsP g flow c e y v) ∧ (gradI c e y v flow = 20001 ∨ FlowsP (gradI c e y v flow) flow c e y v) := by
  obtain ⟨a, b, d, f⟩ := leastN_spec (fun g => decide (FlowsP g flow c e y v)) 20001 0
  unfold gradI
  exact ⟨a, by simpa using b, fun g h1 h2 => by simpa using d g h1 h2, f.imp (fun h => by simpa using h) (fun h => by simpa using h)⟩
/-- u u (3 t - u) grows with u, up to t. -/
theorem cube_mono {t u w : Int} (h0 : 0 ≤ u) (h1 : u ≤ w) (h2 : w ≤ t) : u * u * (3 * t - u) ≤ w * w * (3 * t - w) := by
  obtain ⟨k, rfl⟩ : ∃ k, w = u + k := ⟨w - u, by omega⟩
  obtain ⟨r, rfl⟩ : ∃ r, t = u + k + r := ⟨t - (u + k), by omega⟩
  have a1 : 0 ≤ u * k := Int.mul_nonneg h0 (by omega)
  have a2 : 0 ≤ u * r := Int.mul_nonneg h0 (by omega)
  have a3 : 0 ≤ k * k := Int.mul_nonneg (by omega) (by omega)
  have a4 : 0 ≤ k * r := Int.mul_nonneg (by omega) (by omega)
  have b1 : 0 ≤ u * (u * k) := Int.mul_nonneg h0 a1
  have b2 : 0 ≤ u * (k * k) := Int.mul_nonneg h0 a3
  have b3 : 0 ≤ u * (k * r) := Int.mul_nonneg h0 a4
  have b4 : 0 ≤ k * (k * k) := Int.mul_nonneg (by omega) a3
  have b5 : 0 ≤ k * (k * r) := Int.mul_nonneg (by omega) a4
  have e : (u + k) * (u + k) * (3 * (u + k + r) - (u + k)) - u * u * (3 * (u + k + r) - u) = 3 * (u * (u * k)) + 6 * (u * (k * k)) + 6 * (u * (k * r)) + 2 * (k * (k * k)) + 3 * (k * (k * r)) := by
    grind
  omega
def Phi (t y : Int) : Int := (t - y) * (t - y) * (2 * t + y)
theorem phi_t {t t' y : Int} (h0 : 0 ≤ y) (h1 : y ≤ t) (h2 : t ≤ t') : Phi t y * (t' * t') ≤ Phi t' y * (t * t) := by
  have a0 : 0 ≤ (t - y) * t' := Int.mul_nonneg (by omega) (by omega)
  have ab : (t - y) * t' ≤ (t' - y) * t := by
    have e : (t' - y) * t - (t - y) * t' = y * (t' - t) := by grind
    have := Int.mul_nonneg h0 (show 0 ≤ t' - t by omega)
    omega
  have s := Int.mul_le_mul ab ab a0 (by omega)
  have s0 := Int.mul_nonneg a0 a0
  have s2 := Int.mul_le_mul s (show 2 * t + y ≤ 2 * t' + y by omega) (by omega) (by omega)
  have e1 : Phi t y * (t' * t') = (t - y) * t' * ((t - y) * t') * (2 * t + y) := by unfold Phi; grind
  have e2 : Phi t' y * (t * t) = (t' - y) * t * ((t' - y) * t) * (2 * t' + y) := by unfold Phi; grind
  omega
theorem phi_y {t y y' : Int} (h0 : 0 ≤ y') (h1 : y' ≤ y) (h2 : y ≤ t) : Phi t y ≤ Phi t y' := by
  have := cube_mono (t := t) (u := t - y) (w := t - y') (by omega) (by omega) (by omega)
  have e1 : Phi t y = (t - y) * (t - y) * (3 * t - (t - y)) := by unfold Phi; grind
  have e2 : Phi t y' = (t - y') * (t - y') * (3 * t - (t - y')) := by unfold Phi; grind
  omega
theorem phi_0 {t y : Int} (h0 : 0 ≤ y) (h1 : 0 ≤ t) : 0 ≤ Phi t y := by
  unfold Phi
  refine Int.mul_nonneg ?_ (by omega)
  rcases Int.le_total 0 (t - y) with h | h
  · exact Int.mul_nonneg h h
  · exact Int.mul_nonneg_of_nonpos_of_nonpos h h
theorem flows_is {g flow c e y v : Int} : FlowsP g flow c e y v = (if flow = 0 ∨ g * e ≤ y then flow = 0 else (flow * v) * (g * e * (g * e)) ≤ Phi (g * e) y * (e * c)) := by
  unfold FlowsP Phi
  rw [show (g * e - y) * (g * e - y) * ((2 * (g * e) + y) * e * c) = (g * e - y) * (g * e - y) * (2 * (g * e) + y) * (e * c) by grind]
theorem flows_mono {g g' flow flow' c e e' y y' v v' : Int} (g0 : 0 ≤ g) (hg : g ≤ g') (he0 : 1 ≤ e) (he : e ≤ e') (hc : 1 ≤ c) (hy0 : 0 ≤ y') (hy : y' ≤ y) (hv0 : 0 ≤ v') (hv : v' ≤ v) (hf0 : 0 ≤ flow') (hf : flow' ≤ flow) (h : FlowsP g flow c e y v) : FlowsP g' flow' c e' y' v' := by
  rw [flows_is] at h ⊢
  by_cases z : flow' = 0
  · rw [if_pos (.inl z)]; exact z
  · have hne : ¬ (flow = 0 ∨ g * e ≤ y) := fun hc => by rw [if_pos hc] at h; omega
    rw [if_neg hne] at h
    have t0 : 0 ≤ g * e := Int.mul_nonneg g0 (by omega)
    have tt : g * e ≤ g' * e' := Int.mul_le_mul hg he (by omega) (by omega)
    have k0 : 0 ≤ e * c := Int.mul_nonneg (by omega) (by omega)
    have kk : e * c ≤ e' * c := Int.mul_le_mul_of_nonneg_right he (by omega)
    generalize g * e = t at *
    generalize g' * e' = t' at *
    generalize e * c = K at *
    generalize e' * c = K' at *
    rw [if_neg (by omega)]
    have f1 : flow' * v' ≤ flow * v := Int.mul_le_mul hf hv hv0 (by omega)
    have f2 : flow' * v' * (t' * t') ≤ flow * v * (t' * t') := Int.mul_le_mul_of_nonneg_right f1 (Int.mul_nonneg (by omega) (by omega))
    have p0 := phi_0 (t := t') (y := y) (by omega) (by omega)
    have a := phi_t (t := t) (t' := t') (y := y) (by omega) (by omega) tt
    have b := phi_y (t := t') (y := y) (y' := y') hy0 hy (by omega)
    have q1 : Phi t y * (t' * t') * K ≤ Phi t' y * (t * t) * K := Int.mul_le_mul_of_nonneg_right a k0
    have q2 := Int.mul_le_mul_of_nonneg_right h (show 0 ≤ t' * t' from Int.mul_nonneg (by omega) (by omega))
    have q3 : flow * v * (t' * t') * (t * t) ≤ Phi t' y * K * (t * t) := by
      have e1 : flow * v * (t' * t') * (t * t) = flow * v * (t * t) * (t' * t') := by grind
      have e2 : Phi t y * K * (t' * t') = Phi t y * (t' * t') * K := by grind
      have e3 : Phi t' y * K * (t * t) = Phi t' y * (t * t) * K := by grind
      omega
    have tp : 0 < t * t := Int.mul_pos (by omega) (by omega)
    have q4 : flow * v * (t' * t') ≤ Phi t' y * K := Int.le_of_mul_le_mul_right q3 tp
    have q5 : Phi t' y * K ≤ Phi t' y' * K' := Int.mul_le_mul b kk k0 (phi_0 hy0 (by omega))
    omega
/-- A flow that is not 0 wants more than the yield. -/
theorem flows_yield {g flow c e y v : Int} (h : FlowsP g flow c e y v) (hf : flow ≠ 0) : ¬ g * e ≤ y := fun hc => by
  rw [flows_is, if_pos (.inr hc)] at h
  exact hf h
theorem grad_le {c e y v flow c' e' y' v' flow' : Int} (h : ∀ g, 0 ≤ g → g ≤ 20000 → FlowsP g flow c e y v → FlowsP g flow' c' e' y' v') : gradI c' e' y' v' flow' ≤ gradI c e y v flow := by
  obtain ⟨a1, a2, a3, a4⟩ := gradI_spec c e y v flow
  obtain ⟨b1, b2, b3, b4⟩ := gradI_spec c' e' y' v' flow'
  rcases a4 with a4 | a4
  · omega
  · by_cases hq : gradI c e y v flow ≤ 20000
    · by_cases hlt : gradI c e y v flow < gradI c' e' y' v' flow'
      · exact absurd (h _ a1 hq a4) (b3 _ a1 hlt)
      · omega
    · omega
/-- What the program gives for a gradient. -/
def gradK (a b c e y v flow : Int) : Bool := decide (CanP a b c e y v flow) && decide (gradI c e y v flow ≤ 20000)
def gradO (a b c e y v flow : Int) : Int := if gradK a b c e y v flow = true then gradI c e y v flow else 0
theorem gradK_of {a b c e y v flow : Int} (h : CanP a b c e y v flow) : gradK a b c e y v flow = decide (gradI c e y v flow ≤ 20000) := by rw [gradK, decide_eq_true h, Bool.true_and]
theorem gradK_no {a b c e y v flow : Int} (h : ¬ CanP a b c e y v flow) : gradK a b c e y v flow = false := by rw [gradK, decide_eq_false h, Bool.false_and]
theorem gradO_of {a b c e y v flow : Int} (h : CanP a b c e y v flow) : gradO a b c e y v flow = if gradI c e y v flow ≤ 20000 then gradI c e y v flow else 0 := by rw [gradO, gradK_of h]; simp only [decide_eq_true_eq]
theorem gradO_no {a b c e y v flow : Int} (h : ¬ CanP a b c e y v flow) : gradO a b c e y v flow = 0 := by rw [gradO, gradK_no h]; rfl
theorem gradO_b (a b c e y v flow : Int) : 0 ≤ gradO a b c e y v flow ∧ gradO a b c e y v flow ≤ 20000 := by
  unfold gradO gradK
  have := gradI_spec c e y v flow
  split
  · rename_i h
    simp at h
    omega
  · omega
end Go.Rx
