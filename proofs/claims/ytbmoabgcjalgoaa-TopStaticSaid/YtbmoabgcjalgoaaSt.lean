/-
  A hole of one segment, a column of one slug. No program.
-/
import Derived.Test.YtbmoabgcjalgoaaPr
set_option linter.unusedSimpArgs false
set_option linter.unusedVariables false
namespace Go.Rx
open Go
theorem one_hole {L T A g : Int} (h0 : 1 ≤ L) (h1 : L ≤ 1048576) (t0 : 0 ≤ T) (t1 : T ≤ L) (a0 : 1 ≤ A) (a1 : A ≤ 5000) (g0 : 1 ≤ g) (g1 : g ≤ 200) : HoleOK [[L, T, A, g]] ∧ volN [[L, T, A, g]] 1 = L * A ∧ hgtP [[L, T, A, g]] 1 = [[0, 0], [L * A, T]] := by
  have e0 : Ll.get [[L, T, A, g]] 0 0 = L := rfl
  have e1 : Ll.get [[L, T, A, g]] 0 1 = T := rfl
  have e2 : Ll.get [[L, T, A, g]] 0 2 = A := rfl
  have e3 : Ll.get [[L, T, A, g]] 0 3 = g := rfl
  have v : volN [[L, T, A, g]] 1 = L * A := by simp only [volN, Int.zero_add]; rfl
  have r : risN [[L, T, A, g]] 1 = T := by simp only [risN, Int.zero_add]; rfl
  refine ⟨⟨by simp, ?_, by show sumN [[L, T, A, g]] 1 ≤ _; simp only [sumN, Int.zero_add]; exact h1⟩, v, by simp only [hgtP, v, r]; rfl⟩
  intro hc
  obtain ⟨j, j0, j1, j2⟩ := (leastN_lt _ _).1 hc
  have j1 : j < ((1 : Nat) : Int) := j1
  obtain rfl : j = 0 := by omega
  unfold sBad at j2
  rw [e0, e1, e2, e3] at j2
  have := of_decide_eq_true j2
  omega
theorem exact_mid {V T u q : Int} (hV : 1 ≤ V) (u0 : 0 < u) (u1 : u ≤ V) (hq : T * u = V * q) : valLo [[0, 0], [V, T]] u = q ∧ valHi [[0, 0], [V, T]] u = q := by
  have g00 : Ll.get [[0, 0], [V, T]] 0 0 = 0 := rfl
  have g01 : Ll.get [[0, 0], [V, T]] 0 1 = 0 := rfl
  have g10 : Ll.get [[0, 0], [V, T]] 1 0 = V := rfl
  have g11 : Ll.get [[0, 0], [V, T]] 1 1 = T := rfl
  have hl : ([[0, 0], [V, T]] : Ll).length = 2 := rfl
  have h2 : ∀ i : Int, 0 ≤ i → i < 1 → Ll.get [[0, 0], [V, T]] i 0 < u := fun i i0 i1 => by
    obtain rfl : i = 0 := by omega
    rw [g00]; exact u0
  have k : kAt [[0, 0], [V, T]] u = 1 := kAt_uniq (by omega) (by rw [hl]; omega) h2 (.inr (by rw [g10]; exact u1))
  have ho : over [[0, 0], [V, T]] 1 u = V * q := by
    unfold over
    rw [show (1 : Int) - 1 = 0 from rfl, g00, g01, g11, Int.sub_zero, Int.sub_zero, hq]
  have hw : wide [[0, 0], [V, T]] 1 = V := by
    unfold wide
    rw [show (1 : Int) - 1 = 0 from rfl, g00, g10, Int.sub_zero]
  unfold valLo valHi
  rw [k, if_neg (by omega), if_neg (by rw [hl]; omega), if_neg (by omega), if_neg (by rw [hl]; omega), ho, hw, show (1 : Int) - 1 = 0 from rfl, g01, Int.zero_add, Int.zero_add]
  have d : V * q / V = q := Int.mul_ediv_cancel_left _ (by omega)
  refine ⟨d, ?_⟩
  unfold cdiv
  rw [show -(V * q) = V * (-q) from (Int.mul_neg _ _).symm, Int.mul_ediv_cancel_left _ (by omega)]
  omega
theorem exact_low {V T : Int} : valLo [[0, 0], [V, T]] 0 = 0 ∧ valHi [[0, 0], [V, T]] 0 = 0 := by
  have k : kAt [[0, 0], [V, T]] 0 = 0 := kAt_uniq (by omega) (by simp) (fun i i0 i1 => by omega) (.inr (Int.le_refl _))
  exact ⟨(val_first k).1, (val_first k).2⟩
/-- The pressure at a whole height. -/
theorem static_math {T k A w t z : Int} (T0 : 1 ≤ T) (T1 : T ≤ 100000) (k0 : 1 ≤ k) (k1 : k ≤ 4) (A0 : 1 ≤ A) (A1 : A ≤ 1000) (w0 : 0 ≤ w) (w1 : w ≤ 40000) (t0 : 0 ≤ t) (t1 : t ≤ 68719476736) (z0 : 0 ≤ z) (z1 : z ≤ T) :
    holeE [[T * k, T, A, 10]] = 0 ∧ holeV [[T * k, T, A, 10]] = T * k * A ∧ (T * k * A).tdiv T = k * A ∧ (1 ≤ T * k ∧ T * k ≤ 400000) ∧ (1 ≤ T * k * A ∧ T * k * A ≤ 400000000) ∧ (0 ≤ k * A ∧ k * A ≤ 4000) ∧ (0 ≤ k * A * (T - z) ∧ k * A * (T - z) ≤ T * k * A) ∧
    prE [[T * k, T, A, 10]] [[w, T * k * A]] t (k * A * (T - z)) = 0 ∧ prLo [[T * k, T, A, 10]] [[w, T * k * A]] t (k * A * (T - z)) = t + w * z ∧ prHi [[T * k, T, A, 10]] [[w, T * k * A]] t (k * A * (T - z)) = t + w * z := by
  have hL : 1 ≤ T * k ∧ T * k ≤ 400000 := by
    have := Int.mul_le_mul T1 k1 (by omega) (by omega : (0 : Int) ≤ 100000)
    have := Int.mul_le_mul_of_nonneg_left k0 (show 0 ≤ T by omega)
    omega
  have hTL : T ≤ T * k := by
    have := Int.mul_le_mul_of_nonneg_left k0 (show 0 ≤ T by omega); omega
  have hkA : 1 ≤ k * A ∧ k * A ≤ 4000 := by
    have := Int.mul_le_mul k1 A1 (by omega) (by omega : (0 : Int) ≤ 4)
    have := Int.mul_le_mul_of_nonneg_left A0 (show 0 ≤ k by omega)
    omega
  have hV : 1 ≤ T * k * A ∧ T * k * A ≤ 400000000 := by
    have := Int.mul_le_mul hL.2 A1 (by omega) (by omega : (0 : Int) ≤ 400000)
    have := Int.mul_le_mul_of_nonneg_left A0 (show 0 ≤ T * k by omega)
    omega
  obtain ⟨p0, pv, ph⟩ := one_hole (L := T * k) (T := T) (A := A) (g := 10) hL.1 (by omega) (by omega) hTL A0 (by omega) (by omega) (by omega)
  have hz := hole_zero p0
  have e1 : T * k * A = T * (k * A) := Int.mul_assoc _ _ _
  have hu : 0 ≤ k * A * (T - z) ∧ k * A * (T - z) ≤ T * k * A := by
    refine ⟨Int.mul_nonneg (by omega) (by omega), ?_⟩
    rw [e1, Int.mul_comm T]
    exact Int.mul_le_mul_of_nonneg_left (by omega) (by omega)
  have hv : holeV [[T * k, T, A, 10]] = T * k * A := by
    unfold holeV; rw [if_pos hz]; exact pv
  have ht : (T * k * A).tdiv T = k * A := by
    rw [e1]; exact Int.mul_tdiv_cancel_left _ (by omega)
  have pc : ColOK [[T * k, T, A, 10]] [[w, T * k * A]] := by
    refine ⟨p0, by simp, fun j hj => ?_, ?_⟩
    · have hj : j < 1 := hj
      obtain rfl : j = 0 := by omega
      unfold cBad
      rw [decide_eq_false_iff_not]
      show ¬ (w < 0 ∨ 40000 < w ∨ T * k * A < 1)
      omega
    · show slN [[w, T * k * A]] 1 = volN [[T * k, T, A, 10]] 1
      rw [pv]; simp only [slN, Int.zero_add]; rfl
  have hc := col_zero pc
  have E : prE [[T * k, T, A, 10]] [[w, T * k * A]] t (k * A * (T - z)) = 0 := by
    unfold prE
    rw [if_neg (fun q => q hc), if_neg]
    show ¬ (_ ∨ _ ∨ _ ∨ volN [[T * k, T, A, 10]] 1 < _)
    rw [pv]; omega
  have hk : kU [[w, T * k * A]] (k * A * (T - z)) = 0 := by
    obtain ⟨a, b, _⟩ := kU_spec pc hu.1
    have b : kU [[w, T * k * A]] (k * A * (T - z)) < ((1 : Nat) : Int) := b
    omega
  have gw : Ll.get [[w, T * k * A]] 0 0 = w := rfl
  have hH : ∀ x, hLo [[T * k, T, A, 10]] x = valLo [[0, 0], [T * k * A, T]] x ∧ hHi [[T * k, T, A, 10]] x = valHi [[0, 0], [T * k * A, T]] x := fun x => by
    unfold hLo hHi
    show valLo (hgtP _ 1) x = _ ∧ valHi (hgtP _ 1) x = _
    rw [ph]; exact ⟨rfl, rfl⟩
  have htop := exact_mid (V := T * k * A) (T := T) (u := T * k * A) (q := T) hV.1 (by omega) (Int.le_refl _) (Int.mul_comm _ _)
  have hat : valLo [[0, 0], [T * k * A, T]] (k * A * (T - z)) = T - z ∧ valHi [[0, 0], [T * k * A, T]] (k * A * (T - z)) = T - z := by
    by_cases hzz : T - z = 0
    · rw [hzz, Int.mul_zero]; exact exact_low
    · refine exact_mid hV.1 ?_ hu.2 (by rw [Int.mul_assoc T k A, Int.mul_assoc T (k * A)])
      exact Int.mul_pos (by omega) (by omega)
  have P0 : pLoI [[T * k, T, A, 10]] [[w, T * k * A]] t 0 = t + w * T ∧ pHiI [[T * k, T, A, 10]] [[w, T * k * A]] t 0 = t + w * T := by
    unfold pLoI pHiI
    show pLo _ _ _ 0 = _ ∧ pHi _ _ _ 0 = _
    unfold pLo pHi
    show t + tLo w (hLo _ (volN [[T * k, T, A, 10]] 1)) (hHi _ (volN [[T * k, T, A, 10]] 1)) = _ ∧ t + tHi w (hLo _ (volN [[T * k, T, A, 10]] 1)) (hHi _ (volN [[T * k, T, A, 10]] 1)) = _
    rw [pv, (hH _).1, (hH _).2, htop.1, htop.2, tLo, tHi, if_neg (by omega)]
    exact ⟨rfl, rfl⟩
  have e4 : t + w * T + -w * (T - z) = t + w * z := by
    rw [Int.neg_mul, Int.mul_sub]; omega
  refine ⟨hz, hv, ht, hL, hV, by omega, hu, E, ?_, ?_⟩
  · unfold prLo
    rw [if_pos E, hk, gw, P0.1, (hH _).1, (hH _).2, hat.1, hat.2, tLo]
    split <;> exact e4
  · unfold prHi
    rw [if_pos E, hk, gw, P0.2, (hH _).1, (hH _).2, hat.1, hat.2, tHi]
    split <;> exact e4
end Go.Rx
