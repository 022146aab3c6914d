/-
  Layer 3: holes made of numbers. No program.
-/
import Derived.Test.YtgjnkdedknpniaaYw
import Derived.Test.YtgjnkdedknpniaaFm
set_option linter.unusedSimpArgs false
set_option linter.unusedVariables false
namespace Go.Rx
open Go
theorem tmod_cases (a b : Int) (hb : 1 ≤ b) : (0 ≤ a ∧ a.tmod b = a % b ∨ a.tmod b = a % b) ∧ 0 ≤ a.tmod b ∨ (a.tmod b < 0 ∧ a.tmod b + b = a % b) := by
  have e0 := Int.emod_nonneg a (show b ≠ 0 by omega)
  by_cases h : 0 ≤ a
  · have e := Int.tmod_eq_emod_of_nonneg h (b := b)
    exact .inl ⟨.inr e, by omega⟩
  · have e : a.tmod b = -((-a) % b) := by rw [show a = -(-a) by omega, Int.neg_tmod, Int.tmod_eq_emod_of_nonneg (by omega), show - - -a = -a by omega]
    have r0 := Int.emod_nonneg (-a) (show b ≠ 0 by omega)
    have r1 := Int.emod_lt_of_pos (-a) (show 0 < b by omega)
    by_cases hz : (-a) % b = 0
    · have : a % b = 0 := by
        rw [← Int.dvd_iff_emod_eq_zero] at hz ⊢
        exact (Int.dvd_neg.1 hz)
      exact .inl ⟨.inr (by omega), by omega⟩
    · have : a % b = b - (-a) % b := by
        have e2 : a = (b - (-a) % b) + b * (-((-a) / b) - 1) := by rw [Int.mul_sub, Int.mul_neg]; have := Int.mul_ediv_add_emod (-a) b; omega
        conv => lhs; rw [e2]
        rw [Int.add_mul_emod_self_left, Int.emod_eq_of_lt (by omega) (by omega)]
      exact .inr ⟨by omega, by omega⟩
def pickI (l : Ll) (i : Int) : Int := if l.length = 0 then 0 else (l.get (i % l.length) 0) % 1099511627776
theorem pick_b (l : Ll) (i : Int) : 0 ≤ pickI l i ∧ pickI l i < 1099511627776 := by
  unfold pickI
  split
  · omega
  · exact ⟨Int.emod_nonneg _ (by omega), Int.emod_lt_of_pos _ (by omega)⟩
def segRow (n : Int) : List Int := [1 + n % 100000, n / 11 % (1 + n % 100000 + 1), 1 + n / 3 % 1500, 1 + n / 7 % 200]
def annK (l : Ll) : Nat := max 1 (min l.length 5)
theorem annK_b (l : Ll) : 1 ≤ annK l ∧ annK l ≤ 5 := by unfold annK; omega
theorem annK_eq (l : Ll) : maxL 1 (minL (Ll.len l) 5) = (annK l : Int) := by
  have h : Ll.len l = (l.length : Int) := rfl
  rw [h]
  unfold annK maxL minL
  by_cases a : (5 : Int) < l.length <;> by_cases b : (l.length : Int) > 1 <;> simp [a, b] <;> omega
def annP (l : Ll) (k : Nat) : Ll := (List.range k).map fun (i : Nat) => segRow (pickI l i)
def annL (l : Ll) : Ll := annP l (annK l)
theorem annP_succ (l : Ll) (k : Nat) : annP l (k + 1) = annP l k ++ [segRow (pickI l k)] := by
  simp [annP, List.range_succ]
theorem annP_len (l : Ll) (k : Nat) : (annP l k).length = k := by simp [annP]
theorem annP_rows (l : Ll) (k : Nat) : ∀ x ∈ annP l k, x.length = 4 := by
  intro x hx
  simp [annP] at hx
  obtain ⟨i, _, rfl⟩ := hx
  rfl
/-- A segment of a valid hole. -/
def SegOK (l : Ll) (i : Int) : Prop := 1 ≤ l.get i 0 ∧ l.get i 0 ≤ 100000 ∧ 0 ≤ l.get i 1 ∧ l.get i 1 ≤ l.get i 0 ∧ 1 ≤ l.get i 2 ∧ l.get i 2 ≤ 1500 ∧ 1 ≤ l.get i 3 ∧ l.get i 3 ≤ 200
theorem annP_ok (l : Ll) (k : Nat) (i : Int) (h0 : 0 ≤ i) (h1 : i < k) : SegOK (annP l k) i := by
  have e : (annP l k).getD i.toNat [] = segRow (pickI l i) := by
    unfold annP
    rw [List.getD_eq_getElem?_getD, List.getElem?_map, List.getElem?_range (by omega)]
    simp only [Option.map_some, Option.getD_some]
    rw [Int.toNat_of_nonneg h0]
  obtain ⟨b0, b1⟩ := pick_b l i
  unfold SegOK Ll.get
  rw [e]
  simp only [segRow, List.getD_cons_zero, List.getD_cons_succ]
  generalize pickI l i = n at *
  have a1 := Int.emod_nonneg n (show (100000 : Int) ≠ 0 by omega)
  have a2 := Int.emod_lt_of_pos n (show (0 : Int) < 100000 by omega)
  have c1 := Int.emod_nonneg (n / 11) (show (1 + n % 100000 + 1 : Int) ≠ 0 by omega)
  have c2 := Int.emod_lt_of_pos (n / 11) (show (0 : Int) < 1 + n % 100000 + 1 by omega)
  exact ⟨by omega, by omega, c1, by omega, by omega, by omega, by omega, by omega⟩
theorem ediv_anti {a b p q : Int} (ha : 0 ≤ a) (hab : a ≤ b) (hp : 1 ≤ p) (hpq : p ≤ q) : a / q ≤ b / p := by
  refine Int.le_ediv_of_mul_le (by omega) ?_
  have h1 := Int.ediv_nonneg ha (show 0 ≤ q by omega)
  have h2 := Int.mul_le_mul_of_nonneg_left hpq h1
  have h3 : a / q * q ≤ a := Int.ediv_mul_le a (by omega)
  omega
theorem cdiv_le {a q c : Int} (hq : 1 ≤ q) (h : a ≤ q * c) : cdiv a q ≤ c := by
  unfold cdiv
  have : -c ≤ (-a) / q := Int.le_ediv_of_mul_le (by omega) (by rw [Int.neg_mul, Int.mul_comm]; omega)
  omega
theorem cdiv_ge {a q : Int} (hq : 1 ≤ q) : a ≤ q * cdiv a q := by
  have e := Int.mul_ediv_add_emod (-a) q
  have r0 := Int.emod_nonneg (-a) (show q ≠ 0 by omega)
  have e3 : q * cdiv a q = -(q * ((-a) / q)) := Int.mul_neg _ _
  omega
theorem cdiv_nonneg {a q : Int} (ha : 0 ≤ a) (hq : 1 ≤ q) : 0 ≤ cdiv a q := by
  unfold cdiv
  have : (-a) / q ≤ 0 := by
    by_cases h : a = 0
    · subst h; simp
    · exact Int.le_of_lt (Int.ediv_neg_of_neg_of_pos (by omega) (by omega))
  omega
theorem cdiv_anti {a b p q : Int} (ha : 0 ≤ a) (hab : a ≤ b) (hp : 1 ≤ p) (hpq : p ≤ q) : cdiv a q ≤ cdiv b p := by
  refine cdiv_le (by omega) ?_
  have h1 := cdiv_ge (a := b) hp
  have h2 := Int.mul_le_mul_of_nonneg_right hpq (cdiv_nonneg (show 0 ≤ b by omega) hp)
  omega

/-! ### The least number -/
def leastN (p : Int → Bool) : Nat → Int → Int
  | 0, j => j
  | k + 1, j => if p j then j else leastN p k (j + 1)
theorem leastN_spec (p : Int → Bool) : ∀ (k : Nat) (j : Int), j ≤ leastN p k j ∧ leastN p k j ≤ j + k ∧ (∀ g, j ≤ g → g < leastN p k j → p g = false) ∧ (leastN p k j = j + k ∨ p (leastN p k j) = true)
  | 0, j => ⟨Int.le_refl _, by simp [leastN], fun g h1 h2 => (by simp only [leastN] at h2; omega), .inl (by simp [leastN])⟩
  | k + 1, j => by
    unfold leastN
    by_cases h : p j
    · rw [if_pos h]; exact ⟨by omega, by omega, fun g h1 h2 => by omega, .inr h⟩
    · rw [if_neg h]
      obtain ⟨a, b, c, d⟩ := leastN_spec p k (j + 1)
      refine ⟨by omega, by omega, fun g h1 h2 => ?_, d.imp_left fun e => by omega⟩
      by_cases e : g = j
      · subst e; simpa using h
      · exact c g (by omega) h2
/-- What flows: t the shear, y the yield. -/
def FlowsP (g flow c e y v : Int) : Prop := if flow = 0 ∨ g * e ≤ y then flow = 0 else (flow * v) * (g * e * (g * e)) ≤ ((g * e - y) * (g * e - y)) * ((2 * (g * e) + y) * e * c)
instance {g flow c e y v : Int} : Decidable (FlowsP g flow c e y v) := by unfold FlowsP; infer_instance
def CanP (a b c e y v flow : Int) : Prop := (1 ≤ a ∧ a ≤ 1048576 ∧ 0 ≤ b ∧ b ≤ a ∧ 1 ≤ c ∧ c ≤ 5000 ∧ 1 ≤ e ∧ e ≤ 200) ∧ 0 ≤ y ∧ y ≤ 1000000 ∧ 1 ≤ v ∧ v ≤ 1000000 ∧ 0 ≤ flow ∧ flow ≤ 1000000
instance {a b c e y v flow : Int} : Decidable (CanP a b c e y v flow) := by unfold CanP; infer_instance
def gradI (c e y v flow : Int) : Int := leastN (fun g => decide (FlowsP g flow c e y v)) 20001 0
theorem gradI_spec (c e y v flow : Int) : 0 ≤ gradI c e y v flow ∧ gradI c e y v flow ≤ 20001 ∧ (∀ g, 0 ≤ g → g < gradI c e y v flow → ¬ FlowsP g flow c e y v) ∧ (gradI c e y v flow = 20001 ∨ FlowsP (gradI c e y v flow) flow c e y v) := by
  obtain ⟨a, b, d, f⟩ := leastN_spec (fun g => decide (FlowsP g flow c e y v)) 20001 0
  unfold gradI
  exact ⟨a, by simpa using b, fun g h1 h2 => by simpa using d g h1 h2, f.imp (fun h => by simpa using h) (fun h => by simpa using h)⟩
/-- u u (3 t - u) grows with u, up to t. -/
theorem cube_mono {t u w : Int} (h0 : 0 ≤ u) (h1 : u ≤ w) (h2 : w ≤ t) : u * u * (3 * t - u) ≤ w * w * (3 * t - w) := by
  obtain ⟨k, rfl⟩ : ∃ k, w = u + k := ⟨w - u, by omega⟩
  obtain ⟨r, rfl⟩ : ∃ r, t = u + k + r := ⟨t - (u + k), by omega⟩
  have a1 : 0 ≤ u * k := Int.mul_nonneg h0 (by omega)
  have a2 : 0 ≤ u * r := Int.mul_nonneg h0 (by omega)
  have a3 : 0 ≤ k * k := Int.mul_nonneg (by omega) (by omega)
  have a4 : 0 ≤ k * r := Int.mul_nonneg (by omega) (by omega)
  have b1 : 0 ≤ u * (u * k) := Int.mul_nonneg h0 a1
  have b2 : 0 ≤ u * (k * k) := Int.mul_nonneg h0 a3
  have b3 : 0 ≤ u * (k * r) := Int.mul_nonneg h0 a4
  have b4 : 0 ≤ k * (k * k) := Int.mul_nonneg (by omega) a3
  have b5 : 0 ≤ k * (k * r) := Int.mul_nonneg (by omega) a4
  have e : (u + k) * (u + k) * (3 * (u + k + r) - (u + k)) - u * u * (3 * (u + k + r) - u) = 3 * (u * (u * k)) + 6 * (u * (k * k)) + 6 * (u * (k * r)) + 2 * (k * (k * k)) + 3 * (k * (k * r)) := by
    grind
  omega
def Phi (t y : Int) : Int := (t - y) * (t - y) * (2 * t + y)
theorem phi_t {t t' y : Int} (h0 : 0 ≤ y) (h1 : y ≤ t) (h2 : t ≤ t') : Phi t y * (t' * t') ≤ Phi t' y * (t * t) := by
  have a0 : 0 ≤ (t - y) * t' := Int.mul_nonneg (by omega) (by omega)
  have ab : (t - y) * t' ≤ (t' - y) * t := by
    have e : (t' - y) * t - (t - y) * t' = y * (t' - t) := by grind
    have := Int.mul_nonneg h0 (show 0 ≤ t' - t by omega)
    omega
  have s := Int.mul_le_mul ab ab a0 (by omega)
  have s0 := Int.mul_nonneg a0 a0
  have s2 := Int.mul_le_mul s (show 2 * t + y ≤ 2 * t' + y by omega) (by omega) (by omega)
  have e1 : Phi t y * (t' * t') = (t - y) * t' * ((t - y) * t') * (2 * t + y) := by unfold Phi; grind
  have e2 : Phi t' y * (t * t) = (t' - y) * t * ((t' - y) * t) * (2 * t' + y) := by unfold Phi; grind
  omega
theorem phi_y {t y y' : Int} (h0 : 0 ≤ y') (h1 : y' ≤ y) (h2 : y ≤ t) : Phi t y ≤ Phi t y' := by
  have := cube_mono (t := t) (u := t - y) (w := t - y') (by omega) (by omega) (by omega)
  have e1 : Phi t y = (t - y) * (t - y) * (3 * t - (t - y)) := by unfold Phi; grind
  have e2 : Phi t y' = (t - y') * (t - y') * (3 * t - (t - y')) := by unfold Phi; grind
  omega
theorem phi_0 {t y : Int} (h0 : 0 ≤ y) (h1 : 0 ≤ t) : 0 ≤ Phi t y := by
  unfold Phi
  refine Int.mul_nonneg ?_ (by omega)
  rcases Int.le_total 0 (t - y) with h | h
  · exact Int.mul_nonneg h h
  · exact Int.mul_nonneg_of_nonpos_of_nonpos h h
theorem flows_is {g flow c e y v : Int} : FlowsP g flow c e y v = (if flow = 0 ∨ g * e ≤ y then flow = 0 else (flow * v) * (g * e * (g * e)) ≤ Phi (g * e) y * (e * c)) := by
  unfold FlowsP Phi
  rw [show (g * e - y) * (g * e - y) * ((2 * (g * e) + y) * e * c) = (g * e - y) * (g * e - y) * (2 * (g * e) + y) * (e * c) by grind]
theorem flows_mono {g g' flow flow' c e e' y y' v v' : Int} (g0 : 0 ≤ g) (hg : g ≤ g') (he0 : 1 ≤ e) (he : e ≤ e') (hc : 1 ≤ c) (hy0 : 0 ≤ y') (hy : y' ≤ y) (hv0 : 0 ≤ v') (hv : v' ≤ v) (hf0 : 0 ≤ flow') (hf : flow' ≤ flow) (h : FlowsP g flow c e y v) : FlowsP g' flow' c e' y' v' := by
  rw [flows_is] at h ⊢
  by_cases z : flow' = 0
  · rw [if_pos (.inl z)]; exact z
  · have hne : ¬ (flow = 0 ∨ g * e ≤ y) := fun hc => by rw [if_pos hc] at h; omega
    rw [if_neg hne] at h
    have t0 : 0 ≤ g * e := Int.mul_nonneg g0 (by omega)
    have tt : g * e ≤ g' * e' := Int.mul_le_mul hg he (by omega) (by omega)
    have k0 : 0 ≤ e * c := Int.mul_nonneg (by omega) (by omega)
    have kk : e * c ≤ e' * c := Int.mul_le_mul_of_nonneg_right he (by omega)
    generalize g * e = t at *
    generalize g' * e' = t' at *
    generalize e * c = K at *
    generalize e' * c = K' at *
    rw [if_neg (by omega)]
    have f1 : flow' * v' ≤ flow * v := Int.mul_le_mul hf hv hv0 (by omega)
    have f2 : flow' * v' * (t' * t') ≤ flow * v * (t' * t') := Int.mul_le_mul_of_nonneg_right f1 (Int.mul_nonneg (by omega) (by omega))
    have p0 := phi_0 (t := t') (y := y) (by omega) (by omega)
    have a := phi_t (t := t) (t' := t') (y := y) (by omega) (by omega) tt
    have b := phi_y (t := t') (y := y) (y' := y') hy0 hy (by omega)
    have q1 : Phi t y * (t' * t') * K ≤ Phi t' y * (t * t) * K := Int.mul_le_mul_of_nonneg_right a k0
    have q2 := Int.mul_le_mul_of_nonneg_right h (show 0 ≤ t' * t' from Int.mul_nonneg (by omega) (by omega))
    have q3 : flow * v * (t' * t') * (t * t) ≤ Phi t' y * K * (t * t) := by
      have e1 : flow * v * (t' * t') * (t * t) = flow * v * (t * t) * (t' * t') := by grind
      have e2 : Phi t y * K * (t' * t') = Phi t y * (t' * t') * K := by grind
      have e3 : Phi t' y * K * (t * t) = Phi t' y * (t * t) * K := by grind
      omega
    have tp : 0 < t * t := Int.mul_pos (by omega) (by omega)
    have q4 : flow * v * (t' * t') ≤ Phi t' y * K := Int.le_of_mul_le_mul_right q3 tp
    have q5 : Phi t' y * K ≤ Phi t' y' * K' := Int.mul_le_mul b kk k0 (phi_0 hy0 (by omega))
    omega
/-- A flow that is not 0 wants more than the yield. -/
theorem flows_yield {g flow c e y v : Int} (h : FlowsP g flow c e y v) (hf : flow ≠ 0) : ¬ g * e ≤ y := fun hc => by
  rw [flows_is, if_pos (.inr hc)] at h
  exact hf h
theorem grad_le {c e y v flow c' e' y' v' flow' : Int} (h : ∀ g, 0 ≤ g → g ≤ 20000 → FlowsP g flow c e y v → FlowsP g flow' c' e' y' v') : gradI c' e' y' v' flow' ≤ gradI c e y v flow := by
  obtain ⟨a1, a2, a3, a4⟩ := gradI_spec c e y v flow
  obtain ⟨b1, b2, b3, b4⟩ := gradI_spec c' e' y' v' flow'
  rcases a4 with a4 | a4
  · omega
  · by_cases hq : gradI c e y v flow ≤ 20000
    · by_cases hlt : gradI c e y v flow < gradI c' e' y' v' flow'
      · exact absurd (h _ a1 hq a4) (b3 _ a1 hlt)
      · omega
    · omega
end Go.Rx
