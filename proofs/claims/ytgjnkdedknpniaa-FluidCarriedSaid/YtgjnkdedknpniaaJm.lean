/-
  Layer 3: holes made of numbers. No program.
-/
import Derived.Test.YtgjnkdedknpniaaYw
import Derived.Test.YtgjnkdedknpniaaFm
set_option linter.unusedSimpArgs false
set_option linter.unusedVariables false
namespace Go.Rx
open Go
theorem tmod_cases (a b : Int) (hb : 1 ≤ b) : (0 ≤ a ∧ a.tmod b = a % b ∨ a.tmod b = a % b) ∧ 0 ≤ a.tmod b ∨ (a.tmod b < 0 ∧ a.tmod b + b = a % b) := by
  have e0 := Int.emod_nonneg a (show b ≠ 0 by omega)
  by_cases h : 0 ≤ a
  · have e := Int.tmod_eq_emod_of_nonneg h (b := b)
    exact .inl ⟨.inr e, by omega⟩
  · have e : a.tmod b = -((-a) % b) := by rw [show a = -(-a) by omega, Int.neg_tmod, Int.tmod_eq_emod_of_nonneg (by omega), show - - -a = -a by omega]
    have r0 := Int.emod_nonneg (-a) (show b ≠ 0 by omega)
    have r1 := Int.emod_lt_of_pos (-a) (show 0 < b by omega)
    by_cases hz : (-a) % b = 0
    · have : a % b = 0 := by
        rw [← Int.dvd_iff_emod_eq_zero] at hz ⊢
        exact (Int.dvd_neg.1 hz)
      exact .inl ⟨.inr (by omega), by omega⟩
    · have : a % b = b - (-a) % b := by
        have e2 : a = (b - (-a) % b) + b * (-((-a) / b) - 1) := by rw [Int.mul_sub, Int.mul_neg]; have := Int.mul_ediv_add_emod (-a) b; omega
        conv => lhs; rw [e2]
        rw [Int.add_mul_emod_self_left, Int.emod_eq_of_lt (by omega) (by omega)]
      exact .inr ⟨by omega, by omega⟩
def pickI (l : Ll) (i : Int) : Int := if l.length = 0 then 0 else (l.get (i % l.length) 0) % 1099511627776
theorem pick_b (l : Ll) (i : Int) : 0 ≤ pickI l i ∧ pickI l i < 1099511627776 := by
  unfold pickI
  split
  · omega
  · exact ⟨Int.emod_nonneg _ (by omega), Int.emod_lt_of_pos _ (by omega)⟩
def segRow (n : Int) : List Int := [1 + n % 100000, n / 11 % (1 + n % 100000 + 1), 1 + n / 3 % 1500, 1 + n / 7 % 200]
def annK (l : Ll) : Nat := max 1 (min l.length 5)
theorem annK_b (l : Ll) : 1 ≤ annK l ∧ annK l ≤ 5 := by unfold annK; omega
theorem annK_eq (l : Ll) : maxL 1 (minL (Ll.len l) 5) = (annK l : Int) := by
  have h : Ll.len l = (l.length : Int) := rfl
  rw [h]
  unfold annK maxL minL
  by_cases a : (5 : Int) < l.length <;> by_cases b : (l.length : Int) > 1 <;> simp [a, b] <;> omega
def annP (l : Ll) (k : Nat) : Ll := (List.range k).map fun (i : Nat) => segRow (pickI l i)
def annL (l : Ll) : Ll := annP l (annK l)
theorem annP_succ (l : Ll) (k : Nat) : annP l (k + 1) = annP l k ++ [segRow (pickI l k)] := by
  simp [annP, List.range_succ]
theorem annP_len (l : Ll) (k : Nat) : (annP l k).length = k := by simp [annP]
theorem annP_rows (l : Ll) (k : Nat) : ∀ x ∈ annP l k, x.length = 4 := by
  intro x hx
  simp [annP] at hx
  obtain ⟨i, _, rfl⟩ := hx
  rfl
/-- A segment of a valid hole. -/
def SegOK (l : Ll) (i : Int) : Prop := 1 ≤ l.get i 0 ∧ l.get i 0 ≤ 100000 ∧ 0 ≤ l.get i 1 ∧ l.get i 1 ≤ l.get i 0 ∧ 1 ≤ l.get i 2 ∧ l.get i 2 ≤ 1500 ∧ 1 ≤ l.get i 3 ∧ l.get i 3 ≤ 200
theorem annP_ok (l : Ll) (k : Nat) (i : Int) (h0 : 0 ≤ i) (h1 : i < k) : SegOK (annP l k) i := by
  have e : (annP l k).getD i.toNat [] = segRow (pickI l i) := by
    unfold annP
    rw [List.getD_eq_getElem?_getD, List.getElem?_map, List.getElem?_range (by omega)]
    simp only [Option.map_some, Option.getD_some]
    rw [Int.toNat_of_nonneg h0]
  obtain ⟨b0, b1⟩ := pick_b l i
  unfold SegOK Ll.get
  rw [e]
  simp only [segRow, List.getD_cons_zero, List.getD_cons_succ]
  generalize pickI l i = n at *
  have a1 := Int.emod_nonneg n (show (100000 : Int) ≠ 0 by omega)
  have a2 := Int.emod_lt_of_pos n (show (0 : Int) < 100000 by omega)
  have c1 := Int.emod_nonneg (n / 11) (show (1 + n % 100000 + 1 : Int) ≠ 0 by omega)
  have c2 := Int.emod_lt_of_pos (n / 11) (show (0 : Int) < 1 + n % 100000 + 1 by omega)
  exact ⟨by omega, by omega, c1, by omega, by omega, by omega, by omega, by omega⟩
theorem ediv_anti {a b p q : Int} (ha : 0 ≤ a) (hab : a ≤ b) (hp : 1 ≤ p) (hpq : p ≤ q) : a / q ≤ b / p := by
  refine Int.le_ediv_of_mul_le (by omega) ?_
  have h1 := Int.ediv_nonneg ha (show 0 ≤ q by omega)
  have h2 := Int.mul_le_mul_of_nonneg_left hpq h1
  have h3 : a / q * q ≤ a := Int.ediv_mul_le a (by omega)
  omega
theorem cdiv_le {a q c : Int} (hq : 1 ≤ q) (h : a ≤ q * c) : cdiv a q ≤ c := by
  unfold cdiv
  have : -c ≤ (-a) / q := Int.le_ediv_of_mul_le (by omega) (by rw [Int.neg_mul, Int.mul_comm]; omega)
  omega
theorem cdiv_ge {a q : Int} (hq : 1 ≤ q) : a ≤ q * cdiv a q := by
  have e := Int.mul_ediv_add_emod (-a) q
  have r0 := Int.emod_nonneg (-a) (show q ≠ 0 by omega)
  have e3 : q * cdiv a q = -(q * ((-a) / q)) := Int.mul_neg _ _
  omega
theorem cdiv_nonneg {a q : Int} (ha : 0 ≤ a) (hq : 1 ≤ q) : 0 ≤ cdiv a q := by
  unfold cdiv
  have : (-a) / q ≤ 0 := by
    by_cases h : a = 0
    · subst h; simp
    · exact Int.le_of_lt (Int.ediv_neg_of_neg_of_pos (by omega) (by omega))
  omega
theorem cdiv_anti {a b p q : Int} (ha : 0 ≤ a) (hab : a ≤ b) (hp : 1 ≤ p) (hpq : p ≤ q) : cdiv a q ≤ cdiv b p := by
  refine cdiv_le (by omega) ?_
  have h1 := cdiv_ge (a := b) hp
  have h2 := Int.mul_le_mul_of_nonneg_right hpq (cdiv_nonneg (show 0 ≤ b by omega) hp)
  omega
end Go.Rx
