/-
  Holes made of numbers. No program.
-/
import Derived.Test.YtfjilbjofaommaaYw
import Derived.Test.YtfjilbjofaommaaFm
import Derived.Test.YtfjilbjofaommaaLe
set_option linter.unusedSimpArgs false
set_option linter.unusedVariables false
namespace Go.Rx
open Go
def pickI (l : Ll) (i : Int) : Int := if l.length = 0 then 0 else (l.get (i % l.length) 0) % 1099511627776
theorem pick_b (l : Ll) (i : Int) : 0 ≤ pickI l i ∧ pickI l i < 1099511627776 := by
  unfold pickI
  split
  · omega
  · exact ⟨Int.emod_nonneg _ (by omega), Int.emod_lt_of_pos _ (by omega)⟩
def segRow (n : Int) : List Int := [1 + n % 100000, n / 11 % (1 + n % 100000 + 1), 1 + n / 3 % 1500, 1 + n / 7 % 200]
def annK (l : Ll) : Nat := max 1 (min l.length 5)
theorem annK_b (l : Ll) : 1 ≤ annK l ∧ annK l ≤ 5 := by unfold annK; omega
theorem annK_eq (l : Ll) : maxL 1 (minL (Ll.len l) 5) = (annK l : Int) := by
  have h : Ll.len l = (l.length : Int) := rfl
  rw [h]
  unfold annK maxL minL
  by_cases a : (5 : Int) < l.length <;> by_cases b : (l.length : Int) > 1 <;> simp [a, b] <;> omega
def annP (l : Ll) (k : Nat) : Ll := (List.range k).map fun (i : Nat) => segRow (pickI l i)
def annL (l : Ll) : Ll := annP l (annK l)
theorem annP_succ (l : Ll) (k : Nat) : annP l (k + 1) = annP l k ++ [segRow (pickI l k)] := by
  simp [annP, List.range_succ]
theorem annP_len (l : Ll) (k : Nat) : (annP l k).length = k := by simp [annP]
theorem annP_rows (l : Ll) (k : Nat) : ∀ x ∈ annP l k, x.length = 4 := by
  intro x hx
  simp [annP] at hx
  obtain ⟨i, _, rfl⟩ := hx
  rfl
/-- A segment of a valid hole. -/
def SegOK (l : Ll) (i : Int) : Prop := 1 ≤ l.get i 0 ∧ l.get i 0 ≤ 100000 ∧ 0 ≤ l.get i 1 ∧ l.get i 1 ≤ l.get i 0 ∧ 1 ≤ l.get i 2 ∧ l.get i 2 ≤ 1500 ∧ 1 ≤ l.get i 3 ∧ l.get i 3 ≤ 200
theorem annP_ok (l : Ll) (k : Nat) (i : Int) (h0 : 0 ≤ i) (h1 : i < k) : SegOK (annP l k) i := by
  have e : (annP l k).getD i.toNat [] = segRow (pickI l i) := by
    unfold annP
    rw [List.getD_eq_getElem?_getD, List.getElem?_map, List.getElem?_range (by omega)]
    simp only [Option.map_some, Option.getD_some]
    rw [Int.toNat_of_nonneg h0]
  obtain ⟨b0, b1⟩ := pick_b l i
  unfold SegOK Ll.get
  rw [e]
  simp only [segRow, List.getD_cons_zero, List.getD_cons_succ]
  generalize pickI l i = n at *
  have a1 := Int.emod_nonneg n (show (100000 : Int) ≠ 0 by omega)
  have a2 := Int.emod_lt_of_pos n (show (0 : Int) < 100000 by omega)
  have c1 := Int.emod_nonneg (n / 11) (show (1 + n % 100000 + 1 : Int) ≠ 0 by omega)
  have c2 := Int.emod_lt_of_pos (n / 11) (show (0 : Int) < 1 + n % 100000 + 1 by omega)
  exact ⟨by omega, by omega, c1, by omega, by omega, by omega, by omega, by omega⟩
end Go.Rx
