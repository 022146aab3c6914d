/-
  Layer 5: what tests prove. No program.
-/
import Derived.Test.YtlbimnefemcaaaaLe
set_option linter.unusedSimpArgs false
set_option linter.unusedVariables false
namespace Go.Rx
open Go
/-- A test that did not hold, from a tick on until now. -/
def badAt (l : Ll) (since now j : Int) : Bool := (!(Ll.getB l j 1) && decide (since ≤ Ll.get l j 2)) && decide (Ll.get l j 2 ≤ now)
def badI (l : Ll) (since now : Int) : Int := leastN (badAt l since now) l.length 0
def badB (l : Ll) (since now : Int) : Bool := decide (badI l since now < l.length)
def recB (t now age : Int) : Bool := decide (t ≤ now) && decide (IntKind.wrap .u64 (IntKind.wrap .u64 now - IntKind.wrap .u64 t) ≤ IntKind.wrap .u64 age)
def goodAt (l : Ll) (need now age j : Int) : Bool := ((Ll.getB l j 1 && decide (need ≤ Ll.get l j 0)) && recB (Ll.get l j 2) now age) && !(badB l (Ll.get l j 2) now)
def goodI (l : Ll) (need now age : Int) : Int := leastN (goodAt l need now age) l.length 0
def provB (l : Ll) (need now age : Int) : Bool := decide (l.length ≤ 24 ∧ 0 ≤ age ∧ goodI l need now age < l.length)
theorem wrap_id {n : Int} (h0 : -9223372036854775808 ≤ n) (h1 : n ≤ 9223372036854775807) : IntKind.wrap .i64 n = n := InK.wrap (k := .i64) ⟨h0, h1⟩
theorem cond3 {x y z : Bool} {R N : Prop} : cond x (cond y (cond z R N) N) N = cond ((x && y) && z) R N := by cases x <;> cases y <;> cases z <;> rfl
theorem dec_not {a b : Int} : decide (a < b) = !decide (b ≤ a) := by
  by_cases h : a < b
  · rw [decide_eq_true h, decide_eq_false (by omega)]; rfl
  · rw [decide_eq_false h, decide_eq_true (by omega)]; rfl
/-- Is there one among the first k? -/
def badTo (l : Ll) (since now k : Int) : Bool := decide (badI l since now < k)
theorem badTo_0 {l : Ll} {since now : Int} : badTo l since now 0 = false := by
  have := (leastN_spec (badAt l since now) l.length 0).1
  unfold badTo badI
  exact decide_eq_false (by omega)
theorem badTo_len {l : Ll} {since now : Int} : badTo l since now l.length = badB l since now := rfl
theorem badTo_succ {l : Ll} {since now k : Int} (h0 : 0 ≤ k) (h1 : k < l.length) : badTo l since now (k + 1) = (badTo l since now k || badAt l since now k) := by
  unfold badTo
  by_cases hq : badI l since now < k
  · rw [decide_eq_true hq, decide_eq_true (by omega)]; rfl
  · rw [decide_eq_false hq, Bool.false_or]
    have hs := leastN_step (p := badAt l since now) (k := l.length) h0 (by unfold badI at hq; omega) h1
    cases hb : badAt l since now k with
    | true => exact decide_eq_true (by have := hs.1 hb; unfold badI; omega)
    | false => exact decide_eq_false (by have := hs.2 hb; unfold badI; omega)
end Go.Rx
