/-
  Layer 5: what tests prove. No program.
-/
import Derived.Test.YtlbimnefemcaaaaLe
set_option linter.unusedSimpArgs false
set_option linter.unusedVariables false
namespace Go.Rx
open Go
/-- A test that did not hold, from a tick on until now. -/
def badAt (l : Ll) (since now j : Int) : Bool := (!(Ll.getB l j 1) && decide (since ≤ Ll.get l j 2)) && decide (Ll.get l j 2 ≤ now)
def badI (l : Ll) (since now : Int) : Int := leastN (badAt l since now) l.length 0
def badB (l : Ll) (since now : Int) : Bool := decide (badI l since now < l.length)
def recB (t now age : Int) : Bool := decide (t ≤ now) && decide (IntKind.wrap .u64 (IntKind.wrap .u64 now - IntKind.wrap .u64 t) ≤ IntKind.wrap .u64 age)
def goodAt (l : Ll) (need now age j : Int) : Bool := ((Ll.getB l j 1 && decide (need ≤ Ll.get l j 0)) && recB (Ll.get l j 2) now age) && !(badB l (Ll.get l j 2) now)
def goodI (l : Ll) (need now age : Int) : Int := leastN (goodAt l need now age) l.length 0
def provB (l : Ll) (need now age : Int) : Bool := decide (l.length ≤ 24 ∧ 0 ≤ age ∧ goodI l need now age < l.length)
theorem wrap_id {n : Int} (h0 : -9223372036854775808 ≤ n) (h1 : n ≤ 9223372036854775807) : IntKind.wrap .i64 n = n := InK.wrap (k := .i64) ⟨h0, h1⟩
theorem cond3 {x y z : Bool} {R N : Prop} : cond x (cond y (cond z R N) N) N = cond ((x && y) && z) R N := by cases x <;> cases y <;> cases z <;> rfl
theorem dec_not {a b : Int} : decide (a < b) = !decide (b ≤ a) := by
  by_cases h : a < b
  · rw [decide_eq_true h, decide_eq_false (by omega)]; rfl
  · rw [decide_eq_false h, decide_eq_true (by omega)]; rfl
/-- Is there one among the first k? -/
def badTo (l : Ll) (since now k : Int) : Bool := decide (badI l since now < k)
theorem badTo_0 {l : Ll} {since now : Int} : badTo l since now 0 = false := by
  have := (leastN_spec (badAt l since now) l.length 0).1
  unfold badTo badI
  exact decide_eq_false (by omega)
theorem badTo_len {l : Ll} {since now : Int} : badTo l since now l.length = badB l since now := rfl
theorem badTo_succ {l : Ll} {since now k : Int} (h0 : 0 ≤ k) (h1 : k < l.length) : badTo l since now (k + 1) = (badTo l since now k || badAt l since now k) := by
  unfold badTo
  by_cases hq : badI l since now < k
  · rw [decide_eq_true hq, decide_eq_true (by omega)]; rfl
  · rw [decide_eq_false hq, Bool.false_or]
    have hs := leastN_step (p := badAt l since now) (k := l.length) h0 (by unfold badI at hq; omega) h1
    cases hb : badAt l since now k with
    | true => exact decide_eq_true (by have := hs.1 hb; unfold badI; omega)
    | false => exact decide_eq_false (by have := hs.2 hb; unfold badI; omega)
/-- No test failed just now. -/
def clTo (l : Ll) (now k : Int) : Prop := ∀ j : Int, 0 ≤ j → j < k → (Ll.getB l j 1 || decide (Ll.get l j 2 ≠ now)) = true
def clB (l : Ll) (now : Int) : Bool := !decide (leastN (fun j => !(Ll.getB l j 1 || decide (Ll.get l j 2 ≠ now))) l.length 0 < l.length)
theorem clB_iff {l : Ll} {now : Int} : clB l now = true ↔ clTo l now l.length := by
  unfold clB clTo
  rw [Bool.not_eq_true', decide_eq_false_iff_not, leastN_lt]
  constructor
  · intro h j h0 h1
    cases hb : (Ll.getB l j 1 || decide (Ll.get l j 2 ≠ now)) with
    | true => rfl
    | false => exact absurd ⟨j, h0, h1, by rw [hb]; rfl⟩ h
  · rintro h ⟨j, h0, h1, h2⟩
    rw [h j h0 h1] at h2; cases h2
theorem prov_iff {l : Ll} {need now age : Int} : provB l need now age = true ↔ l.length ≤ 24 ∧ 0 ≤ age ∧ ∃ j : Int, 0 ≤ j ∧ j < l.length ∧ goodAt l need now age j = true := by
  unfold provB goodI
  rw [decide_eq_true_iff, leastN_lt]
theorem bad_iff {l : Ll} {since now : Int} : badB l since now = true ↔ ∃ j : Int, 0 ≤ j ∧ j < l.length ∧ badAt l since now j = true := by
  unfold badB badI
  rw [decide_eq_true_iff, leastN_lt]
theorem good_iff {l : Ll} {need now age j : Int} : goodAt l need now age j = true ↔ Ll.getB l j 1 = true ∧ need ≤ Ll.get l j 0 ∧ recB (Ll.get l j 2) now age = true ∧ badB l (Ll.get l j 2) now = false := by
  unfold goodAt
  simp only [Bool.and_eq_true, decide_eq_true_iff, Bool.not_eq_true', and_assoc]
theorem badAt_iff {l : Ll} {since now j : Int} : badAt l since now j = true ↔ Ll.getB l j 1 = false ∧ since ≤ Ll.get l j 2 ∧ Ll.get l j 2 ≤ now := by
  unfold badAt
  simp only [Bool.and_eq_true, decide_eq_true_iff, Bool.not_eq_true', and_assoc]
theorem wrap_u64 {n : Int} (h0 : 0 ≤ n) (h1 : n < 18446744073709551616) : IntKind.wrap .u64 n = n := by
  simp [IntKind.wrap, IntKind.bits, IntKind.signed] <;> omega
theorem rec_age {t now age age' : Int} (h0 : 0 ≤ age) (h : age ≤ age') (h1 : age' < 18446744073709551616) (hr : recB t now age = true) : recB t now age' = true := by
  unfold recB at hr ⊢
  simp only [Bool.and_eq_true, decide_eq_true_iff] at hr ⊢
  rw [wrap_u64 h0 (by omega)] at hr
  rw [wrap_u64 (by omega) h1]
  exact ⟨hr.1, by omega⟩
theorem prov_less {l : Ll} {need need' now age : Int} (h : need' ≤ need) (hp : provB l need now age = true) : provB l need' now age = true := by
  rw [prov_iff] at hp ⊢
  obtain ⟨a, b, j, c, d, e⟩ := hp
  rw [good_iff] at e
  exact ⟨a, b, j, c, d, good_iff.2 ⟨e.1, by omega, e.2.2⟩⟩
theorem prov_more {l : Ll} {need now age age' : Int} (h0 : 0 ≤ age) (h : age ≤ age') (h1 : age' < 18446744073709551616) (hp : provB l need now age = true) : provB l need now age' = true := by
  rw [prov_iff] at hp ⊢
  obtain ⟨a, b, j, c, d, e⟩ := hp
  rw [good_iff] at e
  exact ⟨a, by omega, j, c, d, good_iff.2 ⟨e.1, e.2.1, rec_age h0 h h1 e.2.2.1, e.2.2.2⟩⟩
theorem get_last {l : Ll} {x : List Int} {c : Nat} : Ll.get (l ++ [x]) (l.length : Int) c = x.getD c 0 := by
  have := getLl_app (g := l) (h := [x]) (i := l.length) (j := c)
  rw [this, if_neg (by omega), Nat.sub_self]
  rfl
theorem get_old {l : Ll} {x : List Int} {j : Int} {c : Nat} (h0 : 0 ≤ j) (h1 : j < l.length) : Ll.get (l ++ [x]) j c = Ll.get l j c := by
  have := getLl_app (g := l) (h := [x]) (i := j.toNat) (j := c)
  rw [Int.toNat_of_nonneg h0] at this
  rw [this, if_pos (by omega)]
/-- A test that did not hold, now, ends it. -/
theorem prov_bad {l : Ll} {p need now age : Int} : provB (l ++ [[p, 0, now]]) need now age = false := by
  cases hp : provB (l ++ [[p, 0, now]]) need now age with
  | false => rfl
  | true =>
    rw [prov_iff] at hp
    obtain ⟨_, _, j, _, _, e⟩ := hp
    obtain ⟨_, _, e3, e4⟩ := good_iff.1 e
    have e5 : Ll.get (l ++ [[p, 0, now]]) j 2 ≤ now := by
      unfold recB at e3
      simp only [Bool.and_eq_true, decide_eq_true_iff] at e3
      exact e3.1
    have hb : badB (l ++ [[p, 0, now]]) (Ll.get (l ++ [[p, 0, now]]) j 2) now = true := bad_iff.2 ⟨l.length, by omega, by simp <;> omega, badAt_iff.2 ⟨by unfold Ll.getB; rw [get_last]; rfl, by rw [get_last]; exact e5, by rw [get_last]; exact Int.le_refl _⟩⟩
    rw [hb] at e4; cases e4
theorem prov_good {l : Ll} {need now age : Int} (hl : l.length ≤ 20) (h0 : 0 ≤ age) (h1 : age < 18446744073709551616) (hc : clTo l now l.length) : provB (l ++ [[need, 1, now]]) need now age = true := by
  refine prov_iff.2 ⟨by simp; omega, h0, l.length, by omega, by simp <;> omega, good_iff.2 ⟨by unfold Ll.getB; rw [get_last]; rfl, by rw [get_last]; exact Int.le_refl _, ?_, ?_⟩⟩
  · rw [get_last]
    unfold recB
    simp only [Bool.and_eq_true, decide_eq_true_iff]
    refine ⟨Int.le_refl _, ?_⟩
    show IntKind.wrap .u64 (IntKind.wrap .u64 now - IntKind.wrap .u64 now) ≤ _
    rw [Int.sub_self, wrap_u64 (by omega) (by omega), wrap_u64 h0 h1]
    exact h0
  · rw [get_last]
    show badB _ now now = false
    cases hb : badB (l ++ [[need, 1, now]]) now now with
    | false => rfl
    | true =>
      obtain ⟨j, a, b, c⟩ := bad_iff.1 hb
      obtain ⟨c1, c2, c3⟩ := badAt_iff.1 c
      have b : j < l.length + 1 := by simpa using b
      by_cases hj : j < l.length
      · unfold Ll.getB at c1
        rw [get_old a hj] at c1 c2 c3
        have := hc j a hj
        unfold Ll.getB at this
        rw [c1] at this
        have e : Ll.get l j 2 = now := by omega
        rw [e] at this
        simp at this
      · obtain rfl : j = l.length := by omega
        unfold Ll.getB at c1
        rw [get_last] at c1
        simp at c1
end Go.Rx
