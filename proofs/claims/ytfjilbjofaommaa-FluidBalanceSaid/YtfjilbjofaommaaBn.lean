/-
  The height line of a hole is right and never falls; lines that never fall. No program.
-/
import Derived.Test.YtfjilbjofaommaaBm
import Derived.Test.YtfjilbjofaommaaVm
import Derived.Test.YtfjilbjofaommaaMa
set_option linter.unusedSimpArgs false
set_option linter.unusedVariables false
namespace Go.Rx
open Go
/-! ### Lines that never fall -/
def MonoL (l : Ll) : Prop := ∀ j : Int, 0 < j → j < l.length → Ll.get l (j - 1) 1 ≤ Ll.get l j 1
theorem mono_le {l : Ll} (m : MonoL l) {i : Int} (h0 : 0 ≤ i) : ∀ (n : Nat), i + n < l.length → Ll.get l i 1 ≤ Ll.get l (i + n) 1
  | 0, _ => by simp
  | n + 1, h => by
    have h1 := mono_le m h0 n (by omega)
    have h2 := m (i + (n + 1 : Nat)) (by omega) (by omega)
    rw [show i + ((n + 1 : Nat) : Int) - 1 = i + n by omega] at h2
    omega
theorem mono_at {l : Ll} (m : MonoL l) {i j : Int} (h0 : 0 ≤ i) (h1 : i ≤ j) (h2 : j < l.length) : Ll.get l i 1 ≤ Ll.get l j 1 := by
  have := mono_le m h0 (j - i).toNat (by omega)
  rwa [show i + ((j - i).toNat : Int) = j by omega] at this
theorem kAt_mono {l : Ll} {x y : Int} (h : x ≤ y) : kAt l x ≤ kAt l y := by
  obtain ⟨a1, a2, a3, a4⟩ := kAt_spec l x
  obtain ⟨b1, b2, b3, b4⟩ := kAt_spec l y
  refine Int.not_lt.1 fun hc => ?_
  have := a3 (kAt l y) b1 hc
  have := b4.resolve_left (by omega)
  omega
/-- Where a value lies. -/
theorem val_in {l : Ll} (h : RightL l) (m : MonoL l) (x : Int) : (kAt l x = 0 ∧ valLo l x = Ll.get l 0 1 ∧ valHi l x = Ll.get l 0 1) ∨ (kAt l x = l.length ∧ valLo l x = Ll.get l (l.length - 1) 1 ∧ valHi l x = Ll.get l (l.length - 1) 1) ∨
    (0 < kAt l x ∧ kAt l x < l.length ∧ Ll.get l (kAt l x - 1) 1 ≤ valLo l x ∧ valLo l x ≤ valHi l x ∧ valHi l x ≤ Ll.get l (kAt l x) 1 ∧
      0 ≤ over l (kAt l x) x ∧ 1 ≤ wide l (kAt l x) ∧ valLo l x = Ll.get l (kAt l x - 1) 1 + over l (kAt l x) x / wide l (kAt l x) ∧ valHi l x = Ll.get l (kAt l x - 1) 1 + cdiv (over l (kAt l x) x) (wide l (kAt l x))) := by
  obtain ⟨a1, a2, a3, a4⟩ := kAt_spec l x
  have hlen := h.len
  by_cases h0 : kAt l x = 0
  · exact .inl ⟨h0, (val_first h0).1, (val_first h0).2⟩
  · by_cases h1 : kAt l x = l.length
    · exact .inr (.inl ⟨h1, (val_last h1 (by omega)).1, (val_last h1 (by omega)).2⟩)
    · refine .inr (.inr ⟨by omega, by omega, ?_⟩)
      have v0 : valLo l x = Ll.get l (kAt l x - 1) 1 + over l (kAt l x) x / wide l (kAt l x) := by unfold valLo; rw [if_neg h0, if_neg h1]
      have v1 : valHi l x = Ll.get l (kAt l x - 1) 1 + cdiv (over l (kAt l x) x) (wide l (kAt l x)) := by unfold valHi; rw [if_neg h0, if_neg h1]
      have hx := a4.resolve_left h1
      have hb := a3 (kAt l x - 1) (by omega) (by omega)
      have hm := m (kAt l x) (by omega) (by omega)
      have ho := h.ord (kAt l x) (by omega) (by omega)
      have hw : wide l (kAt l x) = Ll.get l (kAt l x) 0 - Ll.get l (kAt l x - 1) 0 := rfl
      have hv : over l (kAt l x) x = (Ll.get l (kAt l x) 1 - Ll.get l (kAt l x - 1) 1) * (x - Ll.get l (kAt l x - 1) 0) := rfl
      have w1 : 1 ≤ wide l (kAt l x) := by omega
      have o0 : 0 ≤ over l (kAt l x) x := by rw [hv]; exact Int.mul_nonneg (by omega) (by omega)
      have o1 : over l (kAt l x) x ≤ wide l (kAt l x) * (Ll.get l (kAt l x) 1 - Ll.get l (kAt l x - 1) 1) := by
        rw [hv, Int.mul_comm (wide l (kAt l x))]
        exact Int.mul_le_mul_of_nonneg_left (by omega) (by omega)
      have q0 : 0 ≤ over l (kAt l x) x / wide l (kAt l x) := Int.ediv_nonneg o0 (by omega)
      have q1 : over l (kAt l x) x / wide l (kAt l x) ≤ cdiv (over l (kAt l x) x) (wide l (kAt l x)) := by
        rw [cdiv_eq _ _ o0 w1]
        exact Int.ediv_le_ediv (by omega) (by omega)
      have q2 : cdiv (over l (kAt l x) x) (wide l (kAt l x)) ≤ Ll.get l (kAt l x) 1 - Ll.get l (kAt l x - 1) 1 := by
        unfold cdiv
        have : -(Ll.get l (kAt l x) 1 - Ll.get l (kAt l x - 1) 1) ≤ (-over l (kAt l x) x) / wide l (kAt l x) := Int.le_ediv_of_mul_le (by omega) (by rw [Int.neg_mul, Int.mul_comm]; omega)
        omega
      exact ⟨by omega, by omega, by omega, o0, w1, v0, v1⟩
theorem cdiv_mono {a b q : Int} (h0 : 0 ≤ a) (h : a ≤ b) (hq : 1 ≤ q) : cdiv a q ≤ cdiv b q := by
  rw [cdiv_eq _ _ h0 hq, cdiv_eq _ _ (by omega) hq]
  exact Int.ediv_le_ediv (by omega) (by omega)
theorem val_mono {l : Ll} (h : RightL l) (m : MonoL l) {x y : Int} (hxy : x ≤ y) : valLo l x ≤ valLo l y ∧ valHi l x ≤ valHi l y := by
  have hk := kAt_mono (l := l) hxy
  have hlen := h.len
  by_cases e : kAt l x = kAt l y
  · rcases val_in h m x with ⟨a, b, c⟩ | ⟨a, b, c⟩ | ⟨a0, a1, a2, a3, a4, a5, a6, a7, a8⟩
    · obtain ⟨b', c'⟩ := val_first (l := l) (x := y) (by omega)
      omega
    · obtain ⟨b', c'⟩ := val_last (l := l) (x := y) (by omega) (by omega)
      omega
    · rcases val_in h m y with ⟨b, _⟩ | ⟨b, _⟩ | ⟨b0, b1, b2, b3, b4, b5, b6, b7, b8⟩
      · omega
      · omega
      · rw [a7, a8, b7, b8]
        rw [e] at a5 a6 ⊢
        have hm := m (kAt l y) (by omega) (by omega)
        have o1 : over l (kAt l y) x ≤ over l (kAt l y) y := Int.mul_le_mul_of_nonneg_left (by omega) (by omega)
        have := Int.ediv_le_ediv (c := wide l (kAt l y)) (by omega) o1
        have := cdiv_mono a5 o1 a6
        omega
  · have lo : ∀ z, 0 < kAt l z → Ll.get l (kAt l z - 1) 1 ≤ valLo l z ∧ Ll.get l (kAt l z - 1) 1 ≤ valHi l z := fun z hz => by
      rcases val_in h m z with ⟨b, _⟩ | ⟨b, c, d⟩ | ⟨b0, b1, b2, b3, b4, _⟩
      · omega
      · rw [b, c, d]; omega
      · omega
    have hi : ∀ z, kAt l z < l.length → valLo l z ≤ Ll.get l (kAt l z) 1 ∧ valHi l z ≤ Ll.get l (kAt l z) 1 := fun z hz => by
      rcases val_in h m z with ⟨b, c, d⟩ | ⟨b, _⟩ | ⟨b0, b1, b2, b3, b4, _⟩
      · rw [b, c, d]; omega
      · omega
      · omega
    obtain ⟨_, ky, _, _⟩ := kAt_spec l y
    obtain ⟨kx, _, _, _⟩ := kAt_spec l x
    have h1 := hi x (by omega)
    have h2 := lo y (by omega)
    have h3 := mono_at m (i := kAt l x) (j := kAt l y - 1) kx (by omega) (by omega)
    omega
/-! ### Height lines -/
theorem hgtP_get (l : Ll) : ∀ (n i : Nat), i ≤ n → (hgtP l n).getD i [] = [volN l i, risN l i]
  | 0, i, h => by obtain rfl : i = 0 := by omega
                  rfl
  | n + 1, i, h => by
    rw [hgtP, List.getD_eq_getElem?_getD, List.getElem?_append, hgtP_len]
    by_cases e : i < n + 1
    · rw [if_pos e, ← List.getD_eq_getElem?_getD]; exact hgtP_get l n i (by omega)
    · obtain rfl : i = n + 1 := by omega
      simp
theorem hgt_get {l : Ll} {n : Nat} {i : Int} (h0 : 0 ≤ i) (h1 : i ≤ n) : Ll.get (hgtP l n) i 0 = volN l i.toNat ∧ Ll.get (hgtP l n) i 1 = risN l i.toNat := by
  unfold Ll.get
  rw [hgtP_get l n i.toNat (by omega)]
  exact ⟨rfl, rfl⟩
theorem HoleOK.step {l : Ll} (h : HoleOK l) {i : Nat} (hi : i < l.length) : volN l i < volN l (i + 1) ∧ risN l i ≤ risN l (i + 1) := by
  obtain ⟨b1, b2, b3, b4, b5, b6, b7⟩ := sBad_no (h.good i hi)
  have m1 : Ll.get l i 0 ≤ Ll.get l i 0 * Ll.get l i 2 := by
    have := Int.mul_le_mul_of_nonneg_left b4 (show 0 ≤ Ll.get l i 0 by omega); omega
  simp only [volN, risN]
  omega
theorem hgt_chk {l : Ll} (h : HoleOK l) : lchk (hgtP l l.length) 1099511627776 1048576 = 0 := by
  have hlen := h.len
  have hl := hgtP_len l l.length
  have hk : ¬ kI (hgtP l l.length) 1099511627776 1048576 < (hgtP l l.length).length := fun hc => by
    obtain ⟨j, j0, j1, j2⟩ := (leastN_lt _ _).1 hc
    rw [hl] at j1
    obtain ⟨g0, g1⟩ := hgt_get (l := l) (n := l.length) j0 (by omega)
    have hb := h.b (n := j.toNat) (by omega)
    simp only [kErr, kBad, kOrd, Bool.or_eq_true, decide_eq_true_eq] at j2
    rw [g0, g1] at j2
    rcases j2 with j2 | ⟨j2, j3⟩
    · omega
    · obtain ⟨g2, _⟩ := hgt_get (l := l) (n := l.length) (i := j - 1) (by omega) (by omega)
      rw [g2] at j3
      have hs := (h.step (i := (j - 1).toNat) (by omega)).1
      rw [show (j - 1).toNat + 1 = j.toNat by omega] at hs
      omega
  unfold lchk
  rw [if_neg (by omega), if_neg (by omega), if_neg (by omega), if_neg hk]
theorem hgt_right {l : Ll} (h : HoleOK l) : rightB (hgtP l l.length) = true := by
  unfold rightB
  rw [Bool.or_eq_true]
  exact .inr (decide_eq_true (hgt_chk h))
theorem hgt_mono {l : Ll} (h : HoleOK l) : MonoL (hgtP l l.length) := fun j j0 j1 => by
  rw [hgtP_len] at j1
  rw [(hgt_get (l := l) (n := l.length) (i := j - 1) (by omega) (by omega)).2, (hgt_get (l := l) (n := l.length) (i := j) (by omega) (by omega)).2]
  have hs := (h.step (i := (j - 1).toNat) (by omega)).2
  rw [show (j - 1).toNat + 1 = j.toNat by omega] at hs
  exact hs
/-- The height at the top. -/
theorem hgt_top {l : Ll} (h : HoleOK l) : valLo (hgtP l l.length) (volN l l.length) = risN l l.length ∧ valHi (hgtP l l.length) (volN l l.length) = risN l l.length := by
  have hl := hgtP_len l l.length
  obtain ⟨g0, g1⟩ := hgt_get (l := l) (n := l.length) (i := l.length) (by omega) (by omega)
  have := val_knot (right_of (hgt_right h)) (j := l.length) (by omega) (by omega)
  rw [g0, g1] at this
  simpa using this
/-! ### Holes made of numbers -/
theorem ann_good (x : Ll) : GoodN (annL x) (annL x).length := fun j hj => by
  rw [annL, annP_len] at hj
  have := annP_ok x (annK x) j (by omega) (by omega)
  unfold SegOK at this
  unfold sBad annL
  rw [decide_eq_false_iff_not]
  omega
theorem ann_sum (x : Ll) : ∀ n : Nat, n ≤ annK x → sumN (annL x) n ≤ 100000 * n
  | 0, _ => by simp [sumN]
  | n + 1, h => by
    have h1 := ann_sum x n (by omega)
    have := annP_ok x (annK x) n (by omega) (by omega)
    unfold SegOK at this
    simp only [sumN]
    unfold annL at h1 ⊢
    omega
theorem ann_ok (x : Ll) : HoleOK (annL x) := by
  have hk := annK_b x
  have hl : (annL x).length = annK x := annP_len x _
  refine ⟨by omega, ?_, ?_⟩
  · intro hc
    obtain ⟨j, j0, j1, j2⟩ := (leastN_lt _ _).1 hc
    have := ann_good x j.toNat (by omega)
    rw [Int.toNat_of_nonneg j0, j2] at this
    cases this
  · rw [hl]; have := ann_sum x (annK x) (Nat.le_refl _); omega
theorem hole_zero {l : Ll} (h : HoleOK l) : holeE l = 0 := by
  unfold holeE
  have := h.len
  rw [if_neg (by omega), if_neg (by omega), if_neg h.bad, if_neg (by have := h.sum; omega)]
/-! ### Cement -/
def cemE (l : Ll) (v : Int) : Int := if ¬ holeE l = 0 then holeE l else if v < 0 ∨ volN l l.length < v then 2 else 0
def cemLo (l : Ll) (v : Int) : Int := if holeE l = 0 ∧ 0 ≤ v ∧ v ≤ volN l l.length then valLo (hgtP l l.length) v else 0
def cemHi (l : Ll) (v : Int) : Int := if holeE l = 0 ∧ 0 ≤ v ∧ v ≤ volN l l.length then valHi (hgtP l l.length) v else 0
end Go.Rx
