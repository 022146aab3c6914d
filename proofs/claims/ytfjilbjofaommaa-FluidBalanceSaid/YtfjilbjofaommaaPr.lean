/-
  Columns of fluids in holes, and their pressures. No program.
-/
import Derived.Test.YtfjilbjofaommaaBn
set_option linter.unusedSimpArgs false
set_option linter.unusedVariables false
namespace Go.Rx
open Go
/-! ### Columns -/
def slN (c : Ll) : Nat → Int | 0 => 0 | n + 1 => slN c n + Ll.get c n 1
def cBad (c : Ll) (i : Int) : Bool := decide (Ll.get c i 0 < 0 ∨ 40000 < Ll.get c i 0 ∨ Ll.get c i 1 < 1)
def cI (c : Ll) : Int := leastN (cBad c) c.length 0
def colE (h c : Ll) : Int := if ¬ holeE h = 0 then holeE h else if c.length = 0 then 6 else if 24 < c.length then 8 else if cI c < c.length then 2 else if volN h h.length < slN c c.length then 5 else if slN c c.length < volN h h.length then 6 else 0
theorem cBad_no {c : Ll} {i : Int} (h : cBad c i = false) : 0 ≤ Ll.get c i 0 ∧ Ll.get c i 0 ≤ 40000 ∧ 1 ≤ Ll.get c i 1 := by
  unfold cBad at h
  simp only [decide_eq_false_iff_not] at h
  omega
theorem cI_spec (c : Ll) : 0 ≤ cI c ∧ cI c ≤ c.length ∧ (∀ j : Int, 0 ≤ j → j < cI c → cBad c j = false) := by
  obtain ⟨a, b, d, _⟩ := leastN_spec (cBad c) c.length 0
  exact ⟨a, by unfold cI; omega, d⟩
def CGood (c : Ll) (n : Nat) : Prop := ∀ j : Nat, j < n → cBad c j = false
theorem cgood_of {c : Ll} {n : Nat} (h : (n : Int) ≤ cI c) : CGood c n := fun j hj => (cI_spec c).2.2 j (by omega) (by omega)
theorem slN_b {c : Ll} : ∀ {n : Nat}, CGood c n → (n : Int) ≤ slN c n
  | 0, _ => by simp [slN]
  | n + 1, h => by
    have h1 := slN_b (n := n) fun j hj => h j (by omega)
    have := cBad_no (h n (by omega))
    simp only [slN]; omega
theorem slN_mono {c : Ll} {n : Nat} (h : CGood c n) : ∀ {k : Nat}, k ≤ n → slN c k + (n - k : Nat) ≤ slN c n := by
  intro k hk
  induction n with
  | zero => obtain rfl : k = 0 := by omega
            simp
  | succ n ih =>
    by_cases e : k = n + 1
    · subst e; simp
    · have := ih (fun j hj => h j (by omega)) (by omega)
      have := cBad_no (h n (by omega))
      simp only [slN]
      have : ((n + 1 - k : Nat) : Int) = ((n - k : Nat) : Int) + 1 := by omega
      omega
theorem slN_succ {c : Ll} {i : Int} (h : 0 ≤ i) : slN c (i + 1).toNat = slN c i.toNat + Ll.get c i 1 := by
  rw [show (i + 1).toNat = i.toNat + 1 by omega]
  show slN c i.toNat + Ll.get c (i.toNat : Int) 1 = _
  rw [Int.toNat_of_nonneg h]
/-- A valid column. -/
structure ColOK (h c : Ll) : Prop where
  hole : HoleOK h
  len : 1 ≤ c.length ∧ c.length ≤ 24
  good : CGood c c.length
  sum : slN c c.length = volN h h.length
theorem col_of {h c : Ll} (e : colE h c = 0) : ColOK h c := by
  unfold colE at e
  split at e
  · rename_i h1; exact absurd e h1
  · rename_i h1
    split at e
    · omega
    · split at e
      · omega
      · split at e
        · omega
        · split at e
          · omega
          · split at e
            · omega
            · exact ⟨hole_of (Classical.not_not.1 h1), by omega, cgood_of (by have := (cI_spec c).2.1; omega), by omega⟩
theorem col_zero {h c : Ll} (e : ColOK h c) : colE h c = 0 := by
  have hl := e.len
  have hs := e.sum
  have hc : ¬ cI c < c.length := fun hc => by
    obtain ⟨j, j0, j1, j2⟩ := (leastN_lt _ _).1 hc
    have := e.good j.toNat (by omega)
    rw [Int.toNat_of_nonneg j0, j2] at this
    cases this
  unfold colE
  rw [if_neg (fun h => h (hole_zero e.hole)), if_neg (by omega), if_neg (by omega), if_neg hc, if_neg (by omega), if_neg (by omega)]
theorem ColOK.at {h c : Ll} (e : ColOK h c) {i : Int} (h0 : 0 ≤ i) (h1 : i < c.length) : 0 ≤ Ll.get c i 0 ∧ Ll.get c i 0 ≤ 40000 ∧ 1 ≤ Ll.get c i 1 := by
  have := cBad_no (e.good i.toNat (by omega))
  rw [Int.toNat_of_nonneg h0] at this
  exact this
/-! ### Pressures -/
def tLo (w a b : Int) : Int := if w < 0 then w * b else w * a
def tHi (w a b : Int) : Int := if w < 0 then w * a else w * b
def hLo (h : Ll) (x : Int) : Int := valLo (hgtP h h.length) x
def hHi (h : Ll) (x : Int) : Int := valHi (hgtP h h.length) x
def pLo (h c : Ll) (top : Int) : Nat → Int
  | 0 => top + tLo (Ll.get c (c.length - 1) 0) (hLo h (volN h h.length)) (hHi h (volN h h.length))
  | k + 1 => pLo h c top k + tLo (Ll.get c (c.length - 1 - k - 1) 0 - Ll.get c (c.length - 1 - k) 0) (hLo h (slN c (c.length - 1 - k))) (hHi h (slN c (c.length - 1 - k)))
def pHi (h c : Ll) (top : Int) : Nat → Int
  | 0 => top + tHi (Ll.get c (c.length - 1) 0) (hLo h (volN h h.length)) (hHi h (volN h h.length))
  | k + 1 => pHi h c top k + tHi (Ll.get c (c.length - 1 - k - 1) 0 - Ll.get c (c.length - 1 - k) 0) (hLo h (slN c (c.length - 1 - k))) (hHi h (slN c (c.length - 1 - k)))
def pLoI (h c : Ll) (top i : Int) : Int := pLo h c top (c.length - 1 - i).toNat
def pHiI (h c : Ll) (top i : Int) : Int := pHi h c top (c.length - 1 - i).toNat
theorem pI_step {h c : Ll} {top i : Int} (h0 : 0 < i) (h1 : i < c.length) :
    pLoI h c top (i - 1) = pLoI h c top i + tLo (Ll.get c (i - 1) 0 - Ll.get c i 0) (hLo h (slN c i.toNat)) (hHi h (slN c i.toNat)) ∧
    pHiI h c top (i - 1) = pHiI h c top i + tHi (Ll.get c (i - 1) 0 - Ll.get c i 0) (hLo h (slN c i.toNat)) (hHi h (slN c i.toNat)) := by
  unfold pLoI pHiI
  obtain ⟨k, hk⟩ : ∃ k : Nat, ((c.length : Int) - 1 - i).toNat = k := ⟨_, rfl⟩
  have e1 : ((c.length : Int) - 1 - (i - 1)).toNat = k + 1 := by omega
  have e2 : (c.length : Int) - 1 - k = i := by omega
  have e3 : c.length - 1 - k = i.toNat := by omega
  rw [e1, hk, pLo, pHi, e2, e3]
  exact ⟨rfl, rfl⟩
/-- Heights lie in their range, in order. -/
theorem h_b {h : Ll} (p0 : HoleOK h) (x : Int) : 0 ≤ hLo h x ∧ hLo h x ≤ hHi h x ∧ hHi h x ≤ 1048576 := by
  have hR := right_of (hgt_right p0)
  have hm := hgt_mono p0
  have hl := hgtP_len h h.length
  have g : ∀ j : Int, 0 ≤ j → j < (hgtP h h.length).length → 0 ≤ Ll.get (hgtP h h.length) j 1 ∧ Ll.get (hgtP h h.length) j 1 ≤ 1048576 := fun j j0 j1 => by
    rw [(hgt_get (l := h) (n := h.length) j0 (by omega)).2]
    have := p0.b (n := j.toNat) (by omega)
    omega
  unfold hLo hHi
  rcases val_in hR hm x with ⟨a, b, c⟩ | ⟨a, b, c⟩ | ⟨a0, a1, a2, a3, a4, _⟩
  · rw [b, c]; have := g 0 (by omega) (by omega); omega
  · rw [b, c]; have := g ((hgtP h h.length).length - 1) (by omega) (by omega); omega
  · have := g (kAt (hgtP h h.length) x - 1) (by omega) (by omega)
    have := g (kAt (hgtP h h.length) x) (by omega) (by omega)
    omega
theorem h_mono {h : Ll} (p0 : HoleOK h) {x y : Int} (e : x ≤ y) : hLo h x ≤ hLo h y ∧ hHi h x ≤ hHi h y := val_mono (right_of (hgt_right p0)) (hgt_mono p0) e
theorem t_b {w a b : Int} (w0 : -40000 ≤ w) (w1 : w ≤ 40000) (a0 : 0 ≤ a) (ab : a ≤ b) (b1 : b ≤ 1048576) :
    -41943040000 ≤ tLo w a b ∧ tLo w a b ≤ tHi w a b ∧ tHi w a b ≤ 41943040000 ∧ (-41943040000 ≤ w * a ∧ w * a ≤ 41943040000) ∧ (-41943040000 ≤ w * b ∧ w * b ≤ 41943040000) := by
  have key : ∀ z : Int, 0 ≤ z → z ≤ 1048576 → -41943040000 ≤ w * z ∧ w * z ≤ 41943040000 := fun z z0 z1 => by
    have h1 := Int.mul_le_mul_of_nonneg_right w1 z0
    have h2 := Int.mul_le_mul_of_nonneg_right w0 z0
    omega
  have ka := key a a0 (by omega)
  have kb := key b (by omega) b1
  unfold tLo tHi
  by_cases hw : w < 0
  · rw [if_pos hw, if_pos hw]
    have := Int.mul_le_mul_of_nonneg_left ab (show 0 ≤ -w by omega)
    rw [Int.neg_mul, Int.neg_mul] at this
    omega
  · rw [if_neg hw, if_neg hw]
    have := Int.mul_le_mul_of_nonneg_left ab (show 0 ≤ w by omega)
    omega
theorem p_b {h c : Ll} (e : ColOK h c) {top : Int} : ∀ k : Nat, k + 1 ≤ c.length → top - 41943040000 * (k + 1) ≤ pLo h c top k ∧ pLo h c top k ≤ pHi h c top k ∧ pHi h c top k ≤ top + 41943040000 * (k + 1)
  | 0, hk => by
    have ha := e.at (i := c.length - 1) (by omega) (by omega)
    have hb := h_b e.hole (volN h h.length)
    obtain ⟨t1, t2, t3, _⟩ := t_b (w := Ll.get c (c.length - 1) 0) (by omega) (by omega) hb.1 hb.2.1 hb.2.2
    simp only [pLo, pHi]
    omega
  | k + 1, hk => by
    obtain ⟨i1, i2, i3⟩ := p_b e (top := top) k (by omega)
    have ha := e.at (i := c.length - 1 - k) (by omega) (by omega)
    have ha2 := e.at (i := c.length - 1 - k - 1) (by omega) (by omega)
    have hb := h_b e.hole (slN c (c.length - 1 - k))
    obtain ⟨t1, t2, t3, _⟩ := t_b (w := Ll.get c (c.length - 1 - k - 1) 0 - Ll.get c (c.length - 1 - k) 0) (by omega) (by omega) hb.1 hb.2.1 hb.2.2
    simp only [pLo, pHi]
    have e9 : ((k + 1 : Nat) : Int) = (k : Int) + 1 := by omega
    rw [e9]
    refine ⟨?_, ?_, ?_⟩
    · omega
    · omega
    · omega
theorem pI_b {h c : Ll} (e : ColOK h c) {top i : Int} (h0 : 0 ≤ i) (h1 : i < c.length) : top - 1006632960000 ≤ pLoI h c top i ∧ pLoI h c top i ≤ pHiI h c top i ∧ pHiI h c top i ≤ top + 1006632960000 := by
  have := p_b e (top := top) (c.length - 1 - i).toNat (by omega)
  have := e.len
  unfold pLoI pHiI
  omega
/-- The slug in which a place lies. -/
def kN (c : Ll) (u : Int) : Int := leastN (fun j => decide (u < slN c (j.toNat + 1))) c.length 0
def kU (c : Ll) (u : Int) : Int := if kN c u < c.length then kN c u else c.length - 1
theorem kU_spec {h c : Ll} (e : ColOK h c) {u : Int} (hu : 0 ≤ u) : 0 ≤ kU c u ∧ kU c u < c.length ∧ slN c (kU c u).toNat ≤ u ∧ (∀ i : Int, 0 < i → i < c.length → (slN c i.toNat ≤ u ↔ i ≤ kU c u)) := by
  obtain ⟨a, b, d, f⟩ := leastN_spec (fun j => decide (u < slN c (j.toNat + 1))) c.length 0
  have hl := e.len
  have k0 : 0 ≤ kU c u ∧ kU c u < c.length ∧ kU c u ≤ kN c u := by
    unfold kU kN
    split <;> omega
  have low : ∀ i : Int, 0 < i → i ≤ kN c u → slN c i.toNat ≤ u := fun i i0 i1 => by
    have := d (i - 1) (by omega) (by unfold kN at i1; omega)
    simp only [decide_eq_false_iff_not] at this
    rw [show (i - 1).toNat + 1 = i.toNat by omega] at this
    omega
  refine ⟨k0.1, k0.2.1, ?_, fun i i0 i1 => ⟨fun hi => ?_, fun hi => low i i0 (by omega)⟩⟩
  · by_cases hz : kU c u = 0
    · rw [hz]; exact hu
    · exact low _ (by omega) k0.2.2
  · refine Int.not_lt.1 fun hlt => ?_
    have hk : kU c u = kN c u := by
      unfold kU
      split
      · rfl
      · rename_i h1
        unfold kU at hlt; rw [if_neg h1] at hlt; omega
    rcases f with f | f
    · unfold kN at hk; omega
    · have f : decide (u < slN c ((kN c u).toNat + 1)) = true := f
      have f := of_decide_eq_true f
      have := slN_mono (c := c) (n := i.toNat) (fun j hj => e.good j (by omega)) (k := (kN c u).toNat + 1) (by omega)
      omega
def eU (c : Ll) (u : Int) : Int := if kU c u = 0 then slN c 1 else slN c (kU c u).toNat
def prE (h c : Ll) (top u : Int) : Int := if ¬ colE h c = 0 then colE h c else if top < 0 ∨ 68719476736 < top ∨ u < 0 ∨ volN h h.length < u then 2 else 0
def prLo (h c : Ll) (top u : Int) : Int := if prE h c top u = 0 then pLoI h c top (kU c u) + tLo (-(Ll.get c (kU c u) 0)) (hLo h u) (hHi h u) else 0
def prHi (h c : Ll) (top u : Int) : Int := if prE h c top u = 0 then pHiI h c top (kU c u) + tHi (-(Ll.get c (kU c u) 0)) (hLo h u) (hHi h u) else 0
theorem kU_same {h c : Ll} (e : ColOK h c) {u v : Int} (h0 : slN c (kU c u).toNat ≤ v) (h1 : v ≤ u) (hv : 0 ≤ v) : kU c v = kU c u := by
  obtain ⟨a0, a1, a2, a3⟩ := kU_spec e (u := u) (by omega)
  obtain ⟨b0, b1, b2, b3⟩ := kU_spec e hv
  have l1 : kU c v ≤ kU c u := by
    by_cases hz : kU c v = 0
    · omega
    · exact (a3 (kU c v) (by omega) b1).1 (by omega)
  have l2 : kU c u ≤ kU c v := by
    by_cases hz : kU c u = 0
    · omega
    · exact (b3 (kU c u) (by omega) a1).1 h0
  omega
theorem p_more (h c : Ll) (top more : Int) : ∀ k : Nat, pLo h c (top + more) k = pLo h c top k + more ∧ pHi h c (top + more) k = pHi h c top k + more
  | 0 => by simp only [pLo, pHi]; omega
  | k + 1 => by
    obtain ⟨a, b⟩ := p_more h c top more k
    simp only [pLo, pHi]; omega
theorem pI_more (h c : Ll) (top more i : Int) : pLoI h c (top + more) i = pLoI h c top i + more ∧ pHiI h c (top + more) i = pHiI h c top i + more := p_more h c top more _
/-- With a weight that is not above 0, higher values make less. -/
theorem t_anti {w a b a' b' : Int} (w0 : w ≤ 0) (ha : a ≤ a') (hb : b ≤ b') : tLo w a' b' ≤ tLo w a b ∧ tHi w a' b' ≤ tHi w a b := by
  have k : ∀ x y : Int, x ≤ y → w * y ≤ w * x := fun x y e => by
    have := Int.mul_le_mul_of_nonneg_left e (show 0 ≤ -w by omega)
    rw [Int.neg_mul, Int.neg_mul] at this
    omega
  have := k a a' ha
  have := k b b' hb
  unfold tLo tHi
  split <;> omega
end Go.Rx
