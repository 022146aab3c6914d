/-
  What a flow loses above a place. No program.
-/
import Derived.Test.YtfjilbjofaommaaGr
import Derived.Test.YtfjilbjofaommaaBn
set_option linter.unusedSimpArgs false
set_option linter.unusedVariables false
namespace Go.Rx
open Go
/-- What the program gives for the gradient in a segment. -/
def gO (l : Ll) (y v q i : Int) : Int := gradO (Ll.get l i 0) (Ll.get l i 1) (Ll.get l i 2) (Ll.get l i 3) y v q
def gK (l : Ll) (y v q i : Int) : Bool := gradK (Ll.get l i 0) (Ll.get l i 1) (Ll.get l i 2) (Ll.get l i 3) y v q
/-- The first segment without a gradient. -/
def gI (l : Ll) (y v q : Int) : Int := leastN (fun i => !gK l y v q i) l.length 0
/-- How much of a segment lies above a place. -/
def abv (l : Ll) (u : Int) (i : Nat) : Int := if u < volN l (i + 1) then volN l (i + 1) - maxL u (volN l i) else 0
def lsA (l : Ll) (y v q u : Int) : Nat → Int | 0 => 0 | n + 1 => lsA l y v q u n + gO l y v q n * (abv l u n / Ll.get l n 2)
def lsB (l : Ll) (y v q u : Int) : Nat → Int | 0 => 0 | n + 1 => lsB l y v q u n + gO l y v q n * cdiv (abv l u n) (Ll.get l n 2)
def lossK (l : Ll) (y v q u : Int) : Bool := decide (holeE l = 0 ∧ 0 ≤ u ∧ u ≤ volN l l.length ∧ ¬ gI l y v q < l.length)
def lossA (l : Ll) (y v q u : Int) : Int := if lossK l y v q u = true then lsA l y v q u l.length else 0
def lossB (l : Ll) (y v q u : Int) : Int := if lossK l y v q u = true then lsB l y v q u l.length else 0
theorem gI_spec (l : Ll) (y v q : Int) : 0 ≤ gI l y v q ∧ gI l y v q ≤ l.length := by
  obtain ⟨a, b, c, d⟩ := leastN_spec (fun i => !gK l y v q i) l.length 0
  exact ⟨a, by unfold gI; omega⟩
theorem vol_mono {l : Ll} (p : HoleOK l) {i j : Nat} (h : i ≤ j) (hj : j ≤ l.length) : volN l i ≤ volN l j := (sumN_mono (l := l) (n := j) (fun k hk => p.good k (by omega)) h).2
theorem abv_b {l : Ll} (p : HoleOK l) {u : Int} {i : Nat} (hi : i < l.length) : 0 ≤ abv l u i ∧ abv l u i ≤ Ll.get l i 0 * Ll.get l i 2 := by
  have h := p.at (i := i) (by omega) (by omega)
  have m := Int.mul_nonneg (show 0 ≤ Ll.get l i 0 by omega) (show 0 ≤ Ll.get l i 2 by omega)
  have e : volN l (i + 1) = volN l i + Ll.get l i 0 * Ll.get l i 2 := rfl
  unfold abv
  rw [maxL_eq]
  repeat' split
  all_goals omega
theorem abv_anti {l : Ll} (p : HoleOK l) {u w : Int} (h : u ≤ w) {i : Nat} (hi : i < l.length) : abv l w i ≤ abv l u i := by
  have := (abv_b p (u := u) hi).1
  unfold abv at *
  rw [maxL_eq] at this
  rw [maxL_eq, maxL_eq]
  repeat' split
  all_goals (repeat' split at this)
  all_goals omega
theorem abv_top {l : Ll} (p : HoleOK l) {u : Int} (h : volN l l.length ≤ u) {i : Nat} (hi : i < l.length) : abv l u i = 0 := by
  have := vol_mono p (show i + 1 ≤ l.length by omega) (Nat.le_refl _)
  unfold abv
  rw [if_neg (by omega)]
/-- How the program reckons it. -/
theorem abv_is {l : Ll} (p : HoleOK l) {u : Int} (h0 : 0 ≤ u) (h1 : u ≤ volN l l.length) {i : Nat} (hi : i < l.length) :
    ((i : Int) < whI l u → abv l u i = 0) ∧ (¬ (i : Int) < whI l u → volN l (i + 1) - maxL u (volN l i) = abv l u i) := by
  obtain ⟨w0, w1⟩ := whN_spec l u
  have hv := vol_mono p (show i + 1 ≤ l.length by omega) (Nat.le_refl _)
  have hs := vol_mono p (show i ≤ i + 1 by omega) (show i + 1 ≤ l.length by omega)
  have f1 : i + 1 < l.length → (volN l (i + 1) ≤ u ↔ ((i + 1 : Nat) : Int) ≤ whN l u) := fun h => from_le p h0 h
  have f0 := from_le p h0 hi
  have ew : whI l u = if whN l u < l.length then whN l u else l.length - 1 := rfl
  constructor
  · intro h
    rw [ew] at h
    have : volN l (i + 1) ≤ u := by
      by_cases hl : i + 1 < l.length
      · exact (f1 hl).2 (by split at h <;> omega)
      · exfalso; split at h <;> omega
    unfold abv
    rw [if_neg (by omega)]
  · intro h
    unfold abv
    by_cases hu : u < volN l (i + 1)
    · rw [if_pos hu]
    · rw [if_neg hu, maxL_eq]
      have hl : ¬ i + 1 < l.length := fun hl => by
        have := (f1 hl).1 (by omega)
        rw [ew] at h
        split at h <;> omega
      have e : i + 1 = l.length := by omega
      rw [← e] at h1
      split <;> omega
theorem part_b {a b g x s : Int} (g0 : 0 ≤ g) (g1 : g ≤ 20000) (x0 : 0 ≤ x) (hb : 1 ≤ b) (hx : x ≤ a * b) : 0 ≤ g * (x / b) ∧ g * (x / b) ≤ g * cdiv x b ∧ g * cdiv x b ≤ 20000 * a ∧ 0 ≤ x / b ∧ x / b ≤ cdiv x b ∧ cdiv x b ≤ a := by
  have h0 : 0 ≤ x / b := Int.ediv_nonneg x0 (by omega)
  have h2 : cdiv x b ≤ a := by
    unfold cdiv
    have : -a ≤ (-x) / b := Int.le_ediv_of_mul_le (by omega) (by rw [Int.neg_mul]; omega)
    omega
  have h1 : x / b ≤ cdiv x b := by
    unfold cdiv
    have e1 := Int.mul_ediv_add_emod x b
    have e2 := Int.mul_ediv_add_emod (-x) b
    have r1 := Int.emod_nonneg x (show b ≠ 0 by omega)
    have r2 := Int.emod_nonneg (-x) (show b ≠ 0 by omega)
    by_cases hc : x / b + (-x) / b ≤ 0
    · omega
    · exfalso
      have : b * (x / b) + b * ((-x) / b) = b * (x / b + (-x) / b) := (Int.mul_add ..).symm
      have h4 : b * 1 ≤ b * (x / b + (-x) / b) := Int.mul_le_mul_of_nonneg_left (by omega) (by omega)
      omega
  refine ⟨Int.mul_nonneg g0 h0, Int.mul_le_mul_of_nonneg_left h1 g0, ?_, h0, h1, h2⟩
  have := Int.mul_le_mul g1 h2 (by omega) (by omega)
  omega
theorem ls_b {l : Ll} (p : HoleOK l) (y v q u : Int) : ∀ n : Nat, n ≤ l.length → 0 ≤ lsA l y v q u n ∧ lsA l y v q u n ≤ lsB l y v q u n ∧ lsB l y v q u n ≤ 20000 * sumN l n
  | 0, _ => by simp [lsA, lsB, sumN]
  | n + 1, h => by
    obtain ⟨a1, a2, a3⟩ := ls_b p y v q u n (by omega)
    have hs := p.at (i := n) (by omega) (by omega)
    have hv := abv_b p (u := u) (i := n) (by omega)
    have g := gradO_b (Ll.get l n 0) (Ll.get l n 1) (Ll.get l n 2) (Ll.get l n 3) y v q
    have hp := part_b (s := 0) g.1 g.2 hv.1 hs.2.2.2.1 hv.2
    simp only [lsA, lsB, sumN, gO]
    omega
theorem ls_anti {l : Ll} (p : HoleOK l) (y v q : Int) {u w : Int} (huw : u ≤ w) : ∀ n : Nat, n ≤ l.length → lsA l y v q w n ≤ lsA l y v q u n ∧ lsB l y v q w n ≤ lsB l y v q u n
  | 0, _ => by simp [lsA, lsB]
  | n + 1, h => by
    obtain ⟨a1, a2⟩ := ls_anti p y v q huw n (by omega)
    have hs := p.at (i := n) (by omega) (by omega)
    have hv := abv_b p (u := w) (i := n) (by omega)
    have ha := abv_anti p huw (i := n) (by omega)
    have g := gradO_b (Ll.get l n 0) (Ll.get l n 1) (Ll.get l n 2) (Ll.get l n 3) y v q
    have e1 := Int.mul_le_mul_of_nonneg_left (Int.ediv_le_ediv (show 0 < Ll.get l n 2 by omega) ha) g.1
    have e2 := Int.mul_le_mul_of_nonneg_left (cdiv_mono hv.1 ha hs.2.2.2.1) g.1
    simp only [lsA, lsB, gO]
    omega
theorem ls_top {l : Ll} (p : HoleOK l) (y v q : Int) {u : Int} (h : volN l l.length ≤ u) : ∀ n : Nat, n ≤ l.length → lsA l y v q u n = 0 ∧ lsB l y v q u n = 0
  | 0, _ => by simp [lsA, lsB]
  | n + 1, hn => by
    obtain ⟨a1, a2⟩ := ls_top p y v q h n (by omega)
    have hv := abv_top p h (i := n) (by omega)
    simp only [lsA, lsB, hv, a1, a2]
    simp [cdiv]
theorem lsA_succ {l : Ll} {y v q u i : Int} (h : 0 ≤ i) : lsA l y v q u (i.toNat + 1) = lsA l y v q u i.toNat + gO l y v q i * (abv l u i.toNat / Ll.get l i 2) := by
  show lsA l y v q u i.toNat + gO l y v q (i.toNat : Int) * (abv l u i.toNat / Ll.get l (i.toNat : Int) 2) = _
  rw [Int.toNat_of_nonneg h]
theorem lsB_succ {l : Ll} {y v q u i : Int} (h : 0 ≤ i) : lsB l y v q u (i.toNat + 1) = lsB l y v q u i.toNat + gO l y v q i * cdiv (abv l u i.toNat) (Ll.get l i 2) := by
  show lsB l y v q u i.toNat + gO l y v q (i.toNat : Int) * cdiv (abv l u i.toNat) (Ll.get l (i.toNat : Int) 2) = _
  rw [Int.toNat_of_nonneg h]
/-- Holes with more room. -/
def wideR (r : List Int) : List Int := [r.getD 0 0, r.getD 1 0, 100 + r.getD 2 0, 20 + r.getD 3 0 % 100]
def wideP (l : Ll) (k : Nat) : Ll := (l.take k).map wideR ++ l.drop k
theorem wideP_len (l : Ll) {k : Nat} (h : k ≤ l.length) : (wideP l k).length = l.length := by simp [wideP]; omega
theorem wideP_get (l : Ll) {k : Nat} (h : k ≤ l.length) (i : Nat) : (wideP l k).getD i [] = if i < k then wideR (l.getD i []) else l.getD i [] := by
  unfold wideP
  rw [List.getD_eq_getElem?_getD, List.getElem?_append]
  simp only [List.length_map, List.length_take, Nat.min_eq_left h, List.getElem?_map, List.getElem?_drop]
  by_cases hi : i < k
  · rw [if_pos hi, if_pos hi, List.getElem?_take, if_pos hi, List.getElem?_eq_getElem (by omega), List.getD_eq_getElem?_getD, List.getElem?_eq_getElem (by omega)]
    rfl
  · rw [if_neg hi, if_neg hi, show k + (i - k) = i by omega, ← List.getD_eq_getElem?_getD]
theorem wideP_rows {l : Ll} (hr : ∀ x ∈ l, x.length = 4) (k : Nat) : ∀ x ∈ wideP l k, x.length = 4 := by
  intro x hx
  unfold wideP at hx
  rcases List.mem_append.1 hx with h | h
  · obtain ⟨y, _, rfl⟩ := List.mem_map.1 h; rfl
  · exact hr x (List.mem_of_mem_drop h)
theorem wideP_succ {l : Ll} (hr : ∀ x ∈ l, x.length = 4) {i : Int} (h0 : 0 ≤ i) (h1 : i < l.length) :
    Ll.set (Ll.set (wideP l i.toNat) i 3 (20 + Ll.get (wideP l i.toNat) i 3 % 100)) i 2 (100 + Ll.get (Ll.set (wideP l i.toNat) i 3 (20 + Ll.get (wideP l i.toNat) i 3 % 100)) i 2) = wideP l (i.toNat + 1) := by
  have hk : i.toNat < l.length := by omega
  have hg := wideP_get l (Nat.le_of_lt hk) i.toNat
  rw [if_neg (by omega)] at hg
  obtain ⟨r, hr1⟩ : ∃ r, l.getD i.toNat [] = r := ⟨_, rfl⟩
  have hr2 : r.length = 4 := by
    rw [← hr1, List.getD_eq_getElem?_getD, List.getElem?_eq_getElem hk]
    exact hr _ (List.getElem_mem hk)
  obtain ⟨a, b, c, d, rfl⟩ : ∃ a b c d, r = [a, b, c, d] := by
    match r, hr2 with
    | [a, b, c, d], _ => exact ⟨a, b, c, d, rfl⟩
  rw [hr1] at hg
  have hlen := wideP_len l (Nat.le_of_lt hk)
  have e1 : Ll.get (wideP l i.toNat) i 3 = d := by unfold Ll.get; rw [hg]; rfl
  have e2 : Ll.set (wideP l i.toNat) i 3 (20 + d % 100) = List.set (wideP l i.toNat) i.toNat [a, b, c, 20 + d % 100] := by unfold Ll.set; rw [hg]; rfl
  have e3 : (List.set (wideP l i.toNat) i.toNat [a, b, c, 20 + d % 100]).getD i.toNat [] = [a, b, c, 20 + d % 100] := by
    rw [List.getD_eq_getElem?_getD, List.getElem?_set, if_pos rfl, if_pos (by omega)]; rfl
  rw [e1, e2]
  have e4 : Ll.get (List.set (wideP l i.toNat) i.toNat [a, b, c, 20 + d % 100]) i 2 = c := by unfold Ll.get; rw [e3]; rfl
  rw [e4]
  unfold Ll.set
  rw [e3, List.set_set]
  refine List.ext_getElem? fun m => ?_
  have hm := wideP_get l (show i.toNat + 1 ≤ l.length by omega) m
  have hm0 := wideP_get l (Nat.le_of_lt hk) m
  have hlen2 := wideP_len l (show i.toNat + 1 ≤ l.length by omega)
  by_cases hlt : m < l.length
  · have g1 : (wideP l (i.toNat + 1))[m]? = some ((wideP l (i.toNat + 1)).getD m []) := by
      rw [List.getD_eq_getElem?_getD, List.getElem?_eq_getElem (by omega)]; rfl
    have g2 : (wideP l i.toNat)[m]? = some ((wideP l i.toNat).getD m []) := by
      rw [List.getD_eq_getElem?_getD, List.getElem?_eq_getElem (by omega)]; rfl
    rw [g1, hm, List.getElem?_set]
    by_cases e : i.toNat = m
    · subst e
      rw [if_pos rfl, if_pos (by omega), if_pos (by omega), hr1]; rfl
    · rw [if_neg e, g2, hm0]
      by_cases e5 : m < i.toNat
      · rw [if_pos e5, if_pos (by omega)]
      · rw [if_neg e5, if_neg (by omega)]
  · rw [List.getElem?_eq_none (by simp; omega), List.getElem?_eq_none (by omega)]
theorem wideP_zero (l : Ll) : wideP l 0 = l := by simp [wideP]
def wideL (x : Ll) : Ll := wideP (annL x) (annL x).length
theorem annL_rows (x : Ll) : ∀ r ∈ annL x, r.length = 4 := annP_rows x _
theorem wide_at (x : Ll) {i : Int} (h0 : 0 ≤ i) (h1 : i < (annL x).length) : Ll.get (wideL x) i 0 = Ll.get (annL x) i 0 ∧ Ll.get (wideL x) i 1 = Ll.get (annL x) i 1 ∧ Ll.get (wideL x) i 2 = 100 + Ll.get (annL x) i 2 ∧ Ll.get (wideL x) i 3 = 20 + Ll.get (annL x) i 3 % 100 := by
  have := wideP_get (annL x) (Nat.le_refl _) i.toNat
  rw [if_pos (by omega)] at this
  unfold wideL Ll.get
  rw [this]
  exact ⟨rfl, rfl, rfl, rfl⟩
theorem wide_len (x : Ll) : (wideL x).length = (annL x).length := wideP_len _ (Nat.le_refl _)
theorem wide_sum (x : Ll) : ∀ n : Nat, n ≤ (annL x).length → sumN (wideL x) n = sumN (annL x) n
  | 0, _ => rfl
  | n + 1, h => by
    show sumN (wideL x) n + Ll.get (wideL x) n 0 = sumN (annL x) n + Ll.get (annL x) n 0
    rw [wide_sum x n (by omega), (wide_at x (i := n) (by omega) (by omega)).1]
theorem wide_ok (x : Ll) : HoleOK (wideL x) := by
  have p := ann_ok x
  have hk := annK_b x
  have hl : (annL x).length = annK x := annP_len x _
  refine ⟨by rw [wide_len]; exact p.len, ?_, by rw [wide_len, wide_sum x _ (Nat.le_refl _)]; exact p.sum⟩
  intro hb
  obtain ⟨j, h1, h2, h3⟩ := (leastN_lt (sBad (wideL x)) (wideL x).length).1 hb
  rw [wide_len] at h2
  have o := annP_ok x (annK x) j h1 (by omega)
  obtain ⟨o1, o2, o3, o4, o5, o6, o7, o8⟩ := o
  obtain ⟨w1, w2, w3, w4⟩ := wide_at x h1 h2
  change 1 ≤ Ll.get (annL x) j 0 at o1
  change Ll.get (annL x) j 0 ≤ 100000 at o2
  change 0 ≤ Ll.get (annL x) j 1 at o3
  change Ll.get (annL x) j 1 ≤ Ll.get (annL x) j 0 at o4
  change 1 ≤ Ll.get (annL x) j 2 at o5
  change Ll.get (annL x) j 2 ≤ 1500 at o6
  change 1 ≤ Ll.get (annL x) j 3 at o7
  change Ll.get (annL x) j 3 ≤ 200 at o8
  unfold sBad at h3
  simp only [decide_eq_true_eq, w1, w2, w3, w4] at h3
  omega
theorem wide_big (x : Ll) : 100 ≤ volN (wideL x) (wideL x).length := by
  have p := wide_ok x
  have h := vol_mono p (i := 1) p.len.1 (Nat.le_refl _)
  have e : volN (wideL x) 1 = 0 + Ll.get (wideL x) (0 : Nat) 0 * Ll.get (wideL x) (0 : Nat) 2 := rfl
  have w := wide_at x (i := 0) (by omega) (by have := p.len; rw [wide_len] at this; omega)
  have a := p.at (i := 0) (by omega) (by have := p.len; omega)
  have o := (ann_ok x).at (i := 0) (by omega) (by have := (ann_ok x).len; omega)
  simp only [Int.ofNat_zero, Int.natCast_zero] at e
  have m := Int.mul_le_mul (show 1 ≤ Ll.get (wideL x) 0 0 by omega) (show 101 ≤ Ll.get (wideL x) 0 2 by omega) (by omega) (by omega)
  have e' : volN (wideL x) 1 = 0 + Ll.get (wideL x) 0 0 * Ll.get (wideL x) 0 2 := e
  omega
end Go.Rx
