/-
  Layer 2: lines and their values. No program.
-/
import Derived.Test.YtfjilbjofaommaaLe
import Derived.Test.YtfjilbjofaommaaFm
set_option linter.unusedSimpArgs false
set_option linter.unusedVariables false
namespace Go.Rx
open Go
/-- A knot that a line may not have: 2 out of range, 9 out of order. -/
def kBad (l : Ll) (a v j : Int) : Bool := decide (¬ (0 ≤ Ll.get l j 0 ∧ Ll.get l j 0 ≤ a ∧ 0 ≤ Ll.get l j 1 ∧ Ll.get l j 1 ≤ v))
def kOrd (l : Ll) (j : Int) : Bool := decide (0 < j ∧ Ll.get l j 0 ≤ Ll.get l (j - 1) 0)
def kErr (l : Ll) (a v j : Int) : Bool := kBad l a v j || kOrd l j
def kI (l : Ll) (a v : Int) : Int := leastN (kErr l a v) l.length 0
def lchk (l : Ll) (a v : Int) : Int := if ¬ (0 ≤ a ∧ a ≤ 1099511627776 ∧ 0 ≤ v ∧ v ≤ 68719476736) then 2 else if l.length = 0 then 6 else if 24 < l.length then 8 else if kI l a v < l.length then (if kBad l a v (kI l a v) then 2 else 11) else 0
def rightB (l : Ll) : Bool := decide (lchk l 1048576 68719476736 = 0) || decide (lchk l 1099511627776 1048576 = 0)
/-- A right line. -/
structure RightL (l : Ll) : Prop where
  len : 1 ≤ l.length ∧ l.length ≤ 24
  big : (∀ j : Int, 0 ≤ j → j < l.length → 0 ≤ Ll.get l j 0 ∧ Ll.get l j 0 ≤ 1048576 ∧ 0 ≤ Ll.get l j 1 ∧ Ll.get l j 1 ≤ 68719476736) ∨ (∀ j : Int, 0 ≤ j → j < l.length → 0 ≤ Ll.get l j 0 ∧ Ll.get l j 0 ≤ 1099511627776 ∧ 0 ≤ Ll.get l j 1 ∧ Ll.get l j 1 ≤ 1048576)
  ord : ∀ j : Int, 0 < j → j < l.length → Ll.get l (j - 1) 0 < Ll.get l j 0
theorem chk_zero {l : Ll} {a v : Int} (h : lchk l a v = 0) : (1 ≤ l.length ∧ l.length ≤ 24) ∧ ∀ j : Int, 0 ≤ j → j < l.length → (0 ≤ Ll.get l j 0 ∧ Ll.get l j 0 ≤ a ∧ 0 ≤ Ll.get l j 1 ∧ Ll.get l j 1 ≤ v) ∧ (0 < j → Ll.get l (j - 1) 0 < Ll.get l j 0) := by
  unfold lchk at h
  split at h
  · omega
  · split at h
    · omega
    · split at h
      · omega
      · split at h
        · split at h <;> omega
        · rename_i h1 h2 h3 h4
          refine ⟨by omega, fun j a1 a2 => ?_⟩
          obtain ⟨b1, b2, b3, _⟩ := leastN_spec (kErr l a v) l.length 0
          have := b3 j a1 (by unfold kI at h4; omega)
          unfold kErr kBad kOrd at this
          simp only [Bool.or_eq_false_iff, decide_eq_false_iff_not] at this
          exact ⟨by omega, fun h => by omega⟩
theorem right_of {l : Ll} (h : rightB l = true) : RightL l := by
  unfold rightB at h
  simp only [Bool.or_eq_true, decide_eq_true_iff] at h
  rcases h with h | h
  · obtain ⟨a, b⟩ := chk_zero h
    exact ⟨a, .inl fun j h0 h1 => (b j h0 h1).1, fun j h0 h1 => (b j (by omega) h1).2 h0⟩
  · obtain ⟨a, b⟩ := chk_zero h
    exact ⟨a, .inr fun j h0 h1 => (b j h0 h1).1, fun j h0 h1 => (b j (by omega) h1).2 h0⟩
/-- The first knot that is not before a place. -/
def kAt (l : Ll) (x : Int) : Int := leastN (fun j => decide (x ≤ Ll.get l j 0)) l.length 0
theorem kAt_spec (l : Ll) (x : Int) : 0 ≤ kAt l x ∧ kAt l x ≤ l.length ∧ (∀ j : Int, 0 ≤ j → j < kAt l x → Ll.get l j 0 < x) ∧ (kAt l x = l.length ∨ x ≤ Ll.get l (kAt l x) 0) := by
  obtain ⟨a, b, c, d⟩ := leastN_spec (fun j => decide (x ≤ Ll.get l j 0)) l.length 0
  refine ⟨a, by unfold kAt; omega, fun j h0 h1 => ?_, d.imp (fun h => by unfold kAt; omega) fun h => by unfold kAt; simpa using h⟩
  have := c j h0 h1
  simp only [decide_eq_false_iff_not] at this
  omega
def over (l : Ll) (j x : Int) : Int := (Ll.get l j 1 - Ll.get l (j - 1) 1) * (x - Ll.get l (j - 1) 0)
def wide (l : Ll) (j : Int) : Int := Ll.get l j 0 - Ll.get l (j - 1) 0
/-- The knot before. -/
def pk (i : Int) : Int := if i = 0 then 0 else i - 1
def valLo (l : Ll) (x : Int) : Int := if kAt l x = 0 then Ll.get l 0 1 else if kAt l x = l.length then Ll.get l (l.length - 1) 1 else Ll.get l (kAt l x - 1) 1 + over l (kAt l x) x / wide l (kAt l x)
def valHi (l : Ll) (x : Int) : Int := if kAt l x = 0 then Ll.get l 0 1 else if kAt l x = l.length then Ll.get l (l.length - 1) 1 else Ll.get l (kAt l x - 1) 1 + cdiv (over l (kAt l x) x) (wide l (kAt l x))
/-- The rise of a piece at a place within it, and what it is below. -/
theorem over_bd {l : Ll} (h : RightL l) {j x : Int} (h0 : 0 < j) (h1 : j < l.length) (x0 : Ll.get l (j - 1) 0 ≤ x) (x1 : x ≤ Ll.get l j 0) : 1 ≤ wide l j ∧ wide l j ≤ 1099511627776 ∧ -1152921504606846976 ≤ over l j x ∧ over l j x ≤ 1152921504606846976 := by
  have o := h.ord j h0 h1
  unfold wide over
  have hw : ∀ {X V : Int}, 0 ≤ x - Ll.get l (j - 1) 0 → x - Ll.get l (j - 1) 0 ≤ X → -V ≤ Ll.get l j 1 - Ll.get l (j - 1) 1 → Ll.get l j 1 - Ll.get l (j - 1) 1 ≤ V → 0 ≤ V → -(V * X) ≤ (Ll.get l j 1 - Ll.get l (j - 1) 1) * (x - Ll.get l (j - 1) 0) ∧ (Ll.get l j 1 - Ll.get l (j - 1) 1) * (x - Ll.get l (j - 1) 0) ≤ V * X := by
    intro X V a1 a2 b1 b2 v0
    generalize x - Ll.get l (j - 1) 0 = p at *
    generalize Ll.get l j 1 - Ll.get l (j - 1) 1 = d at *
    have c1 : 0 ≤ (V - d) * p := Int.mul_nonneg (by omega) a1
    have c2 : 0 ≤ (V + d) * p := Int.mul_nonneg (by omega) a1
    have c3 : V * p ≤ V * X := Int.mul_le_mul_of_nonneg_left a2 v0
    rw [Int.sub_mul] at c1
    rw [Int.add_mul] at c2
    omega
  rcases h.big with hb | hb
  · have p := hb j (by omega) h1
    have q := hb (j - 1) (by omega) (by omega)
    have := hw (X := 1048576) (V := 68719476736) (by omega) (by omega) (by omega) (by omega) (by omega)
    omega
  · have p := hb j (by omega) h1
    have q := hb (j - 1) (by omega) (by omega)
    have := hw (X := 1099511627776) (V := 1048576) (by omega) (by omega) (by omega) (by omega) (by omega)
    omega
theorem RightL.any {l : Ll} (h : RightL l) {j : Int} (h0 : 0 ≤ j) (h1 : j < l.length) : 0 ≤ Ll.get l j 0 ∧ Ll.get l j 0 ≤ 1099511627776 ∧ 0 ≤ Ll.get l j 1 ∧ Ll.get l j 1 ≤ 68719476736 := by
  rcases h.big with hb | hb <;> have := hb j h0 h1 <;> omega
theorem quot_bd {a b M : Int} (hb : 1 ≤ b) (h0 : -M ≤ a) (h1 : a ≤ M) : -M ≤ a / b ∧ a / b ≤ M := by
  have e := Int.ediv_mul_add_emod a b
  have m0 := Int.emod_nonneg a (show b ≠ 0 by omega)
  have m1 := Int.emod_lt_of_pos a (show 0 < b by omega)
  constructor
  · refine Int.le_of_not_gt fun h => ?_
    have := Int.mul_le_mul_of_nonneg_right (show a / b ≤ -M - 1 by omega) (show 0 ≤ b by omega)
    have h2 : (-M - 1) * b = -(M * b) - b := by rw [Int.sub_mul, Int.neg_mul, Int.one_mul]
    have h3 : M * 1 ≤ M * b := Int.mul_le_mul_of_nonneg_left hb (by omega)
    omega
  · refine Int.le_of_not_gt fun h => ?_
    have := Int.mul_le_mul_of_nonneg_right (show M + 1 ≤ a / b by omega) (show 0 ≤ b by omega)
    have h2 : (M + 1) * b = M * b + b := by rw [Int.add_mul, Int.one_mul]
    have h3 : M * 1 ≤ M * b := Int.mul_le_mul_of_nonneg_left hb (by omega)
    omega
theorem val_bd {l : Ll} (h : RightL l) {j x : Int} (h0 : 0 < j) (h1 : j < l.length) (x0 : Ll.get l (j - 1) 0 ≤ x) (x1 : x ≤ Ll.get l j 0) : (-1152921504606846976 ≤ over l j x / wide l j ∧ over l j x / wide l j ≤ 1152921504606846976) ∧ (-1152921504606846976 ≤ -over l j x / wide l j ∧ -over l j x / wide l j ≤ 1152921504606846976) ∧ -1152921504606846976 ≤ cdiv (over l j x) (wide l j) ∧ cdiv (over l j x) (wide l j) ≤ 1152921504606846976 := by
  obtain ⟨w0, w1, o0, o1⟩ := over_bd h h0 h1 x0 x1
  have a := quot_bd (a := over l j x) w0 o0 o1
  have b := quot_bd (a := -over l j x) (M := 1152921504606846976) w0 (by omega) (by omega)
  unfold cdiv
  omega
theorem ord_lt {l : Ll} (h : RightL l) {i : Int} (h0 : 0 ≤ i) : ∀ (n : Nat), i + n + 1 < l.length → Ll.get l i 0 < Ll.get l (i + n + 1) 0
  | 0, h1 => by
    have := h.ord (i + 1) (by omega) (by omega)
    rw [show i + 1 - 1 = i by omega] at this
    rw [show i + ((0 : Nat) : Int) + 1 = i + 1 by omega]
    exact this
  | n + 1, h1 => by
    have a := ord_lt h h0 n (by omega)
    have b := h.ord (i + n + 1 + 1) (by omega) (by omega)
    rw [show i + n + 1 + 1 - 1 = i + (n : Int) + 1 by omega] at b
    rw [show i + ((n + 1 : Nat) : Int) + 1 = i + n + 1 + 1 by omega]
    omega
theorem ord_mono {l : Ll} (h : RightL l) {i j : Int} (h0 : 0 ≤ i) (h1 : i < j) (h2 : j < l.length) : Ll.get l i 0 < Ll.get l j 0 := by
  have := ord_lt h h0 (j - i - 1).toNat (by omega)
  rwa [show i + ((j - i - 1).toNat : Int) + 1 = j by omega] at this
theorem kAt_uniq {l : Ll} {x r : Int} (h0 : 0 ≤ r) (h1 : r ≤ l.length) (h2 : ∀ i : Int, 0 ≤ i → i < r → Ll.get l i 0 < x) (h3 : r = l.length ∨ x ≤ Ll.get l r 0) : kAt l x = r := by
  obtain ⟨a, b, c, d⟩ := kAt_spec l x
  rcases Int.lt_trichotomy (kAt l x) r with h | h | h
  · rcases d with d | d
    · omega
    · have := h2 _ a h; omega
  · exact h
  · rcases h3 with h3 | h3
    · omega
    · have := c r h0 h; omega
theorem val_knot {l : Ll} (h : RightL l) {j : Int} (h0 : 0 ≤ j) (h1 : j < l.length) : valLo l (Ll.get l j 0) = Ll.get l j 1 ∧ valHi l (Ll.get l j 0) = Ll.get l j 1 := by
  have e : kAt l (Ll.get l j 0) = j := kAt_uniq h0 (by omega) (fun i a b => ord_mono h a b h1) (.inr (Int.le_refl _))
  unfold valLo valHi
  rw [e]
  by_cases hz : j = 0
  · subst hz; simp
  · rw [if_neg hz, if_neg hz, if_neg (by omega), if_neg (by omega)]
    have hw := h.ord j (by omega) h1
    have hne : wide l j ≠ 0 := by unfold wide; omega
    have eo : over l j (Ll.get l j 0) = (Ll.get l j 1 - Ll.get l (j - 1) 1) * wide l j := rfl
    have e1 : over l j (Ll.get l j 0) / wide l j = Ll.get l j 1 - Ll.get l (j - 1) 1 := by rw [eo]; exact Int.mul_ediv_cancel _ hne
    have e2 : cdiv (over l j (Ll.get l j 0)) (wide l j) = Ll.get l j 1 - Ll.get l (j - 1) 1 := by
      unfold cdiv
      rw [eo, ← Int.neg_mul, Int.mul_ediv_cancel _ hne]; omega
    rw [e1, e2]
    omega
theorem val_first {l : Ll} {x : Int} (e : kAt l x = 0) : valLo l x = Ll.get l 0 1 ∧ valHi l x = Ll.get l 0 1 := by
  unfold valLo valHi; rw [if_pos e, if_pos e]; exact ⟨rfl, rfl⟩
theorem val_last {l : Ll} {x : Int} (e : kAt l x = l.length) (h : 1 ≤ l.length) : valLo l x = Ll.get l (l.length - 1) 1 ∧ valHi l x = Ll.get l (l.length - 1) 1 := by
  unfold valLo valHi; rw [if_neg (by omega), if_pos e, if_neg (by omega), if_pos e]; exact ⟨rfl, rfl⟩
theorem val_mid {l : Ll} {x : Int} (h : 0 < kAt l x) (h1 : kAt l x < l.length) : valLo l x = Ll.get l (kAt l x - 1) 1 + over l (kAt l x) x / wide l (kAt l x) ∧ valHi l x = Ll.get l (kAt l x - 1) 1 - -over l (kAt l x) x / wide l (kAt l x) := by
  unfold valLo valHi cdiv; rw [if_neg (by omega), if_neg (by omega), if_neg (by omega), if_neg (by omega)]; exact ⟨rfl, by omega⟩
theorem kAt_last {l : Ll} (h : RightL l) {x : Int} (hx : Ll.get l (l.length - 1) 0 < x) : kAt l x = l.length := by
  have := h.len
  refine kAt_uniq (by omega) (by omega) (fun i a b => ?_) (.inl rfl)
  by_cases e : i = l.length - 1
  · rw [e]; exact hx
  · have := ord_mono h a (show i < l.length - 1 by omega) (by omega); omega
theorem val_from {l : Ll} (h : RightL l) {x : Int} (hx : Ll.get l (l.length - 1) 0 ≤ x) : valLo l x = Ll.get l (l.length - 1) 1 ∧ valHi l x = Ll.get l (l.length - 1) 1 := by
  have := h.len
  by_cases e : x = Ll.get l (l.length - 1) 0
  · rw [e]; exact val_knot h (by omega) (by omega)
  · exact val_last (kAt_last h (by omega)) (by omega)
theorem kAt_in {l : Ll} (h : 1 ≤ l.length) {x : Int} (h0 : Ll.get l 0 0 < x) (h1 : x < Ll.get l (l.length - 1) 0) : 0 < kAt l x ∧ kAt l x < l.length := by
  obtain ⟨a, b, c, d⟩ := kAt_spec l x
  have e0 : kAt l x ≠ 0 := fun e => by
    rcases d with d | d
    · omega
    · rw [e] at d; omega
  have e1 : kAt l x ≠ l.length := fun e => by
    have := c (l.length - 1) (by omega) (by omega); omega
  omega
/-! ### Equal lines -/
def rowE (a b : Ll) (j : Int) : Bool := decide (Ll.get a j 0 = Ll.get b j 0) && decide (Ll.get a j 1 = Ll.get b j 1)
def dfI (a b : Ll) : Int := leastN (fun j => !rowE a b j) (min a.length b.length) 0
def sameLn (a b : Ll) : Bool := decide (a.length = b.length ∧ ¬ dfI a b < (min a.length b.length : Nat))
theorem sameLn_self (a : Ll) : sameLn a a = true := by
  unfold sameLn
  refine decide_eq_true ⟨rfl, fun h => ?_⟩
  obtain ⟨j, _, _, hj⟩ := (leastN_lt (fun j => !rowE a a j) (min a.length a.length)).1 h
  simp [rowE] at hj
/-! ### Above -/
def aup (a b : Ll) (f t j : Int) : Bool := decide ((f ≤ Ll.get a j 0 ∧ Ll.get a j 0 ≤ t) ∧ Ll.get a j 1 < valHi b (Ll.get a j 0))
def adn (a b : Ll) (f t j : Int) : Bool := decide ((f ≤ Ll.get b j 0 ∧ Ll.get b j 0 ≤ t) ∧ valLo a (Ll.get b j 0) < Ll.get b j 1)
def upI (a b : Ll) (f t : Int) : Int := leastN (aup a b f t) a.length 0
def dnI (a b : Ll) (f t : Int) : Int := leastN (adn a b f t) b.length 0
def abvB (a b : Ll) (f t : Int) : Bool := decide (¬ upI a b f t < a.length ∧ ¬ dnI a b f t < b.length)
def aboveB (a b : Ll) : Bool := decide (rightB a = true ∧ rightB b = true ∧ abvB a b 0 1099511627776 = true)
/-! ### The least and the greatest -/
def insB (l : Ll) (f t j : Int) : Bool := decide (f < Ll.get l j 0 ∧ Ll.get l j 0 < t)
def foldV (p : Int → Int → Int) (l : Ll) (f t b : Int) : Nat → Int
  | 0 => b
  | k + 1 => if insB l f t k = true then p (foldV p l f t b k) (Ll.get l k 1) else foldV p l f t b k
theorem foldV_succ (p : Int → Int → Int) (l : Ll) (f t b : Int) {i : Int} (h : 0 ≤ i) : foldV p l f t b (i + 1).toNat = if insB l f t i = true then p (foldV p l f t b i.toNat) (Ll.get l i 1) else foldV p l f t b i.toNat := by
  rw [show (i + 1).toNat = i.toNat + 1 by omega]
  simp only [foldV, Int.toNat_of_nonneg h]
/-- The values at places. -/
def pf (q : Int → Int → Int) (v : Ll → Int → Int) (l p : Ll) (b : Int) : Nat → Int
  | 0 => b
  | k + 1 => q (pf q v l p b k) (v l (Ll.get p k 0))
theorem pf_succ (q : Int → Int → Int) (v : Ll → Int → Int) (l p : Ll) (b : Int) {i : Int} (h : 0 ≤ i) : pf q v l p b (i + 1).toNat = q (pf q v l p b i.toNat) (v l (Ll.get p i 0)) := by
  rw [show (i + 1).toNat = i.toNat + 1 by omega]
  simp only [pf, Int.toNat_of_nonneg h]
def inPl (l : Ll) (f t : Int) : Nat → Ll
  | 0 => [[f], [t]]
  | k + 1 => if insB l f t k = true then inPl l f t k ++ [[Ll.get l k 0]] else inPl l f t k
theorem inPl_succ (l : Ll) (f t : Int) {i : Int} (h : 0 ≤ i) : inPl l f t (i + 1).toNat = if insB l f t i = true then inPl l f t i.toNat ++ [[Ll.get l i 0]] else inPl l f t i.toNat := by
  rw [show (i + 1).toNat = i.toNat + 1 by omega]
  simp only [inPl, Int.toNat_of_nonneg h]
theorem inPl_none {l : Ll} {f t : Int} : ∀ {k : Nat}, (∀ j : Int, 0 ≤ j → j < k → insB l f t j = false) → inPl l f t k = [[f], [t]]
  | 0, _ => rfl
  | k + 1, h => by
    simp only [inPl, h k (by omega) (by omega)]
    exact inPl_none fun j a b => h j a (by omega)
theorem inPl_len {l : Ll} {f t : Int} : ∀ (k : Nat), 2 ≤ (inPl l f t k).length ∧ (inPl l f t k).length ≤ k + 2
  | 0 => by simp [inPl]
  | k + 1 => by
    have := inPl_len (l := l) (f := f) (t := t) k
    simp only [inPl]
    split
    · simp only [List.length_append, List.length_cons, List.length_nil]; omega
    · omega
def anyI (l : Ll) (f t : Int) : Int := leastN (insB l f t) l.length 0
theorem get_app {p q : Ll} {j : Int} (h0 : 0 ≤ j) (h : j < p.length) (c : Nat) : Ll.get (p ++ q) j c = Ll.get p j c := by
  unfold Ll.get
  rw [List.getD_eq_getElem?_getD, List.getD_eq_getElem?_getD, List.getElem?_append_left (by omega), ← List.getD_eq_getElem?_getD, ← List.getD_eq_getElem?_getD]
theorem get_app1 {p : Ll} {x : Int} : Ll.get (p ++ [[x]]) p.length 0 = x := by
  unfold Ll.get
  simp
theorem pf_app (q : Int → Int → Int) (v : Ll → Int → Int) (l p r : Ll) (b : Int) : ∀ k : Nat, k ≤ p.length → pf q v l (p ++ r) b k = pf q v l p b k
  | 0, _ => rfl
  | k + 1, h => by simp only [pf, pf_app q v l p r b k (by omega), get_app (p := p) (q := r) (show (0 : Int) ≤ (k : Int) by omega) (show (k : Int) < p.length by omega)]
/-- Over all places: over the ends and the knots between. -/
theorem pf_in {q : Int → Int → Int} {v : Ll → Int → Int} {l : Ll} (hv : ∀ j : Int, 0 ≤ j → j < l.length → v l (Ll.get l j 0) = Ll.get l j 1) (f t : Int) (hq : q (v l f) (v l f) = v l f) : ∀ k : Nat, k ≤ l.length → pf q v l (inPl l f t k) (v l f) (inPl l f t k).length = foldV q l f t (q (v l f) (v l t)) k
  | 0, _ => by
    show q (q (v l f) (v l f)) (v l t) = q (v l f) (v l t)
    rw [hq]
  | k + 1, h => by
    have ih := pf_in hv f t hq k (by omega)
    simp only [inPl, foldV]
    split
    · rw [List.length_append, show [[Ll.get l k 0]].length = 1 from rfl]
      simp only [pf]
      rw [pf_app _ _ _ _ _ _ _ (Nat.le_refl _), get_app1, ih, hv k (by omega) (by omega)]
    · exact ih
theorem minL_self (x : Int) : minL x x = x := by unfold minL; simp
theorem maxL_self (x : Int) : maxL x x = x := by unfold maxL; simp
def leLo (l : Ll) (f t : Int) : Int := foldV minL l f t (minL (valLo l f) (valLo l t)) l.length
def leHi (l : Ll) (f t : Int) : Int := foldV minL l f t (minL (valHi l f) (valHi l t)) l.length
def moLo (l : Ll) (f t : Int) : Int := foldV maxL l f t (maxL (valLo l f) (valLo l t)) l.length
def moHi (l : Ll) (f t : Int) : Int := foldV maxL l f t (maxL (valHi l f) (valHi l t)) l.length
end Go.Rx
