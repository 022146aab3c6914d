/-
  Columns made of numbers. No program.
-/
import Derived.Test.YtfjilbjofaommaaPr
set_option linter.unusedSimpArgs false
set_option linter.unusedVariables false
namespace Go.Rx
open Go
def cRoom (x : Ll) (V : Int) : Nat → Int | 0 => V | i + 1 => cRoom x V i - (1 + pickI x i / 13 % (cRoom x V i - 1))
def cK (x : Ll) (V : Int) : Int := leastN (fun i => decide (cRoom x V i.toNat ≤ 1)) (min x.length 5) 0
def cRow (x : Ll) (V : Int) (i : Nat) : List Int := [9000 + pickI x i % 13001, 1 + pickI x i / 13 % (cRoom x V i - 1)]
def cP (x : Ll) (V : Int) (n : Nat) : Ll := (List.range n).map (cRow x V)
def colL (x : Ll) (V : Int) : Ll := cP x V (cK x V).toNat ++ [[9000 + pickI x 5 / 17 % 13001, cRoom x V (cK x V).toNat]]
theorem cP_succ (x : Ll) (V : Int) (n : Nat) : cP x V (n + 1) = cP x V n ++ [cRow x V n] := by simp [cP, List.range_succ]
theorem cP_len (x : Ll) (V : Int) (n : Nat) : (cP x V n).length = n := by simp [cP]
theorem cP_rows (x : Ll) (V : Int) (n : Nat) : ∀ r ∈ cP x V n, r.length = 2 := by
  intro r hr
  simp [cP] at hr
  obtain ⟨i, _, rfl⟩ := hr
  rfl
theorem colL_rows (x : Ll) (V : Int) : ∀ r ∈ colL x V, r.length = 2 := by
  intro r hr
  rw [colL, List.mem_append] at hr
  rcases hr with hr | hr
  · exact cP_rows x V _ r hr
  · simp at hr; subst hr; rfl
theorem cK_spec (x : Ll) (V : Int) : 0 ≤ cK x V ∧ cK x V ≤ (min x.length 5 : Nat) ∧ (∀ i : Int, 0 ≤ i → i < cK x V → 1 < cRoom x V i.toNat) ∧ (cK x V = (min x.length 5 : Nat) ∨ cRoom x V (cK x V).toNat ≤ 1) := by
  obtain ⟨a, b, c, d⟩ := leastN_spec (fun i => decide (cRoom x V i.toNat ≤ 1)) (min x.length 5) 0
  refine ⟨a, by unfold cK; omega, fun i h0 h1 => ?_, d.imp (fun h => by unfold cK; omega) fun h => of_decide_eq_true h⟩
  have := c i h0 h1
  simp only [decide_eq_false_iff_not] at this
  omega
theorem cStep {x : Ll} {r : Int} (i : Int) (h : 1 < r) : 0 ≤ pickI x i / 13 % (r - 1) ∧ pickI x i / 13 % (r - 1) < r - 1 := ⟨Int.emod_nonneg _ (by omega), Int.emod_lt_of_pos _ (by omega)⟩
theorem cRoom_b {x : Ll} {V : Int} (hV : 1 ≤ V) : ∀ n : Nat, (n : Int) ≤ cK x V → 1 ≤ cRoom x V n ∧ cRoom x V n + n ≤ V
  | 0, _ => by simp [cRoom]; exact hV
  | n + 1, h => by
    obtain ⟨a, b⟩ := cRoom_b (x := x) hV n (by omega)
    have h1 := (cK_spec x V).2.2.1 n (by omega) (by omega)
    rw [Int.toNat_natCast] at h1
    have := cStep (x := x) n h1
    simp only [cRoom]
    omega
theorem col_get {x : Ll} {V : Int} {i : Nat} (h : i < (cK x V).toNat) : (colL x V).getD i [] = cRow x V i := by
  rw [colL, List.getD_eq_getElem?_getD, List.getElem?_append, cP_len, if_pos h]
  unfold cP
  rw [List.getElem?_map, List.getElem?_range h]; rfl
theorem col_last (x : Ll) (V : Int) : (colL x V).getD (cK x V).toNat [] = [9000 + pickI x 5 / 17 % 13001, cRoom x V (cK x V).toNat] := by
  rw [colL, List.getD_eq_getElem?_getD, List.getElem?_append, cP_len, if_neg (by omega)]
  simp
theorem colL_len (x : Ll) (V : Int) : (colL x V).length = (cK x V).toNat + 1 := by simp [colL, cP_len]
theorem col_sum {x : Ll} {V : Int} : ∀ n : Nat, n ≤ (cK x V).toNat → slN (colL x V) n + cRoom x V n = V
  | 0, _ => by simp [slN, cRoom]
  | n + 1, h => by
    have h1 := col_sum (x := x) (V := V) n (by omega)
    have e : Ll.get (colL x V) n 1 = 1 + pickI x n / 13 % (cRoom x V n - 1) := by
      unfold Ll.get
      rw [Int.toNat_natCast, col_get (by omega)]; rfl
    simp only [slN, cRoom, e]
    omega
theorem colL_ok {h x : Ll} (p0 : HoleOK h) : ColOK h (colL x (volN h h.length)) := by
  have hb := p0.b (n := h.length) (Nat.le_refl _)
  have hlen := p0.len
  have hV : 1 ≤ volN h h.length := by omega
  generalize hVe : volN h h.length = V at *
  obtain ⟨k0, k1, k2, k3⟩ := cK_spec x V
  have hl := colL_len x V
  have last0 : Ll.get (colL x V) (cK x V).toNat 0 = 9000 + pickI x 5 / 17 % 13001 ∧ Ll.get (colL x V) (cK x V).toNat 1 = cRoom x V (cK x V).toNat := by
    unfold Ll.get
    rw [Int.toNat_natCast, col_last]; exact ⟨rfl, rfl⟩
  refine ⟨p0, by omega, fun j hj => ?_, ?_⟩
  · unfold cBad
    rw [decide_eq_false_iff_not]
    by_cases e : j < (cK x V).toNat
    · have g : Ll.get (colL x V) j 0 = 9000 + pickI x j % 13001 ∧ Ll.get (colL x V) j 1 = 1 + pickI x j / 13 % (cRoom x V j - 1) := by
        unfold Ll.get
        rw [Int.toNat_natCast, col_get e]; exact ⟨rfl, rfl⟩
      have h1 := k2 j (by omega) (by omega)
      rw [Int.toNat_natCast] at h1
      have := cStep (x := x) j h1
      rw [g.1, g.2]
      omega
    · obtain rfl : j = (cK x V).toNat := by omega
      have := (cRoom_b (x := x) hV (cK x V).toNat (by omega)).1
      rw [last0.1, last0.2]
      omega
  · rw [hl]
    have h1 := col_sum (x := x) (V := V) (cK x V).toNat (Nat.le_refl _)
    simp only [slN]
    rw [last0.2]
    omega
/-- Volumes that may be summed. -/
def heldB (c : Ll) : Bool := decide (c.length ≤ 1000) && (List.range c.length).all fun i => decide (0 ≤ Ll.get c i 1 ∧ Ll.get c i 1 ≤ 1099511627776)
theorem heldB_at {c : Ll} (h : heldB c = true) : c.length ≤ 1000 ∧ ∀ i : Nat, i < c.length → 0 ≤ Ll.get c i 1 ∧ Ll.get c i 1 ≤ 1099511627776 := by
  unfold heldB at h
  simp only [Bool.and_eq_true, decide_eq_true_eq, List.all_eq_true, List.mem_range] at h
  exact h
theorem heldB_of {c : Ll} (h : c.length ≤ 1000) (h2 : ∀ i : Nat, i < c.length → 0 ≤ Ll.get c i 1 ∧ Ll.get c i 1 ≤ 1099511627776) : heldB c = true := by
  unfold heldB
  simp only [Bool.and_eq_true, decide_eq_true_eq, List.all_eq_true, List.mem_range]
  exact ⟨h, h2⟩
theorem held_b {c : Ll} (h : heldB c = true) : ∀ n : Nat, n ≤ c.length → 0 ≤ slN c n ∧ slN c n ≤ 1099511627776 * n
  | 0, _ => by simp [slN]
  | n + 1, hn => by
    have h1 := held_b h n (by omega)
    have h2 := (heldB_at h).2 n (by omega)
    simp only [slN]
    have : ((n + 1 : Nat) : Int) = (n : Int) + 1 := by omega
    rw [this]; omega
theorem held_col {h c : Ll} (e : ColOK h c) : heldB c = true := by
  have hl := e.len
  refine heldB_of (by omega) fun i hi => ?_
  have h1 := cBad_no (e.good i hi)
  have h2 := slN_mono e.good (k := i + 1) (by omega)
  have h3 := slN_b (fun j hj => e.good j (by omega) : CGood c i)
  have := e.sum
  have := e.hole.b (n := h.length) (Nat.le_refl _)
  simp only [slN] at h2
  omega
end Go.Rx
