/-
  Plain lists of slugs; what is pumped. No program.
-/
import Derived.Test.YtfjilbjofaommaaCo
set_option linter.unusedSimpArgs false
set_option linter.unusedVariables false
namespace Go.Rx
open Go
/-- A slug is laid on a plain list. -/
def plainS (g : Ll) (w v : Int) : Ll := if v < 1 ∨ 1099511627776 < v then g else if 0 ≤ (g.length : Int) - 1 ∧ Ll.get g ((g.length : Int) - 1) 0 = w then Ll.set g ((g.length : Int) - 1) 1 (Ll.get g ((g.length : Int) - 1) 1 + v) else g ++ [[w, v]]
def plainP (l : Ll) : Nat → Ll | 0 => [] | n + 1 => plainS (plainP l n) (Ll.get l n 0) (Ll.get l n 1)
def plainL (l : Ll) : Ll := plainP l l.length
theorem getD_app {g : Ll} {r : List Int} (i : Nat) (j : Nat) : Ll.get (g ++ [r]) i j = if i < g.length then Ll.get g i j else if i = g.length then r.getD j 0 else 0 := by
  have e : (g ++ [r]).getD i [] = if i < g.length then g.getD i [] else if i = g.length then r else [] := by
    rw [List.getD_eq_getElem?_getD, List.getElem?_append]
    by_cases h : i < g.length
    · rw [if_pos h, if_pos h, ← List.getD_eq_getElem?_getD]
    · rw [if_neg h, if_neg h]
      by_cases e : i = g.length
      · subst e; rw [if_pos rfl]; simp
      · rw [if_neg e, List.getElem?_eq_none (by simp; omega)]; rfl
  unfold Ll.get
  rw [Int.toNat_natCast, e]
  split
  · rfl
  · split
    · rfl
    · rfl
theorem plainS_len (g : Ll) (w v : Int) : (plainS g w v).length ≤ g.length + 1 := by
  unfold plainS
  split
  · omega
  · split
    · simp [Ll.set]
    · simp
/-- Rows of two, volumes from 0 to a bound. -/
def VolB (g : Ll) (m : Int) : Prop := (∀ x ∈ g, x.length = 2) ∧ ∀ i : Nat, i < g.length → 0 ≤ Ll.get g i 1 ∧ Ll.get g i 1 ≤ m
theorem plainS_b {g : Ll} {m w v : Int} (hm : 0 ≤ m) (h : VolB g m) : VolB (plainS g w v) (m + 1099511627776) := by
  obtain ⟨h1, h2⟩ := h
  unfold plainS
  split
  · exact ⟨h1, fun i hi => by have := h2 i hi; omega⟩
  · rename_i hv
    split
    · rename_i hl
      have hk : ((g.length : Int) - 1).toNat < g.length := by omega
      have hg := fun i' j' => get_set_ll (h := g) (i := (g.length : Int) - 1) (j := 1) (v := Ll.get g ((g.length : Int) - 1) 1 + v) hl.1 (by omega) h1 (by omega) i' j'
      refine ⟨rows_set h1, fun i hi => ?_⟩
      have hi : i < g.length := by simpa [Ll.set] using hi
      rw [hg]
      have hb := h2 i hi
      split
      · rename_i e
        have hb2 := h2 ((g.length : Int) - 1).toNat hk
        rw [Int.toNat_of_nonneg hl.1] at hb2
        omega
      · omega
    · refine ⟨fun x hx => ?_, fun i hi => ?_⟩
      · rcases List.mem_append.1 hx with hx | hx
        · exact h1 x hx
        · simp at hx; subst hx; rfl
      · rw [getD_app]
        split
        · have := h2 i (by assumption); omega
        · split
          · simp; omega
          · rw [List.length_append, List.length_cons, List.length_nil] at hi; omega
theorem plain_b (l : Ll) : ∀ n : Nat, VolB (plainP l n) (1099511627776 * n) ∧ (plainP l n).length ≤ n
  | 0 => ⟨⟨fun x hx => (by cases hx), fun i hi => (by simp [plainP] at hi)⟩, by simp [plainP]⟩
  | n + 1 => by
    obtain ⟨a, b⟩ := plain_b l n
    have c := plainS_b (m := 1099511627776 * n) (by omega) (w := Ll.get l n 0) (v := Ll.get l n 1) a
    have d := plainS_len (plainP l n) (Ll.get l n 0) (Ll.get l n 1)
    refine ⟨⟨c.1, fun i hi => ?_⟩, ?_⟩
    · have := c.2 i hi
      have e : (1099511627776 : Int) * ((n + 1 : Nat) : Int) = 1099511627776 * n + 1099511627776 := by push_cast; omega
      show 0 ≤ Ll.get (plainS _ _ _) i 1 ∧ Ll.get (plainS _ _ _) i 1 ≤ _
      rw [e]; exact this
    · show (plainS _ _ _).length ≤ n + 1
      omega
theorem plainL_rows (l : Ll) : ∀ x ∈ plainL l, x.length = 2 := (plain_b l l.length).1.1
theorem plainL_len (l : Ll) : (plainL l).length ≤ l.length := (plain_b l l.length).2
theorem plainP_succ {l : Ll} {i : Int} (h : 0 ≤ i) : plainP l (i.toNat + 1) = plainS (plainP l i.toNat) (Ll.get l i 0) (Ll.get l i 1) := by
  show plainS (plainP l i.toNat) (Ll.get l (i.toNat : Int) 0) (Ll.get l (i.toNat : Int) 1) = _
  rw [Int.toNat_of_nonneg h]
/-- What room is left when a slug is pumped in. -/
def pmN (c : Ll) (r : Int) : Nat → Int | 0 => r | n + 1 => pmN c r n - minL (Ll.get c n 1) (pmN c r n)
/-- How much of a slug stays. -/
def pmK (c : Ll) (r : Int) (n : Nat) : Int := minL (Ll.get c n 1) (pmN c r n)
def nowP (c : Ll) (w v r : Int) : Nat → Ll | 0 => [[w, v]] | n + 1 => nowP c w v r n ++ [[Ll.get c n 0, pmK c r n]]
def outP (c : Ll) (r : Int) : Nat → Ll | 0 => [] | n + 1 => outP c r n ++ [[Ll.get c n 0, Ll.get c n 1 - pmK c r n]]
theorem nowP_len (c : Ll) (w v r : Int) : ∀ n, (nowP c w v r n).length = n + 1
  | 0 => rfl
  | n + 1 => by simp [nowP, nowP_len c w v r n]
theorem outP_len (c : Ll) (r : Int) : ∀ n, (outP c r n).length = n
  | 0 => rfl
  | n + 1 => by simp [outP, outP_len c r n]
theorem pm_b {h c : Ll} (e : ColOK h c) {r : Int} (hr : 0 ≤ r) : ∀ n : Nat, n ≤ c.length → 0 ≤ pmN c r n ∧ pmN c r n ≤ r
  | 0, _ => ⟨hr, Int.le_refl _⟩
  | n + 1, hn => by
    obtain ⟨a, b⟩ := pm_b e hr n (by omega)
    have := e.at (i := n) (by omega) (by omega)
    simp only [pmN, minL_eq]
    split <;> omega
theorem pmN_succ {c : Ll} {r i : Int} (h : 0 ≤ i) : pmN c r (i.toNat + 1) = pmN c r i.toNat - minL (Ll.get c i 1) (pmN c r i.toNat) := by
  show pmN c r i.toNat - minL (Ll.get c (i.toNat : Int) 1) (pmN c r i.toNat) = _
  rw [Int.toNat_of_nonneg h]
theorem nowP_succ {c : Ll} {w v r i : Int} (h : 0 ≤ i) : nowP c w v r (i.toNat + 1) = nowP c w v r i.toNat ++ [[Ll.get c i 0, minL (Ll.get c i 1) (pmN c r i.toNat)]] := by
  show nowP c w v r i.toNat ++ [[Ll.get c (i.toNat : Int) 0, pmK c r i.toNat]] = _
  unfold pmK
  rw [Int.toNat_of_nonneg h]
theorem outP_succ {c : Ll} {r i : Int} (h : 0 ≤ i) : outP c r (i.toNat + 1) = outP c r i.toNat ++ [[Ll.get c i 0, Ll.get c i 1 - minL (Ll.get c i 1) (pmN c r i.toNat)]] := by
  show outP c r i.toNat ++ [[Ll.get c (i.toNat : Int) 0, Ll.get c (i.toNat : Int) 1 - pmK c r i.toNat]] = _
  unfold pmK
  rw [Int.toNat_of_nonneg h]
theorem minL_comm (a b : Int) : minL a b = minL b a := by rw [minL_eq, minL_eq]; split <;> split <;> omega
theorem ColOK.vol {h c : Ll} (e : ColOK h c) {i : Int} (h0 : 0 ≤ i) (h1 : i < c.length) : Ll.get c i 1 ≤ 5242880000 := by
  have a := slN_succ (c := c) h0
  have b := slN_b (c := c) (n := i.toNat) (fun j hj => e.good j (by omega))
  have d := slN_mono e.good (k := (i + 1).toNat) (by omega)
  have v := e.hole.b (n := h.length) (Nat.le_refl _)
  have s := e.sum
  omega
/-- Pumping: the error, the column, what came out. -/
def pmE (h c : Ll) (w v : Int) : Int := if ¬ colE h c = 0 then colE h c else if w < 0 ∨ 40000 < w ∨ v < 1 ∨ volN h h.length < v then 2 else if 24 < (plainL (nowP c w v (volN h h.length - v) c.length)).length then 8 else 0
def pmA (h c : Ll) (w v : Int) : Ll := if pmE h c w v = 0 then plainL (nowP c w v (volN h h.length - v) c.length) else []
def pmO (h c : Ll) (w v : Int) : Ll := if pmE h c w v = 0 then plainL (outP c (volN h h.length - v) c.length) else []
theorem pmA_len (h c : Ll) (w v : Int) : (pmA h c w v).length ≤ c.length + 1 := by
  unfold pmA; split
  · have := plainL_len (nowP c w v (volN h h.length - v) c.length); rw [nowP_len] at this; exact this
  · simp
theorem pmO_len (h c : Ll) (w v : Int) : (pmO h c w v).length ≤ c.length := by
  unfold pmO; split
  · have := plainL_len (outP c (volN h h.length - v) c.length); rw [outP_len] at this; exact this
  · simp
theorem pmA_rows (h c : Ll) (w v : Int) : ∀ x ∈ pmA h c w v, x.length = 2 := by
  unfold pmA; split
  · exact plainL_rows _
  · intro x hx; cases hx
theorem pmO_rows (h c : Ll) (w v : Int) : ∀ x ∈ pmO h c w v, x.length = 2 := by
  unfold pmO; split
  · exact plainL_rows _
  · intro x hx; cases hx
end Go.Rx
