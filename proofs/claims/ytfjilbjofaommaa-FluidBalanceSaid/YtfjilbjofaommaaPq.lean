/-
  Plain lists of slugs are told by what they hold. No program.
-/
import Derived.Test.YtfjilbjofaommaaPl
set_option linter.unusedSimpArgs false
set_option linter.unusedVariables false
namespace Go.Rx
open Go
/-- What a list holds, unit by unit: its weights. -/
def ex : Ll → List Int | [] => [] | r :: g => List.replicate (r.getD 1 0).toNat (r.getD 0 0) ++ ex g
theorem ex_append : ∀ (a b : Ll), ex (a ++ b) = ex a ++ ex b
  | [], b => rfl
  | r :: a, b => by simp only [List.cons_append, ex, ex_append a b, List.append_assoc]
theorem ex_one (w v : Int) : ex [[w, v]] = List.replicate v.toNat w := by simp [ex]
/-- A plain list. -/
def PlI : Ll → Prop
  | [] => True
  | [r] => (∃ w v, r = [w, v] ∧ 1 ≤ v)
  | r :: s :: g => (∃ w v, r = [w, v] ∧ 1 ≤ v ∧ w ≠ s.getD 0 0) ∧ PlI (s :: g)
theorem PlI.tail {r : List Int} {g : Ll} (h : PlI (r :: g)) : (∃ w v, r = [w, v] ∧ 1 ≤ v ∧ (g = [] ∨ w ≠ (g.getD 0 []).getD 0 0)) ∧ PlI g := by
  cases g with
  | nil => obtain ⟨w, v, h1, h2⟩ := h; exact ⟨⟨w, v, h1, h2, .inl rfl⟩, True.intro⟩
  | cons s g => obtain ⟨⟨w, v, h1, h2, h3⟩, h4⟩ := h; exact ⟨⟨w, v, h1, h2, .inr h3⟩, h4⟩
theorem ex_head {g : Ll} (h : PlI g) (hg : g ≠ []) : ∃ l, ex g = (g.getD 0 []).getD 0 0 :: l := by
  cases g with
  | nil => exact absurd rfl hg
  | cons r g =>
    obtain ⟨⟨w, v, rfl, h2, _⟩, _⟩ := h.tail
    refine ⟨List.replicate (v.toNat - 1) w ++ ex g, ?_⟩
    show List.replicate v.toNat w ++ ex g = _
    rw [show v.toNat = (v.toNat - 1) + 1 by omega, List.replicate_succ]
    simp
theorem ex_nil {g : Ll} (h : PlI g) (he : ex g = []) : g = [] := by
  cases g with
  | nil => rfl
  | cons r g => obtain ⟨l, hl⟩ := ex_head h (by simp); rw [he] at hl; cases hl
theorem rep_cut {w : Int} {m n : Nat} {a b : List Int} (h : List.replicate m w ++ a = List.replicate n w ++ b) (hmn : m < n) : ∃ l, a = w :: l := by
  refine ⟨List.replicate (n - m - 1) w ++ b, ?_⟩
  rw [show n = m + (n - m - 1 + 1) by omega, ← List.replicate_append_replicate, List.append_assoc] at h
  have := List.append_cancel_left h
  rw [this, List.replicate_succ]; rfl
theorem pl_unique : ∀ {g g' : Ll}, PlI g → PlI g' → ex g = ex g' → g = g'
  | [], g', _, h', he => (ex_nil h' he.symm).symm
  | r :: g, [], h, _, he => by
    have := ex_nil h he; cases this
  | r :: g, r' :: g', h, h', he => by
    have hh := ex_head h (by simp)
    have hh' := ex_head h' (by simp)
    obtain ⟨⟨w, v, rfl, h2, h3⟩, h4⟩ := h.tail
    obtain ⟨⟨w', v', rfl, h2', h3'⟩, h4'⟩ := h'.tail
    obtain ⟨l, hl⟩ := hh
    obtain ⟨l', hl'⟩ := hh'
    rw [he, hl'] at hl
    have hw : w' = w := (List.cons.inj hl).1
    subst hw
    have he : List.replicate v.toNat w' ++ ex g = List.replicate v'.toNat w' ++ ex g' := he
    have hv : v.toNat = v'.toNat := by
      rcases Nat.lt_trichotomy v.toNat v'.toNat with c | c | c
      · obtain ⟨l1, e1⟩ := rep_cut he c
        rcases h3 with h3 | h3
        · rw [h3] at e1; cases e1
        · cases g with
          | nil => cases e1
          | cons s g => obtain ⟨l2, e2⟩ := ex_head h4 (by simp); rw [e1] at e2; exact absurd (List.cons.inj e2).1 h3
      · exact c
      · obtain ⟨l1, e1⟩ := rep_cut he.symm c
        rcases h3' with h3' | h3'
        · rw [h3'] at e1; cases e1
        · cases g' with
          | nil => cases e1
          | cons s g' => obtain ⟨l2, e2⟩ := ex_head h4' (by simp); rw [e1] at e2; exact absurd (List.cons.inj e2).1 h3'
    rw [hv] at he
    have := pl_unique h4 h4' (List.append_cancel_left he)
    rw [this, show v = v' by omega]
/-- The last row. -/
theorem pl_snoc : ∀ {g : Ll} {w0 v0 : Int}, PlI (g ++ [[w0, v0]]) → (∀ v1, 1 ≤ v1 → PlI (g ++ [[w0, v1]])) ∧ (∀ w v, w0 ≠ w → 1 ≤ v → PlI (g ++ [[w0, v0]] ++ [[w, v]]))
  | [], w0, v0, h => by
    obtain ⟨w, v, h1, h2⟩ := h
    simp at h1
    obtain ⟨rfl, rfl⟩ := h1
    exact ⟨fun v1 h => ⟨w0, v1, rfl, h⟩, fun w v hw hv => ⟨⟨w0, v0, rfl, h2, hw⟩, ⟨w, v, rfl, hv⟩⟩⟩
  | [r], w0, v0, h => by
    obtain ⟨⟨w, v, h1, h2, h3⟩, h4⟩ := h
    obtain ⟨i1, i2⟩ := pl_snoc (g := []) h4
    exact ⟨fun v1 hv => ⟨⟨w, v, h1, h2, h3⟩, i1 v1 hv⟩, fun w' v' hw hv => ⟨⟨w, v, h1, h2, h3⟩, i2 w' v' hw hv⟩⟩
  | r :: s :: g, w0, v0, h => by
    obtain ⟨⟨w, v, h1, h2, h3⟩, h4⟩ := h
    obtain ⟨i1, i2⟩ := pl_snoc (g := s :: g) h4
    exact ⟨fun v1 hv => ⟨⟨w, v, h1, h2, h3⟩, i1 v1 hv⟩, fun w' v' hw hv => ⟨⟨w, v, h1, h2, h3⟩, i2 w' v' hw hv⟩⟩
theorem pl_last : ∀ {g : Ll} {w0 v0 : Int}, PlI (g ++ [[w0, v0]]) → 1 ≤ v0
  | [], w0, v0, h => by
    obtain ⟨w, v, h1, h2⟩ := h
    simp at h1; omega
  | [r], w0, v0, h => pl_last (g := []) h.2
  | r :: s :: g, w0, v0, h => pl_last (g := s :: g) h.2
theorem pl_rows : ∀ {g : Ll}, PlI g → ∀ x ∈ g, ∃ w v, x = [w, v] ∧ 1 ≤ v
  | [], _, x, hx => by cases hx
  | r :: g, h, x, hx => by
    obtain ⟨⟨w, v, h1, h2, _⟩, h4⟩ := h.tail
    rcases List.mem_cons.1 hx with rfl | hx
    · exact ⟨w, v, h1, h2⟩
    · exact pl_rows h4 x hx
theorem plainS_snoc (g : Ll) (w0 v0 w v : Int) (hv : ¬ (v < 1 ∨ 1099511627776 < v)) : plainS (g ++ [[w0, v0]]) w v = if w0 = w then g ++ [[w0, v0 + v]] else g ++ [[w0, v0]] ++ [[w, v]] := by
  have hl : ((g ++ [[w0, v0]]).length : Int) - 1 = (g.length : Nat) := by simp
  have e0 : Ll.get (g ++ [[w0, v0]]) ((g.length : Nat) : Int) 0 = w0 := by rw [getD_app]; simp
  have e1 : Ll.get (g ++ [[w0, v0]]) ((g.length : Nat) : Int) 1 = v0 := by rw [getD_app]; simp
  have hd : (g ++ [[w0, v0]]).getD g.length [] = [w0, v0] := by
    rw [List.getD_eq_getElem?_getD, List.getElem?_append_right (Nat.le_refl _)]; simp
  unfold plainS
  rw [if_neg hv, hl, e0, e1]
  by_cases hw : w0 = w
  · rw [if_pos ⟨by omega, hw⟩, if_pos hw]
    unfold Ll.set
    rw [Int.toNat_natCast, hd, List.set_append_right _ _ (Nat.le_refl _)]
    simp
  · rw [if_neg (fun h => hw h.2), if_neg hw]
theorem plainS_ex {g : Ll} {w v : Int} (h : PlI g) (hv : v ≤ 1099511627776) : PlI (plainS g w v) ∧ ex (plainS g w v) = ex g ++ List.replicate v.toNat w := by
  by_cases hc : v < 1 ∨ 1099511627776 < v
  · have e : plainS g w v = g := by unfold plainS; rw [if_pos hc]
    rw [e, show v.toNat = 0 by omega]
    exact ⟨h, by simp⟩
  · by_cases hg : g = []
    · subst hg
      have e : plainS [] w v = [[w, v]] := by unfold plainS; rw [if_neg hc, if_neg (fun h => by simp at h)]; rfl
      rw [e, ex_one]
      exact ⟨⟨w, v, rfl, by omega⟩, by simp [ex]⟩
    · obtain ⟨g0, r, rfl⟩ : ∃ g0 r, g = g0 ++ [r] := ⟨g.dropLast, g.getLast hg, (List.dropLast_concat_getLast hg).symm⟩
      obtain ⟨w0, v0, rfl, hv0⟩ := pl_rows h r (by simp)
      obtain ⟨i1, i2⟩ := pl_snoc h
      rw [plainS_snoc g0 w0 v0 w v hc]
      split
      · rename_i e; subst e
        refine ⟨i1 _ (by omega), ?_⟩
        rw [ex_append, ex_append, ex_one, ex_one, List.append_assoc, List.replicate_append_replicate, show (v0 + v).toNat = v0.toNat + v.toNat by omega]
      · rename_i e
        refine ⟨i2 w v e (by omega), ?_⟩
        rw [ex_append, ex_one]
/-- Rows of two, with volumes from 0 to the greatest. -/
def VolOK (l : Ll) : Prop := ∀ r ∈ l, ∃ w v, r = [w, v] ∧ 0 ≤ v ∧ v ≤ 1099511627776
theorem ex_take {l : Ll} {n : Nat} (h : n < l.length) : ex (l.take (n + 1)) = ex (l.take n) ++ List.replicate (Ll.get l n 1).toNat (Ll.get l n 0) := by
  rw [List.take_add_one, List.getElem?_eq_getElem h, Option.toList_some, ex_append]
  congr 1
  have e : l.getD n [] = l[n] := by rw [List.getD_eq_getElem?_getD, List.getElem?_eq_getElem h]; rfl
  unfold Ll.get
  rw [Int.toNat_natCast, e]
  simp [ex]
theorem plainP_ex {l : Ll} (hv : ∀ i : Nat, i < l.length → Ll.get l i 1 ≤ 1099511627776) : ∀ n : Nat, n ≤ l.length → PlI (plainP l n) ∧ ex (plainP l n) = ex (l.take n)
  | 0, _ => ⟨True.intro, by simp [plainP, ex]⟩
  | n + 1, hn => by
    obtain ⟨a, b⟩ := plainP_ex hv n (by omega)
    obtain ⟨c, d⟩ := plainS_ex (w := Ll.get l n 0) a (hv n (by omega))
    refine ⟨c, ?_⟩
    show ex (plainS _ _ _) = _
    rw [d, b, ex_take (by omega)]
theorem plainL_ex {l : Ll} (hv : ∀ i : Nat, i < l.length → Ll.get l i 1 ≤ 1099511627776) : PlI (plainL l) ∧ ex (plainL l) = ex l := by
  have := plainP_ex hv l.length (Nat.le_refl _)
  rwa [List.take_length] at this
/-- How much a list holds. -/
theorem ex_len {c : Ll} (h : ∀ i : Nat, i < c.length → 0 ≤ Ll.get c i 1) : ∀ n : Nat, n ≤ c.length → ((ex (c.take n)).length : Int) = slN c n ∧ 0 ≤ slN c n
  | 0, _ => by simp [ex, slN]
  | n + 1, hn => by
    obtain ⟨a, b⟩ := ex_len h n (by omega)
    have := h n (by omega)
    rw [ex_take (by omega), List.length_append, List.length_replicate]
    simp only [slN]
    omega
theorem pmN_is {c : Ll} {r : Int} (hr : 0 ≤ r) (h : ∀ i : Nat, i < c.length → 0 ≤ Ll.get c i 1) : ∀ n : Nat, n ≤ c.length → pmN c r n = if slN c n ≤ r then r - slN c n else 0
  | 0, _ => by simp [pmN, slN]; omega
  | n + 1, hn => by
    have := h n (by omega)
    have e := pmN_is hr h n (by omega)
    obtain ⟨_, a⟩ := ex_len h n (by omega)
    simp only [pmN, slN, minL_eq, e]
    repeat' split
    all_goals omega
theorem now_ex {c : Ll} {w v r : Int} (hr : 0 ≤ r) (h : ∀ i : Nat, i < c.length → 0 ≤ Ll.get c i 1) : ∀ n : Nat, n ≤ c.length → ex (nowP c w v r n) = List.replicate v.toNat w ++ (ex (c.take n)).take r.toNat
  | 0, _ => by simp [nowP, ex]
  | n + 1, hn => by
    have e := now_ex (w := w) (v := v) hr h n (by omega)
    have hp := pmN_is hr h n (by omega)
    obtain ⟨a, b⟩ := ex_len h n (by omega)
    have hv := h n (by omega)
    rw [nowP, ex_append, e, ex_one, ex_take (by omega), List.take_append, List.take_replicate, List.append_assoc]
    congr 3
    unfold pmK
    rw [hp, minL_eq]
    repeat' split
    all_goals omega
theorem out_ex {c : Ll} {r : Int} (hr : 0 ≤ r) (h : ∀ i : Nat, i < c.length → 0 ≤ Ll.get c i 1) : ∀ n : Nat, n ≤ c.length → ex (outP c r n) = (ex (c.take n)).drop r.toNat
  | 0, _ => by simp [outP, ex]
  | n + 1, hn => by
    have e := out_ex hr h n (by omega)
    have hp := pmN_is hr h n (by omega)
    obtain ⟨a, b⟩ := ex_len h n (by omega)
    have hv := h n (by omega)
    rw [outP, ex_append, e, ex_one, ex_take (by omega), List.drop_append, List.drop_replicate]
    congr 2
    unfold pmK
    rw [hp, minL_eq]
    repeat' split
    all_goals omega
/-- Two slugs of one weight. -/
theorem pump_two (w : Int) (a b V : Nat) (ha : a ≤ V) (hb : b ≤ V) (E : List Int) :
    List.replicate b w ++ (List.replicate a w ++ E.take (V - a)).take (V - b) = List.replicate a w ++ (List.replicate b w ++ E.take (V - b)).take (V - a) := by
  have key : ∀ (x y : Nat), x ≤ V → y ≤ V → List.replicate y w ++ (List.replicate x w ++ E.take (V - x)).take (V - y) = (List.replicate (x + y) w ++ E).take V := fun x y hx hy => by
    rw [List.take_append, List.take_replicate, List.take_append (l₁ := List.replicate (x + y) w), List.take_replicate, List.take_take, ← List.append_assoc, List.replicate_append_replicate, List.length_replicate, List.length_replicate]
    congr 2
    · omega
    · omega
  rw [key a b ha hb, key b a hb ha, Nat.add_comm]
end Go.Rx
