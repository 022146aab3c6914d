/-
  What pumping leaves. No program.
-/
import Derived.Test.YtfjilbjofaommaaPq
set_option linter.unusedSimpArgs false
set_option linter.unusedVariables false
namespace Go.Rx
open Go
theorem ex_mem : ∀ {g : Ll}, PlI g → ∀ r ∈ g, r.getD 0 0 ∈ ex g ∧ (r.getD 1 0).toNat ≤ (ex g).length
  | [], _, r, hr => by cases hr
  | x :: g, h, r, hr => by
    obtain ⟨⟨w, v, rfl, h2, _⟩, h4⟩ := h.tail
    simp only [ex, List.mem_append, List.length_append, List.length_replicate]
    rcases List.mem_cons.1 hr with rfl | hr
    · refine ⟨.inl ?_, by omega⟩
      show w ∈ List.replicate v.toNat w
      exact List.mem_replicate.2 ⟨by omega, rfl⟩
    · obtain ⟨a, b⟩ := ex_mem h4 r hr
      exact ⟨.inr a, by omega⟩
theorem row_at {g : Ll} {i : Nat} (h : i < g.length) (j : Nat) : Ll.get g i j = (g[i]).getD j 0 := by
  have e : g.getD i [] = g[i] := by rw [List.getD_eq_getElem?_getD, List.getElem?_eq_getElem h]; rfl
  unfold Ll.get
  rw [Int.toNat_natCast, e]
theorem pl_at {g : Ll} (hp : PlI g) {i : Nat} (h : i < g.length) : 1 ≤ Ll.get g i 1 ∧ (Ll.get g i 1).toNat ≤ (ex g).length ∧ Ll.get g i 0 ∈ ex g := by
  obtain ⟨w, v, e, hv⟩ := pl_rows hp g[i] (List.getElem_mem h)
  obtain ⟨a, b⟩ := ex_mem hp g[i] (List.getElem_mem h)
  rw [row_at h, row_at h]
  rw [e] at a b ⊢
  exact ⟨hv, b, a⟩
theorem pl_sum {g : Ll} (hp : PlI g) : slN g g.length = (ex g).length := by
  have := (ex_len (c := g) (fun i hi => by have := (pl_at hp hi).1; omega) g.length (Nat.le_refl _)).1
  rw [List.take_length] at this
  exact this.symm
/-- Every weight of a list is one of its rows'. -/
theorem mem_ex : ∀ {g : Ll} {x : Int}, x ∈ ex g → ∃ r ∈ g, r.getD 0 0 = x
  | [], x, h => by cases h
  | r :: g, x, h => by
    simp only [ex, List.mem_append] at h
    rcases h with h | h
    · exact ⟨r, by simp, (List.mem_replicate.1 h).2.symm⟩
    · obtain ⟨s, a, b⟩ := mem_ex h; exact ⟨s, List.mem_cons_of_mem _ a, b⟩
theorem now_b {h c : Ll} (e : ColOK h c) {w v r : Int} (hv : v ≤ 5242880000) : ∀ n : Nat, n ≤ c.length → ∀ i : Nat, i < (nowP c w v r n).length → Ll.get (nowP c w v r n) i 1 ≤ 5242880000
  | 0, _, i, hi => by
    have : i = 0 := by simp [nowP] at hi; exact hi
    subst this; exact hv
  | n + 1, hn, i, hi => by
    have e1 := now_b e (w := w) (r := r) hv n (by omega)
    have ha := e.vol (i := n) (by omega) (by omega)
    show Ll.get (nowP c w v r n ++ [[Ll.get c n 0, pmK c r n]]) i 1 ≤ _
    rw [getD_app]
    split
    · exact e1 i (by assumption)
    · split
      · show pmK c r n ≤ _
        unfold pmK; rw [minL_eq]; split <;> omega
      · omega
theorem out_b {h c : Ll} (e : ColOK h c) {r : Int} (hr : 0 ≤ r) : ∀ n : Nat, n ≤ c.length → ∀ i : Nat, i < (outP c r n).length → Ll.get (outP c r n) i 1 ≤ 5242880000
  | 0, _, i, hi => by simp [outP] at hi
  | n + 1, hn, i, hi => by
    have e1 := out_b e hr n (by omega)
    have ha := e.vol (i := n) (by omega) (by omega)
    have hb := pm_b e hr n (by omega)
    have hc := e.at (i := n) (by omega) (by omega)
    show Ll.get (outP c r n ++ [[Ll.get c n 0, Ll.get c n 1 - pmK c r n]]) i 1 ≤ _
    rw [getD_app]
    split
    · exact e1 i (by assumption)
    · split
      · show Ll.get c n 1 - pmK c r n ≤ _
        unfold pmK; rw [minL_eq]; split <;> omega
      · omega
structure Pumped (h c : Ll) (w a : Int) : Prop where
  err : pmE h c w a = 0
  plain : PlI (pmA h c w a)
  now : ex (pmA h c w a) = List.replicate a.toNat w ++ (ex c).take ((volN h h.length).toNat - a.toNat)
  oplain : PlI (pmO h c w a)
  out : ex (pmO h c w a) = (ex c).drop ((volN h h.length).toNat - a.toNat)
  col : ColOK h (pmA h c w a)
  len : (pmA h c w a).length ≤ c.length + 1
  olen : (pmO h c w a).length ≤ c.length
  head : Ll.get (pmA h c w a) 0 0 = w ∧ a ≤ Ll.get (pmA h c w a) 0 1
  held : slN (pmO h c w a) (pmO h c w a).length = a
  oheld : heldB (pmO h c w a) = true
theorem pumped {h c : Ll} (e : ColOK h c) (hlen : c.length ≤ 23) {w a : Int} (w0 : 0 ≤ w) (w1 : w ≤ 40000) (a0 : 1 ≤ a) (a1 : a ≤ volN h h.length) : Pumped h c w a := by
  have hb := e.hole.b (n := h.length) (Nat.le_refl _)
  obtain ⟨V, hV⟩ : ∃ V, V = volN h h.length := ⟨_, rfl⟩
  rw [← hV] at hb a1
  have hn := now_b e (w := w) (v := a) (r := V - a) (by omega) c.length (Nat.le_refl _)
  have ho := out_b e (r := V - a) (by omega) c.length (Nat.le_refl _)
  have hc0 : ∀ i : Nat, i < c.length → 0 ≤ Ll.get c i 1 := fun i hi => by have := e.at (i := i) (by omega) (by omega); omega
  obtain ⟨n1, n2⟩ := plainL_ex (l := nowP c w a (V - a) c.length) fun i hi => by have := hn i hi; omega
  obtain ⟨o1, o2⟩ := plainL_ex (l := outP c (V - a) c.length) fun i hi => by have := ho i hi; omega
  have hN := now_ex (w := w) (v := a) (show 0 ≤ V - a by omega) hc0 c.length (Nat.le_refl _)
  have hO := out_ex (show 0 ≤ V - a by omega) hc0 c.length (Nat.le_refl _)
  rw [List.take_length, show (V - a).toNat = V.toNat - a.toNat by omega] at hN hO
  rw [hN] at n2
  rw [hO] at o2
  have pl : (plainL (nowP c w a (V - a) c.length)).length ≤ c.length + 1 := by
    have := plainL_len (nowP c w a (V - a) c.length); rwa [nowP_len] at this
  have hE : pmE h c w a = 0 := by
    unfold pmE
    rw [if_neg (fun hc => hc (col_zero e)), ← hV, if_neg (by omega), if_neg (by omega)]
  have eA : pmA h c w a = plainL (nowP c w a (V - a) c.length) := by unfold pmA; rw [if_pos hE, ← hV]
  have eO : pmO h c w a = plainL (outP c (V - a) c.length) := by unfold pmO; rw [if_pos hE, ← hV]
  have sum := e.sum
  have cl := (ex_len hc0 c.length (Nat.le_refl _)).1
  rw [List.take_length, sum, ← hV] at cl
  have len := pmA_len h c w a
  have olen := pmO_len h c w a
  rw [← eA] at n1 n2
  rw [← eO] at o1 o2
  have lenN : (ex (pmA h c w a)).length = V.toNat := by
    rw [n2, List.length_append, List.length_replicate, List.length_take]; omega
  have lenO : (ex (pmO h c w a)).length = a.toNat := by
    rw [o2, List.length_drop]; omega
  have hne : pmA h c w a ≠ [] := fun hc => by rw [hc] at lenN; simp [ex] at lenN; omega
  have hpos : 0 < (pmA h c w a).length := List.length_pos_iff.2 hne
  refine ⟨hE, n1, by rw [← hV]; exact n2, o1, by rw [← hV]; exact o2, ⟨e.hole, ⟨by omega, by omega⟩, fun j hj => ?_, by rw [pl_sum n1, lenN, ← hV]; omega⟩, len, olen, ?_, by rw [pl_sum o1, lenO]; omega, heldB_of (by omega) fun i hi => ?_⟩
  · obtain ⟨p1, _, p3⟩ := pl_at n1 hj
    unfold cBad
    rw [decide_eq_false_iff_not]
    have : 0 ≤ Ll.get (pmA h c w a) j 0 ∧ Ll.get (pmA h c w a) j 0 ≤ 40000 := by
      rw [n2] at p3
      rcases List.mem_append.1 p3 with p3 | p3
      · have := (List.mem_replicate.1 p3).2; omega
      · obtain ⟨r, r1, r2⟩ := mem_ex (List.mem_of_mem_take p3)
        obtain ⟨i, hi, rfl⟩ := List.getElem_of_mem r1
        have := e.at (i := i) (by omega) (by omega)
        rw [row_at hi] at this
        omega
    omega
  · obtain ⟨g0, g, hg⟩ : ∃ g0 g, pmA h c w a = g0 :: g := by
      cases hq : pmA h c w a with
      | nil => exact absurd hq hne
      | cons x l => exact ⟨x, l, rfl⟩
    rw [hg] at n1 n2 ⊢
    obtain ⟨⟨w', v', rfl, h2, h3⟩, h4⟩ := n1.tail
    have he : List.replicate v'.toNat w' ++ ex g = List.replicate a.toNat w ++ (ex c).take (V.toNat - a.toNat) := n2
    have ew : w' = w := by
      have he2 := he
      rw [show v'.toNat = (v'.toNat - 1) + 1 by omega, show a.toNat = (a.toNat - 1) + 1 by omega, List.replicate_succ, List.replicate_succ] at he2
      exact (List.cons.inj he2).1
    subst ew
    refine ⟨rfl, ?_⟩
    show a ≤ v'
    by_cases hlt : v' < a
    · exfalso
      obtain ⟨l, hl⟩ := rep_cut he (show v'.toNat < a.toNat by omega)
      rcases h3 with h3 | h3
      · rw [h3] at hl; cases hl
      · cases g with
        | nil => cases hl
        | cons s g => obtain ⟨l2, e2⟩ := ex_head h4 (by simp); rw [hl] at e2; exact h3 (List.cons.inj e2).1
    · omega
  · obtain ⟨p1, p2, _⟩ := pl_at o1 hi
    omega
/-- Two slugs of one weight may be pumped in either order. -/
theorem pumped_two {h c : Ll} (e : ColOK h c) (hlen : c.length ≤ 22) {w a b : Int} (w0 : 0 ≤ w) (w1 : w ≤ 40000) (a0 : 1 ≤ a) (a1 : a ≤ volN h h.length) (b0 : 1 ≤ b) (b1 : b ≤ volN h h.length) :
    pmA h (pmA h c w a) w b = pmA h (pmA h c w b) w a := by
  have pa := pumped e (by omega) w0 w1 a0 a1
  have pb := pumped e (by omega) w0 w1 b0 b1
  have pab := pumped pa.col (by have := pa.len; omega) w0 w1 b0 b1
  have pba := pumped pb.col (by have := pb.len; omega) w0 w1 a0 a1
  refine pl_unique pab.plain pba.plain ?_
  rw [pab.now, pba.now, pa.now, pb.now]
  exact pump_two w a.toNat b.toNat (volN h h.length).toNat (by omega) (by omega) (ex c)
/-- A plain list is plain already. -/
theorem plain_same {g : Ll} (h : PlI g) (hl : (ex g).length ≤ 1099511627776) : plainL g = g := by
  obtain ⟨a, b⟩ := plainL_ex (l := g) fun i hi => by have := (pl_at h hi).2.1; omega
  exact pl_unique a h b
end Go.Rx
