/-
  A region that draws its order: what the run finds. No program.
-/
import Derived.Test.YtohpjhplofimjaaZo
set_option linter.unusedSimpArgs false
set_option linter.unusedVariables false
set_option linter.unusedSectionVars false
namespace Go.Rx
open Go
variable {P : Program}

theorem ap'_eq : ∀ (l m : List Nat), ap' l m = l ++ m
  | [], m => rfl
  | x :: l, m => by
    rw [ap', ap'_eq l m, List.cons_append]
    generalize l ++ m = u
    cases u <;> rfl
theorem mem_rng {lo id : Nat} : ∀ {n : Nat}, id ∈ rng lo n ↔ lo ≤ id ∧ id < lo + n
  | 0 => by simp [rng]
  | n + 1 => by
    have e : rng lo (n + 1) = (lo + n) :: rng lo n := by
      rw [rng, nN_eq]
      show (match rng lo n with | [] => [lo + n] | x :: l => (lo + n) :: x :: l) = _
      generalize rng lo n = u
      cases u <;> rfl
    rw [e, List.mem_cons, mem_rng (n := n)]
    omega
theorem mem_below {n id : Nat} : ∀ {l : List Nat}, id ∈ below n l ↔ id ∈ l ∧ id < n
  | [] => by simp [below]
  | x :: l => by
    have ih := mem_below (n := n) (id := id) (l := l)
    unfold below
    cases hb : Nat.blt x n
    · have : ¬ x < n := fun h => by
        have e : Nat.blt x n = true := by simpa using h
        rw [e] at hb; cases hb
      simp only [cond_false, ih, List.mem_cons]
      constructor
      · rintro ⟨h1, h2⟩; exact ⟨.inr h1, h2⟩
      · rintro ⟨rfl | h1, h2⟩
        · omega
        · exact ⟨h1, h2⟩
    · have hx : x < n := by simpa using hb
      have e : (bif true then (match below n l with | [] => [x] | y :: r => x :: y :: r) else below n l) = x :: below n l := by cases below n l <;> rfl
      refine Iff.trans (Eq.to_iff (congrArg (id ∈ ·) e)) ?_
      rw [List.mem_cons, ih, List.mem_cons]
      constructor
      · rintro (rfl | ⟨h1, h2⟩)
        · exact ⟨.inl rfl, hx⟩
        · exact ⟨.inr h1, h2⟩
      · rintro ⟨rfl | h1, h2⟩
        · exact .inl rfl
        · exact .inr ⟨h1, h2⟩
theorem delta_cons (H : Hp) (x : Nat) (l : List Nat) : delta H (x :: l) = (x, H.get x) :: delta H l := by
  simp only [delta]
  cases H.get x <;> simp only <;> cases delta H l <;> rfl
theorem applyD_cons (H : Hp) (x : Nat × Option LO) (D : Del) : applyD H (x :: D) = applyD (H.set x.1 x.2) D := by
  obtain ⟨i, o⟩ := x
  simp [applyD, Tr.force_eq]
theorem get_applyD (H' : Hp) : ∀ (l : List Nat) (H : Hp) (id : Nat), (applyD H (delta H' l)).get id = if id ∈ l then H'.get id else H.get id
  | [], H, id => by simp [delta, applyD]
  | x :: l, H, id => by
    rw [delta_cons, applyD_cons, get_applyD H' l]
    by_cases h : id ∈ l
    · simp [h]
    · rw [if_neg h, Tr.get_set]
      by_cases e : id = x
      · subst e; simp
      · simp [e, h]
theorem allIn_ok {H : Hp} {lo : Nat} : ∀ {l : List Nat}, allIn H lo l = true → ∀ id ∈ l, lo ≤ id ∨ ∃ o, H.get id = some o
  | [], _, id, h => by cases h
  | x :: l, h, id, hi => by
    simp only [allIn, Bool.and_eq_true, Bool.or_eq_true] at h
    rcases List.mem_cons.1 hi with rfl | hi
    · rcases h.1 with h1 | h1
      · exact .inl (by simpa using h1)
      · exact .inr (Option.isSome_iff_exists.1 h1)
    · exact allIn_ok h.2 id hi
theorem seenIn_ok {H : Hp} : ∀ {l : List Nat}, seenIn H l = false → ∀ id ∈ l, H.get id = none
  | [], _, id, h => by cases h
  | x :: l, h, id, hi => by
    simp only [seenIn] at h
    cases hg : H.get x with
    | some o => rw [hg] at h; cases h
    | none =>
      rw [hg] at h
      rcases List.mem_cons.1 hi with rfl | hi
      · exact hg
      · exact seenIn_ok h id hi
theorem noneSees_ok {m : Nat} {H : Hp} : ∀ {l : List (Nat × List Nat)}, noneSees m H l = true → ∀ i fo, (i, fo) ∈ l → m.testBit i = false → ∀ id ∈ fo, H.get id = none
  | [], _, i, fo, h, _ => by cases h
  | (j, f) :: l, h, i, fo, hi, hm => by
    have h' : (m.testBit j = false → seenIn H f = false) ∧ noneSees m H l = true := by
      simp only [noneSees] at h
      cases hb : m.testBit j
      · rw [hb] at h
        cases hs : seenIn H f
        · rw [hs] at h; exact ⟨fun _ => rfl, h⟩
        · rw [hs] at h; cases h
      · rw [hb] at h; exact ⟨fun h => (by cases h), h⟩
    rcases List.mem_cons.1 hi with e | hi
    · cases e; exact seenIn_ok (h'.1 hm)
    · exact noneSees_ok h'.2 i fo hi hm
theorem seenByNone_ok {m : Nat} {fo : List Nat} : ∀ {l : List (Nat × Hp)}, seenByNone m fo l = true → ∀ i H, (i, H) ∈ l → m.testBit i = false → ∀ id ∈ fo, H.get id = none
  | [], _, i, H, h, _ => by cases h
  | (j, G) :: l, h, i, H, hi, hm => by
    have h' : (m.testBit j = false → seenIn G fo = false) ∧ seenByNone m fo l = true := by
      simp only [seenByNone] at h
      cases hb : m.testBit j
      · rw [hb] at h
        cases hs : seenIn G fo
        · rw [hs] at h; exact ⟨fun _ => rfl, h⟩
        · rw [hs] at h; cases h
      · rw [hb] at h; exact ⟨fun h => (by cases h), h⟩
    rcases List.mem_cons.1 hi with e | hi
    · cases e; exact seenIn_ok (h'.1 hm)
    · exact seenByNone_ok h'.2 i H hi hm
theorem get_one {H : Hp} {id j : Nat} {o : LO} (h : (one H id).get j = some o) : H.get j = some o := by
  unfold one at h
  cases hg : H.get id with
  | none => rw [hg] at h; simp [Tr.get_l] at h
  | some x =>
    rw [hg] at h
    simp only [Tr.get_set] at h
    by_cases e : j = id
    · subst e; rw [if_pos rfl] at h; rw [hg]; exact h
    · rw [if_neg e] at h; simp [Tr.get_l] at h
theorem scope_ok {T : Tr LV} {S : Nat → Bool} {H : Hp} {ds : List (Nat × Del)} {op : Op} {id : Nat} {o : LO} (h : (scopeOf T S H ds op).get id = some o) : (heapOf S H ds).get id = some o := by
  unfold scopeOf at h
  split at h
  · split at h
    · exact get_one h
    · simp [Tr.get_l] at h
  · split at h
    · exact get_one h
    · simp [Tr.get_l] at h
  · exact h
  · exact h
  · simp [Tr.get_l] at h

/-! ### The run, one operation after the other -/
/-- What one operation's part of the run is. -/
def DStep (P : Program) (call : CallT) (ops : Array Oper) (ms : Tr Nat) (H₀ : Hp) (k : Nat) (o : Oper) (s : S) (g : Log) (s' : S) (g' : Log) : Prop :=
  (want ops s.T o = some false ∧ putT s.T s.N o.dst (.tup []) = some s'.T ∧ s'.N = s.N ∧ s'.nx = s.nx ∧ s'.wr = s.wr ∧ (s'.df = s.df ∧ s'.mx = s.mx) ∧ g' = g) ∨
  (want ops s.T o = some true ∧ ∃ m r, ms.get k = some m ∧ evOp P call s.T (scopeOf s.T m.testBit H₀ g.ds o.op) s.nx o.op = some r ∧ (s.nx ≤ r.o.nx ∧ r.o.nx ≤ r.mx) ∧
    allIn (scopeOf s.T m.testBit H₀ g.ds o.op) s.nx r.o.wr = true ∧ quietWith m (scopeOf s.T m.testBit H₀ g.ds o.op) (below s.nx r.o.wr) g.fs g.hs = true ∧
    putT s.T s.N o.dst r.o.v = some s'.T ∧ s'.N = s.N ∧ s'.nx = r.mx ∧ s'.wr = addW r.o.wr s.wr ∧ (s'.df = s.df ∧ s'.mx = s.mx) ∧
    g' = Log.add k (scopeOf s.T m.testBit H₀ g.ds o.op) (below s.nx r.o.wr) (delta r.o.H (ap' (below s.nx r.o.wr) (rng s.nx (r.o.nx - s.nx)))) g)
theorem evDrawn_cons {call : CallT} {ops : Array Oper} {ms : Tr Nat} {H₀ : Hp} {o : Oper} {rest : List Oper} {k : Nat} {s s'' : S} {g g'' : Log} (h : evDrawn P call ops ms H₀ (o :: rest) k s g = some (s'', g'')) :
    ∃ s' g', DStep P call ops ms H₀ k o s g s' g' ∧ evDrawn P call ops ms H₀ rest (k + 1) s' g' = some (s'', g'') := by
  obtain ⟨T, N, H, nx, wr, df, mx⟩ := s
  obtain ⟨ds, hs, fs⟩ := g
  simp only [evDrawn] at h
  cases hw : want ops T o with
  | none => simp [hw] at h
  | some b =>
    cases b with
    | false =>
      simp only [hw] at h
      cases hp : putT T N o.dst (.tup []) with
      | none => simp [hp] at h
      | some T' =>
        simp only [hp, nN_eq] at h
        exact ⟨⟨T', N, H, nx, wr, df, mx⟩, ⟨ds, hs, fs⟩, .inl ⟨hw, hp, rfl, rfl, rfl, ⟨rfl, rfl⟩, rfl⟩, h⟩
    | true =>
      simp only [hw] at h
      cases hm : ms.get k with
      | none => simp [hm] at h
      | some m =>
        simp only [hm, Tr.force_eq] at h
        cases he : evOp P call T (scopeOf T m.testBit H₀ ds o.op) nx o.op with
        | none => simp [he] at h
        | some r =>
          obtain ⟨⟨v, H', nx', wr'⟩, m'⟩ := r
          simp only [he] at h
          cases hb : (Nat.ble nx nx' && Nat.ble nx' m' && allIn (scopeOf T m.testBit H₀ ds o.op) nx wr' && quietWith m (scopeOf T m.testBit H₀ ds o.op) (below nx wr') fs hs)
          · simp [hb] at h
          · simp only [hb, cond_true] at h
            simp only [Bool.and_eq_true] at hb
            cases hp : putT T N o.dst v with
            | none => simp [hp] at h
            | some T' =>
              simp only [hp, nN_eq] at h
              exact ⟨⟨T', N, H, m', addW wr' wr, df, mx⟩, _, .inr ⟨hw, m, ⟨⟨v, H', nx', wr'⟩, m'⟩, hm, he, ⟨by simpa using hb.1.1.1, by simpa using hb.1.1.2⟩, hb.1.2, hb.2, hp, rfl, rfl, rfl, ⟨rfl, rfl⟩, rfl⟩, h⟩
/-- All of them. -/
theorem drawn_run {call : CallT} {ops : Array Oper} {ms : Tr Nat} {H₀ : Hp} : ∀ {l : List Oper} {k : Nat} {s s'' : S} {g g'' : Log}, evDrawn P call ops ms H₀ l k s g = some (s'', g'') →
    ∃ (σ : Nat → S) (γ : Nat → Log), σ k = s ∧ γ k = g ∧ σ (k + l.length) = s'' ∧ γ (k + l.length) = g'' ∧ ∀ i o, l[i]? = some o → DStep P call ops ms H₀ (k + i) o (σ (k + i)) (γ (k + i)) (σ (k + i + 1)) (γ (k + i + 1))
  | [], k, s, s'', g, g'', h => by
    simp [evDrawn] at h
    obtain ⟨rfl, rfl⟩ := h
    exact ⟨fun _ => s, fun _ => g, rfl, rfl, rfl, rfl, fun i o h => by simp at h⟩
  | o :: l, k, s, s'', g, g'', h => by
    obtain ⟨s', g', hd, h'⟩ := evDrawn_cons h
    obtain ⟨σ, γ, h1, h2, h3, h4, h5⟩ := drawn_run h'
    refine ⟨fun j => if j ≤ k then s else σ j, fun j => if j ≤ k then g else γ j, by simp, by simp, ?_, ?_, fun i x hx => ?_⟩
    · show (if k + (l.length + 1) ≤ k then s else σ (k + (l.length + 1))) = s''
      rw [if_neg (by omega), ← h3]; congr 1; omega
    · show (if k + (l.length + 1) ≤ k then g else γ (k + (l.length + 1))) = g''
      rw [if_neg (by omega), ← h4]; congr 1; omega
    · cases i with
      | zero =>
        simp at hx; subst hx
        simp only [Nat.add_zero, Nat.le_refl, if_true, show ¬ (k + 1 ≤ k) by omega, if_false, h1, h2]
        exact hd
      | succ i =>
        have := h5 i x (by simpa using hx)
        have e : k + (i + 1) = k + 1 + i := by omega
        simp only [e, show ¬ (k + 1 + i ≤ k) by omega, if_false, show ¬ (k + 1 + i + 1 ≤ k) by omega]
        exact this
end Go.Rx
