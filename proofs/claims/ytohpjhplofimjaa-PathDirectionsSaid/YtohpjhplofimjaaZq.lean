/-
  A region that draws its order: what was found, by numbers of operations. No program.
-/
import Derived.Test.YtohpjhplofimjaaZp
set_option linter.unusedSimpArgs false
set_option linter.unusedVariables false
set_option linter.unusedSectionVars false
namespace Go.Rx
open Go
variable {P : Program}

/-- What an operation has changed. -/
noncomputable def Dl (on : Nat → Bool) (r : Nat → Out) (lo : Nat → Nat) (k : Nat) : Del := if on k then delta (r k).H (ap' (below (lo k) (r k).wr) (rng (lo k) ((r k).nx - lo k))) else []
/-- Memory behind those of the first operations that S names. -/
noncomputable def cont (H₀ : Hp) (on : Nat → Bool) (r : Nat → Out) (lo : Nat → Nat) (S : Nat → Bool) : Nat → Hp
  | 0 => H₀
  | k + 1 => if S k then applyD (cont H₀ on r lo S k) (Dl on r lo k) else cont H₀ on r lo S k
structure Found (P : Program) (call : CallT) (ops : Array Oper) (ms : Tr Nat) (H₀ : Hp) (N : Nat) (τ : Nat → Tr LV) (lo : Nat → Nat) (on : Nat → Bool) (Hk : Nat → Hp) (r : Nat → Out) : Prop where
  want_ : ∀ k o, ops[k]? = some o → want ops (τ k) o = some (on k)
  put_ : ∀ k o, ops[k]? = some o → putT (τ k) N o.dst (if on k then (r k).v else .tup []) = some (τ (k + 1))
  off : ∀ k, k < ops.size → on k = false → lo (k + 1) = lo k
  run : ∀ k o, ops[k]? = some o → on k = true → evOp P call (τ k) (Hk k) (lo k) o.op = some ⟨r k, lo (k + 1)⟩
  top : ∀ k, k < ops.size → on k = true → lo k ≤ (r k).nx ∧ (r k).nx ≤ lo (k + 1)
  mono : ∀ k, k < ops.size → lo k ≤ lo (k + 1)
  inn : ∀ k, k < ops.size → on k = true → ∀ id ∈ (r k).wr, lo k ≤ id ∨ ∃ o, (Hk k).get id = some o
  sub : ∀ k, k < ops.size → on k = true → ∀ id o, (Hk k).get id = some o → (cont H₀ on r lo (dep ms k) k).get id = some o
  quiet : ∀ k i, k < ops.size → i < k → on k = true → on i = true → dep ms k i = false → (∀ id ∈ (r i).wr, id < lo i → (Hk k).get id = none) ∧ (∀ id ∈ (r k).wr, id < lo k → (Hk i).get id = none)
theorem log_add (k : Nat) (H : Hp) (fo : List Nat) (D : Del) (g : Log) :
    (∀ S H₀, heapOf S H₀ (Log.add k H fo D g).ds = if S k then applyD (heapOf S H₀ g.ds) D else heapOf S H₀ g.ds) ∧ (H = .l ∨ (k, H) ∈ (Log.add k H fo D g).hs) ∧ (fo = [] ∨ (k, fo) ∈ (Log.add k H fo D g).fs) ∧
    (∀ x ∈ g.hs, x ∈ (Log.add k H fo D g).hs) ∧ (∀ x ∈ g.fs, x ∈ (Log.add k H fo D g).fs) := by
  obtain ⟨ds, hs, fs⟩ := g
  refine ⟨fun S H₀ => ?_, ?_, ?_, ?_, ?_⟩
  · cases D with
    | nil => simp [Log.add, applyD]
    | cons x l =>
      show heapOf S H₀ ((k, x :: l) :: ds) = _
      simp only [heapOf]
      cases S k <;> simp
  · cases H with
    | l => exact .inl rfl
    | n v a b => exact .inr (by simp [Log.add])
  · cases fo with
    | nil => exact .inl rfl
    | cons x l => exact .inr (by simp [Log.add])
  · intro x hx; cases H <;> simp [Log.add] <;> simp_all
  · intro x hx; cases fo <;> simp [Log.add] <;> simp_all
theorem found_of {call : CallT} {ops : Array Oper} {ms : Tr Nat} {H₀ : Hp} {s s'' : S} {g'' : Log} (hord : Order ops ms) (h : evDrawn P call ops ms H₀ ops.toList 0 s ⟨[], [], []⟩ = some (s'', g'')) :
    ∃ (τ : Nat → Tr LV) (lo : Nat → Nat) (on : Nat → Bool) (Hk : Nat → Hp) (r : Nat → Out), Found P call ops ms H₀ s.N τ lo on Hk r ∧ τ 0 = s.T ∧ lo 0 = s.nx ∧ τ ops.size = s''.T ∧ lo ops.size = s''.nx ∧ s''.N = s.N ∧ (s''.df = s.df ∧ s''.mx = s.mx) ∧
      (∀ id ∈ s.wr, id ∈ s''.wr) ∧ (∀ k, k < ops.size → on k = true → ∀ id ∈ (r k).wr, id ∈ s''.wr) ∧ heapOf (fun _ => true) H₀ g''.ds = cont H₀ on r lo (fun _ => true) ops.size := by
  obtain ⟨σ, γ, h1, h2, h3, h4, h5⟩ := drawn_run h
  simp only [Nat.zero_add, Array.length_toList] at h3 h4 h5
  have hex : ∀ k, ∃ x : Bool × Hp × Res × Nat, ∀ o, ops[k]? = some o →
      (x.1 = false ∧ want ops (σ k).T o = some false ∧ putT (σ k).T (σ k).N o.dst (.tup []) = some (σ (k + 1)).T ∧ (σ (k + 1)).N = (σ k).N ∧ (σ (k + 1)).nx = (σ k).nx ∧ (σ (k + 1)).wr = (σ k).wr ∧ ((σ (k + 1)).df = (σ k).df ∧ (σ (k + 1)).mx = (σ k).mx) ∧ γ (k + 1) = γ k) ∨
      (x.1 = true ∧ want ops (σ k).T o = some true ∧ ms.get k = some x.2.2.2 ∧ x.2.1 = scopeOf (σ k).T x.2.2.2.testBit H₀ (γ k).ds o.op ∧ evOp P call (σ k).T x.2.1 (σ k).nx o.op = some x.2.2.1 ∧ ((σ k).nx ≤ x.2.2.1.o.nx ∧ x.2.2.1.o.nx ≤ x.2.2.1.mx) ∧
        allIn x.2.1 (σ k).nx x.2.2.1.o.wr = true ∧ quietWith x.2.2.2 x.2.1 (below (σ k).nx x.2.2.1.o.wr) (γ k).fs (γ k).hs = true ∧
        putT (σ k).T (σ k).N o.dst x.2.2.1.o.v = some (σ (k + 1)).T ∧ (σ (k + 1)).N = (σ k).N ∧ (σ (k + 1)).nx = x.2.2.1.mx ∧ (σ (k + 1)).wr = addW x.2.2.1.o.wr (σ k).wr ∧ ((σ (k + 1)).df = (σ k).df ∧ (σ (k + 1)).mx = (σ k).mx) ∧
        γ (k + 1) = Log.add k x.2.1 (below (σ k).nx x.2.2.1.o.wr) (delta x.2.2.1.o.H (ap' (below (σ k).nx x.2.2.1.o.wr) (rng (σ k).nx (x.2.2.1.o.nx - (σ k).nx)))) (γ k)) := fun k => by
    cases ho : ops[k]? with
    | none => exact ⟨(false, .l, ⟨⟨.nilp, .l, 0, []⟩, 0⟩, 0), fun o h => by cases h⟩
    | some o =>
      rcases h5 k o (by simpa using ho) with ⟨a1, a2, a3, a4, a5, a6, a7⟩ | ⟨a1, m, r, b1, b2, b3, b4, b5, b6, b7, b8, b9, b10, b11⟩
      · exact ⟨(false, .l, ⟨⟨.nilp, .l, 0, []⟩, 0⟩, 0), fun o' h => by cases h; exact .inl ⟨rfl, a1, a2, a3, a4, a5, a6, a7⟩⟩
      · exact ⟨(true, _, r, m), fun o' h => by cases h; exact .inr ⟨rfl, a1, b1, rfl, b2, b3, b4, b5, b6, b7, b8, b9, b10, b11⟩⟩
  obtain ⟨f, hf⟩ := Classical.axiomOfChoice hex
  have ex : ∀ {k}, k < ops.size → ∃ o, ops[k]? = some o := fun {k} hk => ⟨ops[k], by simp [hk]⟩
  have hN : ∀ k, k ≤ ops.size → (σ k).N = s.N := fun k => by
    induction k with
    | zero => intro _; rw [h1]
    | succ k ih =>
      intro hk
      obtain ⟨o, ho⟩ := ex (show k < ops.size by omega)
      rcases hf k o ho with ⟨_, _, _, e, _⟩ | ⟨_, _, _, _, _, _, _, _, _, e, _⟩ <;> rw [e, ih (by omega)]
  have hdf : ∀ k, k ≤ ops.size → (σ k).df = s.df ∧ (σ k).mx = s.mx := fun k => by
    induction k with
    | zero => intro _; rw [h1]; exact ⟨rfl, rfl⟩
    | succ k ih =>
      intro hk
      obtain ⟨o, ho⟩ := ex (show k < ops.size by omega)
      obtain ⟨i1, i2⟩ := ih (by omega)
      rcases hf k o ho with ⟨_, _, _, _, _, _, e, _⟩ | ⟨_, _, _, _, _, _, _, _, _, _, _, _, e, _⟩ <;> rw [e.1, e.2, i1, i2] <;> exact ⟨rfl, rfl⟩
  have hwr : ∀ j k, k ≤ ops.size → j ≤ k → ∀ id ∈ (σ j).wr, id ∈ (σ k).wr := fun j k => by
    induction k with
    | zero => intro _ hj id hi; rwa [show j = 0 by omega] at hi
    | succ k ih =>
      intro hk hj id hi
      by_cases e : j = k + 1
      · rw [← e]; exact hi
      · obtain ⟨o, ho⟩ := ex (show k < ops.size by omega)
        have := ih (by omega) (by omega) id hi
        rcases hf k o ho with ⟨_, _, _, _, _, e, _⟩ | ⟨_, _, _, _, _, _, _, _, _, _, _, e, _⟩
        · rw [e]; exact this
        · rw [e]; exact mem_addW.2 (.inr this)
  have hlog : ∀ k, k ≤ ops.size → (∀ S, heapOf S H₀ (γ k).ds = cont H₀ (fun k => (f k).1) (fun k => (f k).2.2.1.o) (fun k => (σ k).nx) S k) ∧
      (∀ i, i < k → (f i).1 = true → (f i).2.1 = .l ∨ (i, (f i).2.1) ∈ (γ k).hs) ∧ (∀ i, i < k → (f i).1 = true → below (σ i).nx (f i).2.2.1.o.wr = [] ∨ (i, below (σ i).nx (f i).2.2.1.o.wr) ∈ (γ k).fs) := fun k => by
    induction k with
    | zero => intro _; rw [h2]; exact ⟨fun S => rfl, fun i h => by omega, fun i h => by omega⟩
    | succ k ih =>
      intro hk
      obtain ⟨i1, i2, i3⟩ := ih (by omega)
      obtain ⟨o, ho⟩ := ex (show k < ops.size by omega)
      rcases hf k o ho with ⟨e1, _, _, _, _, _, _, eg⟩ | ⟨e1, _, _, _, _, _, _, _, _, _, en, _, _, eg⟩
      · rw [eg]
        refine ⟨fun S => ?_, fun i hi hon => ?_, fun i hi hon => ?_⟩
        · rw [i1, cont, Dl]; simp [e1, applyD]
        · by_cases e : i = k
          · subst e; exact absurd (e1.symm.trans hon) (by simp)
          · exact i2 i (by omega) hon
        · by_cases e : i = k
          · subst e; exact absurd (e1.symm.trans hon) (by simp)
          · exact i3 i (by omega) hon
      · obtain ⟨g1, g2, g3, g4, g5⟩ := log_add k (f k).2.1 (below (σ k).nx (f k).2.2.1.o.wr) (delta (f k).2.2.1.o.H (ap' (below (σ k).nx (f k).2.2.1.o.wr) (rng (σ k).nx ((f k).2.2.1.o.nx - (σ k).nx)))) (γ k)
        rw [← eg] at g1 g2 g3 g4 g5
        refine ⟨fun S => ?_, fun i hi hon => ?_, fun i hi hon => ?_⟩
        · rw [g1, i1, cont, Dl]; simp only [e1, if_true]
        · by_cases e : i = k
          · subst e; exact g2
          · exact (i2 i (by omega) hon).imp_right (g4 _)
        · by_cases e : i = k
          · subst e; exact g3
          · exact (i3 i (by omega) hon).imp_right (g5 _)
  refine ⟨fun k => (σ k).T, fun k => (σ k).nx, fun k => (f k).1, fun k => (f k).2.1, fun k => (f k).2.2.1.o, ⟨fun k o ho => ?_, fun k o ho => ?_, fun k hk hon => ?_, fun k o ho hon => ?_, fun k hk hon => ?_, fun k hk => ?_, fun k hk hon => ?_, fun k hk hon => ?_, fun k i hk hik hon honi hd => ?_⟩,
    congrArg S.T h1, congrArg S.nx h1, congrArg S.T h3, congrArg S.nx h3, by rw [← h3]; exact hN _ (Nat.le_refl _), by rw [← h3]; exact hdf _ (Nat.le_refl _), ?_, fun k hk hon => ?_, ?_⟩
  · rcases hf k o ho with ⟨e1, e2, _⟩ | ⟨e1, e2, _⟩ <;> rw [e2, e1]
  · have hk : k < ops.size := (Array.getElem?_eq_some_iff.1 ho).1
    rcases hf k o ho with ⟨e1, _, e3, _⟩ | ⟨e1, _, _, _, _, _, _, _, e3, _⟩
    · simp only [e1]; rw [hN k (by omega)] at e3; exact e3
    · simp only [e1]; rw [hN k (by omega)] at e3; exact e3
  · obtain ⟨o, ho⟩ := ex hk
    rcases hf k o ho with ⟨_, _, _, _, e, _⟩ | ⟨e1, _⟩
    · exact e
    · exact absurd (e1.symm.trans hon) (by simp)
  · rcases hf k o ho with ⟨e1, _⟩ | ⟨_, _, _, _, e, _, _, _, _, _, en, _⟩
    · exact absurd (e1.symm.trans hon) (by simp)
    · show evOp P call (σ k).T (f k).2.1 (σ k).nx o.op = some ⟨(f k).2.2.1.o, (σ (k + 1)).nx⟩
      rw [en]; exact e
  · obtain ⟨o, ho⟩ := ex hk
    rcases hf k o ho with ⟨e1, _⟩ | ⟨_, _, _, _, _, hle, _, _, _, _, en, _⟩
    · exact absurd (e1.symm.trans hon) (by simp)
    · show (σ k).nx ≤ (f k).2.2.1.o.nx ∧ (f k).2.2.1.o.nx ≤ (σ (k + 1)).nx
      rw [en]; exact hle
  · obtain ⟨o, ho⟩ := ex hk
    rcases hf k o ho with ⟨_, _, _, _, e, _⟩ | ⟨_, _, _, _, _, hle, _, _, _, _, en, _⟩
    · simp only [e]; exact Nat.le_refl _
    · simp only [en]; exact Nat.le_trans hle.1 hle.2
  · obtain ⟨o, ho⟩ := ex hk
    rcases hf k o ho with ⟨e1, _⟩ | ⟨_, _, _, _, _, _, ha, _⟩
    · exact absurd (e1.symm.trans hon) (by simp)
    · exact allIn_ok ha
  · obtain ⟨o, ho⟩ := ex hk
    rcases hf k o ho with ⟨e1, _⟩ | ⟨_, _, em, eH, _⟩
    · exact absurd (e1.symm.trans hon) (by simp)
    · intro id ob hg
      have e : dep ms k = (f k).2.2.2.testBit := by funext i; simp [dep, em]
      rw [e, ← (hlog k (by omega)).1]
      simp only [eH] at hg
      exact scope_ok hg
  · obtain ⟨o, ho⟩ := ex hk
    rcases hf k o ho with ⟨e1, _⟩ | ⟨_, _, em, eH, _, _, _, hq, _⟩
    · exact absurd (e1.symm.trans hon) (by simp)
    · have hm : (f k).2.2.2.testBit i = false := by simpa [dep, em] using hd
      obtain ⟨_, i2, i3⟩ := hlog k (by omega)
      simp only [quietWith, Bool.and_eq_true] at hq
      refine ⟨fun id hi hlt => ?_, fun id hi hlt => ?_⟩
      · have hmem : id ∈ below (σ i).nx (f i).2.2.1.o.wr := mem_below.2 ⟨hi, hlt⟩
        rcases i3 i hik honi with e | hin
        · rw [e] at hmem; cases hmem
        · exact noneSees_ok hq.1 i _ hin hm id hmem
      · have hmem : id ∈ below (σ k).nx (f k).2.2.1.o.wr := mem_below.2 ⟨hi, hlt⟩
        rcases i2 i hik honi with e | hin
        · simp only [e]; exact Tr.get_l _
        · have hq2 : seenByNone (f k).2.2.2 (below (σ k).nx (f k).2.2.1.o.wr) (γ k).hs = true := by
            have := hq.2
            cases hbl : below (σ k).nx (f k).2.2.1.o.wr with
            | nil => rw [hbl] at hmem; cases hmem
            | cons x l => rw [hbl] at this; exact this
          exact seenByNone_ok hq2 i _ hin hm id hmem
  · rw [← h3, ← h1]; exact hwr 0 ops.size (Nat.le_refl _) (Nat.zero_le _)
  · obtain ⟨o, ho⟩ := ex hk
    intro id hi
    rw [← h3]
    refine hwr (k + 1) ops.size (Nat.le_refl _) (by omega) id ?_
    rcases hf k o ho with ⟨e1, _⟩ | ⟨_, _, _, _, _, _, _, _, _, _, _, ew, _⟩
    · exact absurd (e1.symm.trans hon) (by simp)
    · rw [ew]; exact mem_addW.2 (.inl hi)
  · rw [← h4]; exact (hlog ops.size (Nat.le_refl _)).1 _
end Go.Rx
