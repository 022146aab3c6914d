/-
  A symbolic run: loops that are told of, by function and path. No program.
-/
import Derived.Test.YtohpjhplofimjaaYm
set_option linter.unusedSimpArgs false
set_option linter.unusedVariables false
set_option linter.unusedSectionVars false
namespace Go.Rx
open Go
variable {fs : Fs} {ov : Bool} {ν : Nm} {P : Program} {W : Nat → Prop}

theorem samePath_ok : ∀ {p q : List Bool}, samePath p q = true → p = q
  | [], [], _ => rfl
  | x :: p, y :: q, h => by
    simp only [samePath, Bool.and_eq_true] at h
    rw [samePath_ok h.2]
    have := h.1
    cases x <;> cases y <;> simp at this ⊢
  | [], _ :: _, h => by simp [samePath] at h
  | _ :: _, [], h => by simp [samePath] at h
/-- A loop that is told of comes to its end as is told. -/
def LoopOK (P : Program) (aw d g : Nat) (p : List Bool) (f : Code → SS (stdA fs ov) → (Ex → SS (stdA fs ov) → Prop) → Prop) : Prop := ∀ m, d ≤ m → ∀ fn c0, P.funcs[g]? = some fn → fn.body = some c0 → ∀ c ro, codeAt c0 p = some (.loop c) → ∀ s K W ν S, f c s K → Sim W ν s S → GoC W ν s S K (evLoop LL (fun s => evC P (CN P aw m) ro LL c s) S)
theorem lpOf_ok {aw d : Nat} : ∀ {l : LpL (stdA fs ov)}, (∀ x ∈ l, LoopOK P aw d x.1 x.2.1 x.2.2) → LoopsAll P aw d (lpOf l)
  | [], _ => fun _ _ _ _ _ _ _ p f h => by cases h
  | (g', p', f') :: l, hl => fun m hm g fn c h1 h2 p f h => by
    simp only [lpOf] at h
    cases hb : (Nat.beq g g' && samePath p p')
    · simp only [hb, cond_false] at h
      exact lpOf_ok (fun x hx => hl x (List.mem_cons_of_mem _ hx)) m hm g fn c h1 h2 p f h
    · simp only [hb, cond_true, Option.some.injEq] at h
      simp only [Bool.and_eq_true, beq_iff] at hb
      obtain ⟨rfl, hp⟩ := hb
      obtain rfl := samePath_ok hp
      subst h
      exact hl _ List.mem_cons_self m hm fn c h1 h2
theorem body_of {g : Nat} {p : List Bool} {fn : Func} {c0 c : Code} (h1 : P.funcs[g]? = some fn) (h2 : fn.body = some c0) (h3 : codeAt c0 p = some (.loop c)) : bodyAt P g p = c := by
  simp only [bodyAt, h1, h2, h3]
/-- What is known of a state may be laid on its head. -/
theorem sim_push {s : SS (stdA fs ov)} {S : Rx.S} (hs : Sim W ν s S) {kt : List (Nat × SV (stdA fs ov))} {kr : List (Nat × SO (stdA fs ov))} (h1 : ∀ x ∈ kt, s.T.get x.1 = some x.2) (h2 : ∀ x ∈ kr, s.H.get x.1 = some x.2) : Sim W ν ⟨push kt s.T, s.N, push kr s.H, s.nx, s.wr⟩ S := by
  have g1 : ∀ {t v}, (push kt s.T).get t = some v → s.T.get t = some v := fun h => by
    rcases get_push _ h with h | h
    · exact h1 _ h
    · exact h.2
  have g2 : ∀ {id so}, (push kr s.H).get id = some so → s.H.get id = some so := fun h => by
    rcases get_push _ h with h | h
    · exact h2 _ h
    · exact h.2
  exact ⟨hs.N, ⟨fun t v hv => hs.T.at_ t v (g1 hv)⟩, ⟨fun id so hg => hs.H.at_ id so (g2 hg), hs.H.lt, fun id id' r o o' so hg => hs.H.inj id id' r o o' so (g2 hg)⟩, hs.mx, hs.wr, hs.wup⟩
theorem goC_push {s : SS (stdA fs ov)} {S : Rx.S} {K : Ex → SS (stdA fs ov) → Prop} {x : Option (Ex × Rx.S)} {kt : List (Nat × SV (stdA fs ov))} {kr : List (Nat × SO (stdA fs ov))} (h : GoC W ν (⟨push kt s.T, s.N, push kr s.H, s.nx, s.wr⟩ : SS (stdA fs ov)) S K x) : GoC W ν s S K x := GoC.know (s := s) (s' := ⟨push kt s.T, s.N, push kr s.H, s.nx, s.wr⟩) ⟨rfl, rfl⟩ h
end Go.Rx
