/-
  What the run of closed code says of the machine: codes. No program.
-/
import Derived.Test.YtohpjhplofimjaaZs
import Derived.RangeFuncNested
set_option linter.unusedSimpArgs false
set_option linter.unusedVariables false
set_option linter.unusedSectionVars false
namespace Go.Rx
open Go
variable {P : Program}

/-! ### A scope through which the run goes without a goto -/
section
variable {F : Fence} {n : Nat} {b : Frame} {a : Act} {k : List Item} {cs : List Frame} {w : World} {Q : Exit → Act → World → Prop}
theorem stepR_scope {c : Code} : step P (lone (b.atR a (.code (.scope c) :: k)) cs w) = .next (lone (b.atR a (.code c :: .inScope c :: k)) cs w) :=
  step_lone_go (by simp [stepG, stepG.exec, Frame.atR])
theorem stepR_inScope {c : Code} : step P (lone (b.atR a (.inScope c :: k)) cs w) = .next (lone (b.atR a k) cs w) :=
  step_lone_go (by simp [stepG, stepG.exec, Frame.atR])
theorem wpIn_scope {c : Code} (h : c.wpIn F n P (Exit.noGoto Q) a w) : (Code.scope c).wpIn F n P Q a w := by
  intro b k cs hro hb hr
  have h0 : (lone (b.atR a (.code (.scope c) :: k)) cs w).fenced P F := fenced_calm hb hr rfl
  obtain ⟨e, a₁, w₁, hq, harr⟩ := h b (.inScope c :: k) cs hro hb hr
  cases e with
  | normal => exact ⟨.normal, a₁, w₁, hq, .head h0 stepR_scope (StepsIn.trans harr (.one (fenced_calm hb hr rfl) stepR_inScope))⟩
  | exit id =>
    have hx : exitTo id (.inScope c :: k) = exitTo id k := by simp [exitTo]
    exact ⟨.exit id, a₁, w₁, hq, fun k' hk => .head h0 stepR_scope (harr.1 k' (by rw [hx]; exact hk)),
      fun hr' hk => let ⟨k₁, h1, h2⟩ := harr.2 hr' (by rw [hx]; exact hk); ⟨k₁, h1, .head h0 stepR_scope h2⟩⟩
  | goto l => exact hq.elim
  | ret => exact ⟨_, a₁, w₁, hq, .of_steps (.one h0 stepR_scope) harr⟩
  | panic ch => exact ⟨_, a₁, w₁, hq, .of_steps (.one h0 stepR_scope) harr⟩
  | outgrown => exact ⟨_, a₁, w₁, hq, .of_steps (.one h0 stepR_scope) harr⟩
end

def Ex.ex : Ex → Exit
  | .normal => .normal
  | .exit id => .exit id
  | .goto l => .goto l
  | .ret => .ret
/-- The round that the code runs in, by name and by block. -/
def RO (R : Ren) : Option Nat → Option Nat → Prop
  | none, rb => rb = none
  | some id, rb => ∃ b c, rb = some b ∧ R id = some (b, c)
theorem RO.mono {R R' : Ren} (h : Le R R') {ro rb : Option Nat} (hr : RO R ro rb) : RO R' ro rb := by
  cases ro with
  | none => exact hr
  | some id => obtain ⟨b, c, h1, h2⟩ := hr; exact ⟨b, c, h1, h _ _ h2⟩

/-! ### Nothing is given back -/
theorem evRegion_up {call : CallT} {ops : Array Oper} {draw : Bool} {s s' : S} {e : Ex} (h : evRegion P call ops draw s = some (e, s')) : e = .normal ∧ Up s s' ∧ (if draw then evDraw P call ops s else evOps P call ops ops.toList s) = some s' := by
  unfold evRegion at h
  cases draw with
  | true =>
    simp only at h
    cases hd : evDraw P call ops s with
    | none => simp [hd] at h
    | some x => simp [hd] at h; obtain ⟨rfl, rfl⟩ := h; exact ⟨rfl, evDraw_up hd, by simp⟩
  | false =>
    simp only at h
    cases hd : evOps P call ops ops.toList s with
    | none => simp [hd] at h
    | some x => simp [hd] at h; obtain ⟨rfl, rfl⟩ := h; exact ⟨rfl, evOps_up hd, by simp⟩
theorem evLoop_up {f : S → Option (Ex × S)} (hf : ∀ s e s', f s = some (e, s') → Up s s') : ∀ {n : Nat} {s s' : S} {e : Ex}, evLoop n f s = some (e, s') → Up s s'
  | 0, _, _, _, h => by cases h
  | n + 1, s, s', e, h => by
    simp only [evLoop] at h
    cases hs : f s with
    | none => simp [hs] at h
    | some q =>
      obtain ⟨e1, s1⟩ := q
      have h1 := hf s e1 s1 hs
      cases e1 <;> simp only [hs] at h
      case normal => exact h1.trans (evLoop_up hf h)
      all_goals (simp at h; obtain ⟨_, rfl⟩ := h; exact h1)
theorem endRange_ok {l nx mx : Nat} {f : Nat → Hp → List Nat → Nat → S} {wr : List Nat} {r : Option Res} {e : Ex} {s' : S} (h : endRange l nx f wr mx r = some (e, s')) :
    ∃ r' st pend N T ps as body d, r = some r' ∧ r'.o.H.get l = some (.loop st pend N T ps as body d) ∧ (nx ≤ r'.o.nx ∧ r'.o.nx ≤ r'.mx) ∧ st ≠ .busy ∧ jump pend = some e ∧ s' = f r'.o.nx (r'.o.H.set l (some (.loop .exhausted pend N T ps as body d))) (addW [l] (addW r'.o.wr wr)) (more' mx r'.mx) := by
  cases r with
  | none => cases h
  | some r' =>
    obtain ⟨⟨v, H, nx', wr'⟩, m⟩ := r'
    simp only [endRange] at h
    cases hg : H.get l with
    | none => simp [hg] at h
    | some o =>
      cases o <;> simp only [hg] at h <;> try cases h
      rename_i st pend N T ps as body d
      cases hb : (Nat.ble nx nx' && Nat.ble nx' m && notBusy st)
      · simp [hb] at h
      · simp only [hb, cond_true] at h
        simp only [Bool.and_eq_true] at hb
        cases hj : jump pend with
        | none => simp [hj] at h
        | some e' =>
          simp only [hj, Tr.force_eq, nN_eq] at h
          cases hl : addW [l] (addW wr' wr) with
          | nil => simp [hl] at h
          | cons x w =>
            simp [hl] at h
            obtain ⟨rfl, rfl⟩ := h
            exact ⟨⟨⟨v, H, nx', wr'⟩, m⟩, st, pend, N, T, ps, as, body, d, rfl, hg, ⟨by simpa using hb.1.1, by simpa using hb.1.2⟩, (fun e => by rw [e] at hb; exact absurd hb.2 (by simp [notBusy])), hj, by simp [hl]⟩
theorem evRange_up {call : CallT} {ro : Option Nat} {f : Operand} {ps : Array Tmp} {as body : Code} {s s' : S} {e : Ex} (h : evRange call ro f ps as body s = some (e, s')) : Up s s' := by
  obtain ⟨T, N, H, d, wr, df, mx⟩ := s
  simp only [evRange] at h
  split at h
  · split at h
    · simp only [nN_eq, Tr.force_eq] at h
      obtain ⟨r', st, pend, N', T', ps', as', body', d', _, _, hle, _, _, rfl⟩ := endRange_ok h
      exact ⟨(more'_le _ _).1, by have := hle.1; dsimp only; omega, rfl, fun id hi => mem_addW.2 (.inr (mem_addW.2 (.inr hi)))⟩
    · split at h
      · simp only [nN_eq, Tr.force_eq] at h
        obtain ⟨r', st, pend, N', T', ps', as', body', d', _, _, hle, _, _, rfl⟩ := endRange_ok h
        exact ⟨(more'_le _ _).1, by have := hle.1; dsimp only; omega, rfl, fun id hi => mem_addW.2 (.inr (mem_addW.2 (.inr hi)))⟩
      · cases h
  · cases h
theorem evC_up {call : CallT} {ro : Option Nat} {L : Nat} : ∀ {c : Code} {s s' : S} {e : Ex}, evC P call ro L c s = some (e, s') → Up s s'
  | .skip, s, s', e, h => by simp [evC] at h; obtain ⟨_, rfl⟩ := h; exact Up.refl s
  | .region _ ops draw, s, s', e, h => (evRegion_up (by simpa only [evC] using h)).2.1
  | .seq x y, s, s', e, h => by
    simp only [evC] at h
    cases hx : evC P call ro L x s with
    | none => simp [hx] at h
    | some q =>
      obtain ⟨e1, s1⟩ := q
      have h1 := evC_up hx
      cases e1 <;> simp only [hx] at h
      case normal => exact h1.trans (evC_up h)
      all_goals (simp at h; obtain ⟨_, rfl⟩ := h; exact h1)
  | .cond c x y, s, s', e, h => by
    simp only [evC] at h
    split at h
    · exact evC_up h
    · exact evC_up h
    · cases h
  | .block id c, s, s', e, h => by
    simp only [evC] at h
    cases hx : evC P call ro L c s with
    | none => simp [hx] at h
    | some q =>
      obtain ⟨e1, s1⟩ := q
      have h1 := evC_up hx
      cases e1 <;> simp only [hx] at h
      case exit j =>
        cases hb : Nat.beq j id <;> simp [hb] at h <;> obtain ⟨_, rfl⟩ := h <;> exact h1
      all_goals (simp at h; obtain ⟨_, rfl⟩ := h; exact h1)
  | .loop c, s, s', e, h => by
    simp only [evC] at h
    exact evLoop_up (fun s e s' h => evC_up h) h
  | .rangeFunc f ps as body, s, s', e, h => evRange_up (by simpa only [evC] using h)
  | .exit id, s, s', e, h => by simp [evC] at h; obtain ⟨_, rfl⟩ := h; exact Up.refl s
  | .scope c, s, s', e, h => by
    simp only [evC] at h
    cases hx : evC P call ro L c s with
    | none => simp [hx] at h
    | some q =>
      obtain ⟨e1, s1⟩ := q
      have h1 := evC_up hx
      cases e1 <;> simp only [hx] at h <;> try cases h
      all_goals exact h1
  | .label l, s, s', e, h => by simp [evC] at h; obtain ⟨_, rfl⟩ := h; exact Up.refl s
  | .goto l, s, s', e, h => by simp [evC] at h; obtain ⟨_, rfl⟩ := h; exact Up.refl s
  | .ret, s, s', e, h => by simp [evC] at h; obtain ⟨_, rfl⟩ := h; exact Up.refl s
  | .refuse why, s, s', e, h => by simp [evC] at h
end Go.Rx
