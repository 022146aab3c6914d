/-
  What the run of closed code says of the machine: every operation that does not look at memory. No program.
-/
import Derived.Test.YtohpjhplofimjaaZf
set_option linter.unusedSimpArgs false
set_option linter.unusedVariables false
set_option linter.unusedSectionVars false
namespace Go.Rx
open Go
variable {P : Program} {R : Ren} {N : Nat} {T : Tr LV} {a : Act}

theorem VR.gs_slice {id off el len : Nat} {b c : Nat} (hr : R id = some (b, c)) (h : el + len ≤ c) : VR R (.gs id off el len) (.slice (some ⟨b, off, none⟩) len (c - el)) := ⟨b, c, hr, h, rfl⟩
theorem evSlice_ok (hF : FR R N T a.tmps) {t : TypeId} {x lv : LV} {v : Value} {lo hi mx : Option Operand} (h : evSlice P T t x lo hi mx = some lv) (hv : VR R x v) :
    ∃ u, VR R lv u ∧ ∀ w, (Instr.sliceAt t v (lo.map a.eval) (hi.map a.eval) (mx.map a.eval)).run P w = .ok u w := by
  unfold evSlice at h
  cases hu : P.underlying t with
  | none => simp [hu] at h
  | some d =>
    cases d <;> simp only [hu] at h <;> try cases h
    case slice e =>
      cases hs : szOf P e with
      | none => simp [hs] at h
      | some z =>
        simp only [hs] at h
        cases x <;> simp only at h <;> try cases h
        case nils =>
          cases hb : bnds T 0 0 lo hi mx with
          | none => simp [hb] at h
          | some r =>
            obtain ⟨l, hh, m⟩ := r
            simp [hb] at h; subst h
            obtain ⟨h1, h2, h0, h3, h4⟩ := bnds_ok (P := P) hF (isS := true) hb (Nat.le_refl _)
            have h5 : m = 0 := by omega
            refine ⟨.slice none 0 0, rfl, fun w => ?_⟩
            rw [show v = .slice none 0 0 from hv]
            have h6 := h4 0 w (Nat.le_refl _)
            have : l = 0 := by omega
            have : hh = 0 := by omega
            subst l hh m
            simp only [Instr.sliceAt, Sem.run_bind, run_underlying hu, Result.andThen_ok, Instr.slice, h6, run_sizeOf' hs]
            cases mx <;> simp
        case sl id off len cap =>
          cases hlc : Nat.ble len cap
          · simp [hlc] at h
          · have hle : len ≤ cap := by simpa using hlc
            simp only [hlc, cond_true] at h
            cases hb : bnds T len cap lo hi mx with
            | none => simp [hb] at h
            | some r =>
              obtain ⟨l, hh, m⟩ := r
              simp only [hb] at h
              obtain ⟨h1, h2, h0, h3, h4⟩ := bnds_ok (P := P) hF (isS := true) hb hle
              obtain ⟨b, c, hr, rfl⟩ := hv
              have hm : ∀ w, (Instr.sliceBounds true len cap (lo.map a.eval) (hi.map a.eval) (mx.map a.eval)).run P w = .ok (l, hh, m) w := fun w => by
                rw [h4 cap w (Nat.le_refl _)]
                cases mx with
                | none => rw [h3 rfl]; rfl
                | some y => rfl
              cases hml : Nat.beq m l
              · have hml' : m ≠ l := (beq_false _ _).1 hml
                simp [nN_eq, hml] at h; subst h
                refine ⟨_, ⟨b, c, hr, rfl⟩, fun w => ?_⟩
                simp [Instr.sliceAt, run_underlying hu, Instr.slice, hm, run_sizeOf' hs, hml', add_eq]
              · have hml' : m = l := (beq_iff _ _).1 hml
                subst hml'
                simp [nN_eq, hml] at h; subst h
                refine ⟨_, ⟨b, c, hr, rfl⟩, fun w => ?_⟩
                simp [Instr.sliceAt, run_underlying hu, Instr.slice, hm, run_sizeOf' hs]
        case gs id off el len =>
          obtain ⟨b, c, hr, hle, rfl⟩ := hv
          cases mx with
          | none =>
            simp only at h
            cases hb : bnds T len len lo hi none with
            | none => simp [hb] at h
            | some r =>
              obtain ⟨l, hh, m⟩ := r
              simp only [hb] at h
              obtain ⟨h1, h2, h0, h3, h4⟩ := bnds_ok (P := P) hF (isS := true) hb (Nat.le_refl _)
              have hm : ∀ w, (Instr.sliceBounds true len (c - el) (lo.map a.eval) (hi.map a.eval) none).run P w = .ok (l, hh, c - el) w := fun w => by
                have := h4 (c - el) w (by omega)
                simpa using this
              have h3' := h3 rfl
              cases hl0 : Nat.beq l 0
              · have hl0' : l ≠ 0 := (beq_false _ _).1 hl0
                simp only [hl0, cond_false] at h
                cases hlt : Nat.blt l len
                · simp [hlt] at h
                · have hlt' : l < len := by simpa using hlt
                  simp [hlt, nN_eq] at h; subst h
                  have hne : ¬ (c - el = l) := by omega
                  have e1 : c - el - l = c - (el + l) := by omega
                  refine ⟨_, ⟨b, c, hr, by omega, rfl⟩, fun w => ?_⟩
                  simp [Instr.sliceAt, run_underlying hu, Instr.slice, hm, run_sizeOf' hs, hne, add_eq, e1]
              · have hl0' : l = 0 := (beq_iff _ _).1 hl0
                subst hl0'
                simp [hl0, nN_eq] at h; subst h
                refine ⟨_, ⟨b, c, hr, by omega, rfl⟩, fun w => ?_⟩
                simp [Instr.sliceAt, run_underlying hu, Instr.slice, hm, run_sizeOf' hs, add_eq]
          | some y =>
            simp only at h
            cases hb : bnds T len len lo hi (some y) with
            | none => simp [hb] at h
            | some r =>
              obtain ⟨l, hh, m⟩ := r
              simp only [hb] at h
              obtain ⟨h1, h2, h0, h3, h4⟩ := bnds_ok (P := P) hF (isS := true) hb (Nat.le_refl _)
              have hm : ∀ w, (Instr.sliceBounds true len (c - el) (lo.map a.eval) (hi.map a.eval) (some (a.eval y))).run P w = .ok (l, hh, m) w := fun w => by
                have := h4 (c - el) w (by omega)
                simpa using this
              cases hml : Nat.beq m l
              · have hml' : m ≠ l := (beq_false _ _).1 hml
                simp [nN_eq, hml] at h; subst h
                refine ⟨_, ⟨b, c, hr, rfl⟩, fun w => ?_⟩
                simp [Instr.sliceAt, run_underlying hu, Instr.slice, hm, run_sizeOf' hs, hml', add_eq]
              · have hml' : m = l := (beq_iff _ _).1 hml
                subst hml'
                simp [nN_eq, hml] at h; subst h
                refine ⟨_, ⟨b, c, hr, rfl⟩, fun w => ?_⟩
                simp [Instr.sliceAt, run_underlying hu, Instr.slice, hm, run_sizeOf' hs]
    case array n e =>
      cases hs : szOf P e with
      | none => simp [hs] at h
      | some z =>
        simp only [hs] at h
        cases x <;> simp only at h <;> try cases h
        case p id off =>
          cases hb : bnds T n n lo hi mx with
          | none => simp [hb] at h
          | some r =>
            obtain ⟨l, hh, m⟩ := r
            simp only [hb] at h
            obtain ⟨h1, h2, h0, h3, h4⟩ := bnds_ok (P := P) hF (isS := false) hb (Nat.le_refl _)
            obtain ⟨b, c, hr, rfl⟩ := hv
            have hm : ∀ w, (Instr.sliceBounds false n n (lo.map a.eval) (hi.map a.eval) (mx.map a.eval)).run P w = .ok (l, hh, m) w := fun w => by
              rw [h4 n w (Nat.le_refl _)]
              cases mx with
              | none => rw [h3 rfl]; rfl
              | some y => rfl
            cases hml : Nat.beq m l
            · have hml' : m ≠ l := (beq_false _ _).1 hml
              simp [nN_eq, hml] at h; subst h
              refine ⟨_, ⟨b, c, hr, rfl⟩, fun w => ?_⟩
              simp [Instr.sliceAt, Instr.sureAddr, run_underlying hu, hm, run_sizeOf' hs, hml', add_eq]
            · have hml' : m = l := (beq_iff _ _).1 hml
              subst hml'
              simp [nN_eq, hml] at h; subst h
              refine ⟨_, ⟨b, c, hr, rfl⟩, fun w => ?_⟩
              simp [Instr.sliceAt, Instr.sureAddr, run_underlying hu, hm, run_sizeOf' hs]
end Go.Rx
