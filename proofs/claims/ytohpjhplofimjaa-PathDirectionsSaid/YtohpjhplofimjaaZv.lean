/-
  What the run of closed code says of the machine: codes. No program.
-/
import Derived.Test.YtohpjhplofimjaaZu
set_option linter.unusedSimpArgs false
set_option linter.unusedVariables false
set_option linter.unusedSectionVars false
namespace Go.Rx
open Go
variable {P : Program}

theorem comes_stay {rb : Option Nat} {n : Nat} {R : Ren} {s : S} {a : Act} {w : World} (hs : St R s a w) {e : Ex} {Q : Exit → Act → World → Prop} (hQ : ∀ R' a' w', Ext R R' s.nx s.nx s.wr w w' → St R' s a' w' → Q e.ex a' w') : Q e.ex a w := hQ R a w (Ext.refl R _ _ w) hs
theorem evLoop_ok {rb : Option Nat} {n : Nat} {c : Code} {ro : Option Nat} {f : S → Option (Ex × S)} (hup : ∀ s e s', f s = some (e, s') → Up s s')
    (hf : ∀ s s' e R a w, f s = some (e, s') → St R s a w → RO R ro rb → Free R s.nx s'.mx → Comes' P rb n c R s a w e s') :
    ∀ {m : Nat} {s s' : S} {e : Ex} {R : Ren} {a : Act} {w : World}, evLoop m f s = some (e, s') → St R s a w → RO R ro rb → Free R s.nx s'.mx → ∀ (Q : Exit → Act → World → Prop), (∀ R' a' w', Ext R R' s.nx s'.nx s'.wr w w' → St R' s' a' w' → Q e.ex a' w') → Code.roundsIn (Fw rb) n P c Q m a w
  | 0, _, _, _, _, _, _, h, _, _, _, _, _ => by cases h
  | m + 1, s, s', e, R, a, w, h, hs, hro, hfr, Q, hQ => by
    simp only [evLoop] at h
    cases hfs : f s with
    | none => simp [hfs] at h
    | some q =>
      obtain ⟨e1, s1⟩ := q
      have hu1 := hup s e1 s1 hfs
      rw [roundsIn_succ]
      cases e1 <;> simp only [hfs] at h
      case normal =>
        have hu2 := evLoop_up hup h
        refine hf s s1 .normal R a w hfs hs hro (hfr.less hu2.mx) _ ?_
        intro R1 a1 w1 hx1 hs1
        refine evLoop_ok hup hf h hs1 (hro.mono hx1.le) (hfr.after hx1 hu1.nx) Q ?_
        intro R2 a2 w2 hx2 hs2
        exact hQ R2 a2 w2 ((hx1.wider hu2.wr).trans hx2 hu1.nx hu2.nx) hs2
      all_goals
        simp at h
        obtain ⟨rfl, rfl⟩ := h
        refine hf s s1 _ R a w hfs hs hro hfr _ ?_
        intro R1 a1 w1 hx1 hs1
        exact hQ R1 a1 w1 hx1 hs1
theorem evC_ok {call : CallT} (hcall : CallOK P call) (hmix : P.follows .mixedOrders = true) {ro rb : Option Nat} {n L : Nat} : ∀ {c : Code} {s s' : S} {e : Ex} {R : Ren} {a : Act} {w : World}, evC P call ro L c s = some (e, s') → St R s a w → RO R ro rb → Free R s.nx s'.mx → Comes' P rb n c R s a w e s'
  | .skip, s, s', e, R, a, w, h, hs, hro, hf, Q, hQ => by
    simp [evC] at h; obtain ⟨rfl, rfl⟩ := h
    exact wpIn_skip (hQ R a w (Ext.refl R _ _ w) hs)
  | .region id ops draw, s, s', e, R, a, w, h, hs, hro, hf, Q, hQ => by
    obtain ⟨rfl, _, he⟩ := evRegion_up (show evRegion P call ops draw s = some (e, s') by simpa only [evC] using h)
    cases draw with
    | true => exact evDraw_ok hcall hmix (by simpa using he) hs hf hQ
    | false =>
      refine wpIn_region ?_
      have := evOps_ok (ro := rb) (n := n) (Q := Q) hcall (l := ops.toList) (k := 0) (ops := ops) (fun j => by simp) (by simpa using he) hs hf hQ
      rw [List.range_eq_range']
      simpa using this
  | .seq x y, s, s', e, R, a, w, h, hs, hro, hf, Q, hQ => by
    simp only [evC] at h
    cases hx : evC P call ro L x s with
    | none => simp [hx] at h
    | some q =>
      obtain ⟨e1, s1⟩ := q
      have hu1 := evC_up hx
      refine wpIn_seq ?_
      cases e1 <;> simp only [hx] at h
      case normal =>
        have hu2 := evC_up h
        refine evC_ok hcall hmix hx hs hro (hf.less hu2.mx) _ ?_
        intro R1 a1 w1 hx1 hs1
        refine evC_ok hcall hmix h hs1 (hro.mono hx1.le) (hf.after hx1 hu1.nx) Q ?_
        intro R2 a2 w2 hx2 hs2
        exact hQ R2 a2 w2 ((hx1.wider hu2.wr).trans hx2 hu1.nx hu2.nx) hs2
      all_goals
        simp at h
        obtain ⟨rfl, rfl⟩ := h
        exact evC_ok hcall hmix hx hs hro hf _ fun R1 a1 w1 hx1 hs1 => hQ R1 a1 w1 hx1 hs1
  | .cond c x y, s, s', e, R, a, w, h, hs, hro, hf, Q, hQ => by
    simp only [evC] at h
    split at h
    · rename_i hc
      exact wpIn_cond_true (show a.eval c = .bool true from evO_ok hs.F hc) (evC_ok hcall hmix h hs hro hf Q hQ)
    · rename_i hc
      exact wpIn_cond_false (show a.eval c = .bool false from evO_ok hs.F hc) (evC_ok hcall hmix h hs hro hf Q hQ)
    · cases h
  | .block id c, s, s', e, R, a, w, h, hs, hro, hf, Q, hQ => by
    simp only [evC] at h
    cases hx : evC P call ro L c s with
    | none => simp [hx] at h
    | some q =>
      obtain ⟨e1, s1⟩ := q
      refine wpIn_block ?_
      cases e1 <;> simp only [hx] at h
      case exit j =>
        cases hb : Nat.beq j id
        · simp [hb] at h
          obtain ⟨rfl, rfl⟩ := h
          have hne : j ≠ id := (beq_false _ _).1 hb
          refine evC_ok hcall hmix hx hs hro hf _ fun R1 a1 w1 hx1 hs1 => ?_
          show (if j = id then Q .normal a1 w1 else Q (.exit j) a1 w1)
          rw [if_neg hne]; exact hQ R1 a1 w1 hx1 hs1
        · simp [hb] at h
          obtain ⟨rfl, rfl⟩ := h
          have he : j = id := (beq_iff _ _).1 hb
          refine evC_ok hcall hmix hx hs hro hf _ fun R1 a1 w1 hx1 hs1 => ?_
          show (if j = id then Q .normal a1 w1 else Q (.exit j) a1 w1)
          rw [if_pos he]; exact hQ R1 a1 w1 hx1 hs1
      all_goals
        simp at h
        obtain ⟨rfl, rfl⟩ := h
        exact evC_ok hcall hmix hx hs hro hf _ fun R1 a1 w1 hx1 hs1 => hQ R1 a1 w1 hx1 hs1
  | .loop c, s, s', e, R, a, w, h, hs, hro, hf, Q, hQ => by
    simp only [evC] at h
    exact wpIn_loop_rounds L (evLoop_ok (rb := rb) (n := n) (c := c) (ro := ro) (fun s e s' h => evC_up h) (fun s s' e R a w h hs hro hf => evC_ok hcall hmix h hs hro hf) h hs hro hf Q hQ)
  | .rangeFunc f ps as body, s, s', e, R, a, w, h, hs, hro, hf, Q, hQ => evRange_ok hcall (by simpa only [evC] using h) hs hro hf Q hQ
  | .exit id, s, s', e, R, a, w, h, hs, hro, hf, Q, hQ => by
    simp [evC] at h; obtain ⟨rfl, rfl⟩ := h
    exact wpIn_exit (hQ R a w (Ext.refl R _ _ w) hs)
  | .scope c, s, s', e, R, a, w, h, hs, hro, hf, Q, hQ => by
    simp only [evC] at h
    cases hx : evC P call ro L c s with
    | none => simp [hx] at h
    | some q =>
      obtain ⟨e1, s1⟩ := q
      refine wpIn_scope ?_
      cases e1 <;> simp only [hx] at h <;> try cases h
      all_goals exact evC_ok hcall hmix hx hs hro hf _ fun R1 a1 w1 hx1 hs1 => hQ R1 a1 w1 hx1 hs1
  | .label l, s, s', e, R, a, w, h, hs, hro, hf, Q, hQ => by
    simp [evC] at h; obtain ⟨rfl, rfl⟩ := h
    exact wpIn_label (hQ R a w (Ext.refl R _ _ w) hs)
  | .goto l, s, s', e, R, a, w, h, hs, hro, hf, Q, hQ => by
    simp [evC] at h; obtain ⟨rfl, rfl⟩ := h
    exact wpIn_goto (hQ R a w (Ext.refl R _ _ w) hs)
  | .ret, s, s', e, R, a, w, h, hs, hro, hf, Q, hQ => by
    simp [evC] at h; obtain ⟨rfl, rfl⟩ := h
    exact wpIn_ret (hQ R a w (Ext.refl R _ _ w) hs)
  | .refuse why, s, s', e, R, a, w, h, hs, hro, hf, Q, hQ => by simp [evC] at h
end Go.Rx
