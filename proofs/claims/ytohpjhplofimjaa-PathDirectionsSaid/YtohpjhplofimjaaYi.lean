/-
  A symbolic run: codes, calls. No program.
-/
import Derived.Test.YtohpjhplofimjaaYh
set_option linter.unusedSimpArgs false
set_option linter.unusedVariables false
set_option linter.unusedSectionVars false
namespace Go.Rx
open Go
variable {fs : Fs} {ov : Bool} {ν : Nm} {P : Program} {T : Al (SV (stdA fs ov))} {L : Tr LV} {M : SH (stdA fs ov)} {H : Hp} {snx nx : Nat} {W : Nat → Prop}

theorem sRegion_ok {cs : CallS (stdA fs ov)} {call : CallT} (hc : CallSOK cs call) {ops : Array Oper} {draw : Bool} {s : SS (stdA fs ov)} {S : Rx.S} {K : SS (stdA fs ov) → Prop} (h : sRegion P cs ops draw s K) (hs : Sim W ν s S) :
    ∃ S' ν' s', evRegion P call ops draw S = some (.normal, S') ∧ XT ν s S ν' s' S' ∧ Sim W ν' s' S' ∧ K s' := by
  cases draw with
  | false =>
    obtain ⟨S', ν', s', h1, h2⟩ := sOps_ok hc h hs
    exact ⟨S', ν', s', by simp only [evRegion, h1], h2⟩
  | true =>
    simp only [sRegion, Tr.force_eq] at h
    cases hr : regOK ops (masksFrom ops.toList 0 .l) with
    | false => simp only [hr, cond_false] at h <;> exact h.elim
    | true =>
      simp only [hr, cond_true] at h
      obtain ⟨T, N, M, snx, wr⟩ := s
      obtain ⟨L, N', H, nx, lw, df, mx⟩ := S
      obtain rfl : N' = N := hs.N
      have hh : Half W ν snx nx H lw wr ν M snx nx wr lw 0 0 0 ⟨[], [], []⟩ :=
        ⟨hs.H, fun i D hi => (by cases hi), fun i Hi hi => (by cases hi), fun i fo hi => (by cases hi), fun _ _ => rfl, fun id q o h1 h2 => (by have := (hs.H.lt id q o h2).2; dsimp only at this; omega), Nat.le_refl _, Nat.le_refl _, hs.wr, fun _ h => h, fun _ _ _ => rfl, fun _ h => h, fun _ _ _ => rfl, fun q hq => .inl hq, fun id r o h => hs.H.lt id r o h⟩
      obtain ⟨L', nx', lw', g', ν', s', rd', al', ws', e, hF, hh', hN, hK⟩ := sDrawn_ok (H₁ := H) (df := df) (mx := mx) hc h hs.T hh
      obtain ⟨ds, hl, fl⟩ := g'
      refine ⟨⟨L', N', heapOf tops H ds, nx', lw', df, more' mx nx'⟩, ν', s', ?_, ⟨hh'.lo, hh'.nw, hh'.up, hh'.sup, hh'.mono, hh'.swr, hh'.keepS, hh'.keep, hh'.has, rfl⟩, ⟨hN.symm, hF, hh'.top, (more'_le _ _).2, hh'.wrs, fun q hq => hs.wup q (Nat.le_trans hh'.up hq)⟩, hK⟩
      simp only [evRegion, evDraw, Tr.force_eq, hr, cond_true, e, nN_eq]
def GoC (W : Nat → Prop) (ν : Nm) (s : SS (stdA fs ov)) (S : Rx.S) (K : Ex → SS (stdA fs ov) → Prop) (x : Option (Ex × Rx.S)) : Prop := ∃ e S' ν' s', x = some (e, S') ∧ XT ν s S ν' s' S' ∧ Sim W ν' s' S' ∧ K e s'
/-- What is told of the loops of a text is so. -/
def LoopsOK (P : Program) (call : CallT) (L : Nat) (root : Code) (lp : LoopS (stdA fs ov)) : Prop := ∀ p f, lp p = some f → ∀ c ro, codeAt root p = some (.loop c) → ∀ s K W ν S, f c s K → Sim W ν s S → GoC W ν s S K (evLoop L (fun s => evC P call ro L c s) S)
theorem GoC.then {s : SS (stdA fs ov)} {S : Rx.S} {K K' : Ex → SS (stdA fs ov) → Prop} {x y : Option (Ex × Rx.S)} (h : GoC W ν s S K x) (hy : ∀ e S' ν' s', x = some (e, S') → Sim W ν' s' S' → K e s' → GoC W ν' s' S' K' y) : GoC W ν s S K' y := by
  obtain ⟨e, S', ν', s', h1, h2, h3, h4⟩ := h
  obtain ⟨e2, S2, ν2, s2, k1, k2, k3, k4⟩ := hy e S' ν' s' h1 h3 h4
  exact ⟨e2, S2, ν2, s2, k1, h2.trans h3 k2, k3, k4⟩
theorem goC_stop {s : SS (stdA fs ov)} {S : Rx.S} {K : Ex → SS (stdA fs ov) → Prop} {e : Ex} (hs : Sim W ν s S) (hK : K e s) {x : Option (Ex × Rx.S)} (hx : x = some (e, S)) : GoC W ν s S K x := ⟨e, S, ν, s, hx, XT.refl hs.H, hs, hK⟩
theorem unroll_ok {body : SS (stdA fs ov) → (Ex → SS (stdA fs ov) → Prop) → Prop} {f : Rx.S → Option (Ex × Rx.S)} (hb : ∀ s K ν S, body s K → Sim W ν s S → GoC W ν s S K (f S)) :
    ∀ {n m : Nat} {s : SS (stdA fs ov)} {K : Ex → SS (stdA fs ov) → Prop} {ν : Nm} {S : Rx.S}, unroll (A := stdA fs ov) body n s K → n ≤ m → Sim W ν s S → GoC W ν s S K (evLoop m f S)
  | 0, _, _, _, _, _, h, _, _ => h.elim
  | n + 1, 0, _, _, _, _, _, hm, _ => absurd hm (by omega)
  | n + 1, m + 1, s, K, ν, S, h, hm, hs => by
    simp only [unroll] at h
    refine (hb _ _ ν S h hs).then fun e S' ν' s' h1 h2 h3 => ?_
    simp only [evLoop, h1]
    cases e with
    | normal => exact unroll_ok hb h3 (by omega) h2
    | exit j => exact goC_stop h2 h3 rfl
    | goto j => exact goC_stop h2 h3 rfl
    | ret => exact goC_stop h2 h3 rfl
theorem sKnow_ok {c : Operand} {x : Bool} {s : SS (stdA fs ov)} {S : Rx.S} {K : SS (stdA fs ov) → Prop} (h : sKnow c x s K) (hs : Sim W ν s S) (hx : sO s.T c = some (.b x)) : ∃ s', (s'.nx = s.nx ∧ s'.wr = s.wr) ∧ Sim W ν s' S ∧ K s' := by
  unfold sKnow at h
  cases c with
  | tmp t =>
    simp only [Al.force_eq] at h
    exact ⟨⟨s.T.set t (some (.b x)), s.N, s.H, s.nx, s.wr⟩, ⟨rfl, rfl⟩, ⟨hs.N, fs_know hs.T hx, hs.H, hs.mx, hs.wr, hs.wup⟩, h⟩
  | _ => exact ⟨s, ⟨rfl, rfl⟩, hs, h⟩
theorem GoC.know {s s' : SS (stdA fs ov)} {S : Rx.S} {K : Ex → SS (stdA fs ov) → Prop} {x : Option (Ex × Rx.S)} (e : s'.nx = s.nx ∧ s'.wr = s.wr) (h : GoC W ν s' S K x) : GoC W ν s S K x := by
  obtain ⟨e1, S', ν', s1, h1, h2, h3, h4⟩ := h
  obtain ⟨a, b⟩ := e
  exact ⟨e1, S', ν', s1, h1, ⟨a ▸ h2.lo, a ▸ h2.nw, h2.up, a ▸ h2.sup, h2.wr, b ▸ h2.swr, h2.keepS, h2.keep, h2.has, h2.df⟩, h3, h4⟩
theorem sCode_ok {cs : CallS (stdA fs ov)} {call : CallT} (hc : CallSOK cs call) {root : Code} {lp : LoopS (stdA fs ov)} {L U : Nat} (hl : LoopsOK P call L root lp) (hU : U ≤ L) {ro : Option Nat} :
    ∀ {c : Code} {p : List Bool} {s : SS (stdA fs ov)} {S : Rx.S} {K : Ex → SS (stdA fs ov) → Prop} {ν : Nm}, sCode P cs lp U p c s K → codeAt root p = some c → Sim W ν s S → GoC W ν s S K (evC P call ro L c S)
  | .skip, p, s, S, K, ν, h, hp, hs => goC_stop hs h rfl
  | .region id ops draw, p, s, S, K, ν, h, hp, hs => by
    obtain ⟨S', ν', s', h1, h2, h3, h4⟩ := sRegion_ok hc h hs
    exact ⟨.normal, S', ν', s', h1, h2, h3, h4⟩
  | .seq a b, p, s, S, K, ν, h, hp, hs => by
    simp only [sCode] at h
    refine (sCode_ok (ro := ro) hc hl hU h (by simp [codeAt, hp]) hs).then fun e S' ν' s' h1 h2 h3 => ?_
    simp only [evC, h1]
    cases e with
    | normal => exact sCode_ok (ro := ro) hc hl hU h3 (by simp [codeAt, hp]) h2
    | exit j => exact goC_stop h2 h3 rfl
    | goto j => exact goC_stop h2 h3 rfl
    | ret => exact goC_stop h2 h3 rfl
  | .cond c a b, p, s, S, K, ν, h, hp, hs => by
    simp only [sCode] at h
    split at h
    · rename_i x hx
      obtain ⟨lv, h1, h2⟩ := sO_ok hs.T hx
      obtain rfl := h2
      have h' : cond x _ _ := h
      simp only [evC, h1]
      cases x
      · obtain ⟨s', e, hs', h⟩ := sKnow_ok (show sKnow c false s (fun s => sCode P cs lp U (true :: p) b s K) from h') hs hx
        exact GoC.know e (sCode_ok (ro := ro) hc hl hU h (by simp [codeAt, hp]) hs')
      · obtain ⟨s', e, hs', h⟩ := sKnow_ok (show sKnow c true s (fun s => sCode P cs lp U (false :: p) a s K) from h') hs hx
        exact GoC.know e (sCode_ok (ro := ro) hc hl hU h (by simp [codeAt, hp]) hs')
    · exact h.elim
  | .block id c, p, s, S, K, ν, h, hp, hs => by
    simp only [sCode] at h
    refine (sCode_ok (ro := ro) hc hl hU h (by simp [codeAt, hp]) hs).then fun e S' ν' s' h1 h2 h3 => ?_
    simp only [evC, h1]
    cases e with
    | normal => exact goC_stop h2 h3 rfl
    | exit j =>
      simp only at h3 ⊢
      cases hj : Nat.beq j id
      · simp only [hj, cond_false] at h3 ⊢; exact goC_stop h2 h3 rfl
      · simp only [hj, cond_true] at h3 ⊢; exact goC_stop h2 h3 rfl
    | goto j => exact goC_stop h2 h3 rfl
    | ret => exact goC_stop h2 h3 rfl
  | .loop c, p, s, S, K, ν, h, hp, hs => by
    simp only [sCode] at h
    cases hf : lp p with
    | some f =>
      simp only [hf] at h
      exact hl p f hf c ro hp s K W ν S h hs
    | none =>
      simp only [hf] at h
      simp only [evC]
      exact unroll_ok (fun s K ν S hb hs => sCode_ok (ro := ro) hc hl hU hb (by simp [codeAt, hp]) hs) h hU hs
  | .exit id, p, s, S, K, ν, h, hp, hs => goC_stop hs h rfl
  | .scope c, p, s, S, K, ν, h, hp, hs => by
    simp only [sCode] at h
    refine (sCode_ok (ro := ro) hc hl hU h (by simp [codeAt, hp]) hs).then fun e S' ν' s' h1 h2 h3 => ?_
    simp only [evC, h1]
    cases e with
    | normal => exact goC_stop h2 h3 rfl
    | exit j => exact goC_stop h2 h3 rfl
    | goto j => exact h3.elim
    | ret => exact goC_stop h2 h3 rfl
  | .label l, p, s, S, K, ν, h, hp, hs => goC_stop hs h rfl
  | .goto l, p, s, S, K, ν, h, hp, hs => goC_stop hs h rfl
  | .ret, p, s, S, K, ν, h, hp, hs => goC_stop hs h rfl
  | .rangeFunc _ _ _ _, p, s, S, K, ν, h, hp, hs => h.elim
  | .refuse _, p, s, S, K, ν, h, hp, hs => h.elim

/-! ### Calls -/
mutual
theorem vs_lt {ν' : Nm} {n m : Nat} (hl : ∀ id r o, id < n → ν' id = some (r, o) → r < m) : ∀ {x : SV (stdA fs ov)} {v : LV}, x.lt n = true → VS ν' x v → v.lt m = true
  | .b _, v, _, hv => by rw [show v = _ from hv]; rfl
  | .i _ _, v, _, hv => by rw [show v = _ from hv]; rfl
  | .s _, v, _, hv => by rw [show v = _ from hv]; rfl
  | .nilp, v, _, hv => by rw [show v = _ from hv]; rfl
  | .p id _, v, h, hv => by obtain ⟨r, h1, rfl⟩ := hv; have := hl id r 0 (by simpa [SV.lt] using h) h1; simpa [LV.lt] using this
  | .pe id _ _ _, v, h, hv => by obtain ⟨r, o, h1, _, rfl⟩ := hv; have := hl id r o (by simpa [SV.lt] using h) h1; simpa [LV.lt] using this
  | .nils, v, _, hv => by rw [show v = _ from hv]; rfl
  | .sl id _ _ _, v, h, hv => by obtain ⟨r, h1, rfl⟩ := hv; have := hl id r 0 (by simpa [SV.lt] using h) h1; simpa [LV.lt] using this
  | .ls _ id _, v, h, hv => by
    obtain ⟨h0, ⟨rfl, _⟩ | ⟨r, o, h1, ⟨_, rfl⟩ | ⟨_, c, _, rfl⟩⟩⟩ := hv
    · rfl
    · have := hl id r o (by simpa [SV.lt] using h) h1; simpa [LV.lt] using this
    · have := hl id r o (by simpa [SV.lt] using h) h1; simpa [LV.lt] using this
  | .fn _ a c, v, h, hv => by
    obtain ⟨a', c', rfl, h1, h2⟩ := hv
    simp only [SV.lt, Bool.and_eq_true] at h
    simp only [LV.lt, Bool.and_eq_true]
    exact ⟨vsl_lt hl h.1 h1, vsl_lt hl h.2 h2⟩
  | .nilf, v, _, hv => by rw [show v = _ from hv]; rfl
  | .nili, v, _, hv => by rw [show v = _ from hv]; rfl
  | .agg _, v, h, hv => by obtain ⟨l, rfl, h1⟩ := hv; exact vsl_lt hl (by simpa [SV.lt] using h) h1
  | .tup _, v, h, hv => by obtain ⟨l, rfl, h1⟩ := hv; exact vsl_lt hl (by simpa [SV.lt] using h) h1
theorem vsl_lt {ν' : Nm} {n m : Nat} (hl : ∀ id r o, id < n → ν' id = some (r, o) → r < m) : ∀ {l : List (SV (stdA fs ov))} {vs : List LV}, SV.ltL n l = true → VSL ν' l vs → LV.ltL m vs = true
  | [], vs, _, hv => by rw [show vs = [] from hv]; rfl
  | x :: l, vs, h, hv => by
    obtain ⟨y, r, rfl, h1, h2⟩ := hv
    simp only [SV.ltL, Bool.and_eq_true] at h
    simp only [LV.ltL, Bool.and_eq_true]
    exact ⟨vs_lt hl h.1 h1, vsl_lt hl h.2 h2⟩
end
mutual
theorem vs_low {ν' : Nm} {n : Nat} (hl : Lo n ν ν') : ∀ {x : SV (stdA fs ov)} {v : LV}, x.lt n = true → VS ν' x v → VS ν x v
  | .b _, v, _, hv => hv
  | .i _ _, v, _, hv => hv
  | .s _, v, _, hv => hv
  | .nilp, v, _, hv => hv
  | .p id _, v, h, hv => by obtain ⟨r, h1, rfl⟩ := hv; exact ⟨r, by rw [← hl id (by simpa [SV.lt] using h)]; exact h1, rfl⟩
  | .pe id _ _ _, v, h, hv => by obtain ⟨r, o, h1, h2, rfl⟩ := hv; exact ⟨r, o, by rw [← hl id (by simpa [SV.lt] using h)]; exact h1, h2, rfl⟩
  | .nils, v, _, hv => hv
  | .sl id _ _ _, v, h, hv => by obtain ⟨r, h1, rfl⟩ := hv; exact ⟨r, by rw [← hl id (by simpa [SV.lt] using h)]; exact h1, rfl⟩
  | .ls _ id _, v, h, hv => by
    have e := hl id (by simpa [SV.lt] using h)
    have hv' : LSr (ν' id) _ _ v := hv
    rw [e] at hv'; exact hv'
  | .fn _ a c, v, h, hv => by
    obtain ⟨a', c', rfl, h1, h2⟩ := hv
    simp only [SV.lt, Bool.and_eq_true] at h
    exact ⟨a', c', rfl, vsl_low hl h.1 h1, vsl_low hl h.2 h2⟩
  | .nilf, v, _, hv => hv
  | .nili, v, _, hv => hv
  | .agg _, v, h, hv => by obtain ⟨l, rfl, h1⟩ := hv; exact ⟨l, rfl, vsl_low hl (by simpa [SV.lt] using h) h1⟩
  | .tup _, v, h, hv => by obtain ⟨l, rfl, h1⟩ := hv; exact ⟨l, rfl, vsl_low hl (by simpa [SV.lt] using h) h1⟩
theorem vsl_low {ν' : Nm} {n : Nat} (hl : Lo n ν ν') : ∀ {l : List (SV (stdA fs ov))} {vs : List LV}, SV.ltL n l = true → VSL ν' l vs → VSL ν l vs
  | [], vs, _, hv => hv
  | x :: l, vs, h, hv => by
    obtain ⟨y, r, rfl, h1, h2⟩ := hv
    simp only [SV.ltL, Bool.and_eq_true] at h
    exact ⟨y, r, rfl, vs_low hl h.1 h1, vsl_low hl h.2 h2⟩
end
theorem OS.low {ν' : Nm} {n id : Nat} {so : SO (stdA fs ov)} (hl : Lo n ν ν') (hid : id < n) (h : so.lt n = true) (hO : OS ν' H id so) : OS ν H id so := by
  have e := hl id hid
  cases so with
  | row t cs =>
    obtain ⟨r, lcs, a1, a2, a3⟩ := hO
    exact ⟨r, lcs, by rw [← e]; exact a1, a2, vsl_low hl h a3⟩
  | list t ks own hh =>
    obtain ⟨a0, a1, a2⟩ := hO
    refine ⟨a0, a1.imp_right ?_, fun ho r o hr => a2 ho r o (by rw [e]; exact hr)⟩
    rintro ⟨r, o, lo, b1, b2, b3⟩
    exact ⟨r, o, lo, by rw [← e]; exact b1, b2, b3⟩
/-- What a call leaves. -/
theorem gc_eq {lv : LV} {H' : Hp} {nx' : Nat} {lw : List Nat} (hk : ∀ q, q < nx → q ∉ lw → H'.get q = H.get q) (hup : nx ≤ nx') :
    ∃ o, gc nx H lv H' nx' lw = o ∧ o.v = lv ∧ o.wr = below nx lw ∧ (∀ q, q < nx → o.H.get q = H'.get q) ∧ nx ≤ o.nx ∧ o.nx ≤ nx' ∧ (below nx lw = [] → lv.lt nx = true → o.nx = nx) ∧ (below nx lw = [] → lv.lt nx = false → o.H = H' ∧ o.nx = nx') := by
  refine ⟨_, rfl, ?_⟩
  have hk' : ∀ q, q < nx → q ∉ below nx lw → H'.get q = H.get q := fun q h1 h2 => hk q h1 fun h => h2 (mem_below.2 ⟨h, h1⟩)
  unfold gc
  generalize below nx lw = b at *
  cases b with
  | nil =>
    simp only
    cases hv : lv.lt nx
    · exact ⟨rfl, rfl, fun _ _ => rfl, hup, Nat.le_refl _, fun _ h => (by cases h), fun _ _ => ⟨rfl, rfl⟩⟩
    · exact ⟨rfl, rfl, fun q hq => (hk' q hq (by simp)).symm, Nat.le_refl _, hup, fun _ _ => rfl, fun _ h => by cases h⟩
  | cons x l =>
    simp only
    cases hv : (lv.lt nx && objsBelow nx H' H (x :: l))
    · refine ⟨by first | rfl | trivial, by first | rfl | trivial, fun _ _ => rfl, hup, Nat.le_refl _, fun h => (by cases h), fun h => by cases h⟩
    · simp only [cond_true, Tr.force_eq]
      refine ⟨by first | rfl | trivial, by first | rfl | trivial, fun q hq => ?_, Nat.le_refl _, hup, fun h => (by cases h), fun h => by cases h⟩
      rw [get_back]
      split
      · rfl
      · rename_i hn; exact (hk' q hq hn).symm
theorem sBack_ok {M' : SH (stdA fs ov)} : ∀ {l : List Nat} {M M1 : SH (stdA fs ov)}, sBack snx M' l M = some M1 → (∀ id, id ∉ l → M1.get id = M.get id) ∧ ∀ id ∈ l, ∃ o', M.get id = some o' ∧ o'.mine = true ∧ ∃ o, M'.get id = some o ∧ M1.get id = some o ∧ o.lt snx = true
  | [], M, M1, h => by simp [sBack] at h; subst h; exact ⟨fun _ _ => rfl, fun id h => by cases h⟩
  | x :: l, M, M1, h => by
    simp only [sBack] at h
    cases h0 : M.get x with
    | none => simp [h0] at h
    | some o' =>
      cases h1 : M'.get x with
      | none => simp [h0, h1] at h
      | some o =>
        simp only [h0, h1] at h
        cases hb : (o.lt snx && o'.mine && o.mine)
        · simp [hb] at h
        · simp only [hb, cond_true] at h
          simp only [Bool.and_eq_true] at hb
          obtain ⟨k1, k2⟩ := sBack_ok h
          refine ⟨fun id hid => ?_, fun id hid => ?_⟩
          · rw [k1 id fun e => hid (by simp [e]), Al.get_set_ne _ _ fun e => hid (by simp [e])]
          · by_cases hx : id ∈ l
            · obtain ⟨a, b, c, d, e, f, g⟩ := k2 id hx
              rw [Al.get_set] at b
              split at b
              · rename_i he; subst he; exact ⟨o', h0, hb.1.2, d, e, f, g⟩
              · exact ⟨a, b, c, d, e, f, g⟩
            · have : id = x := by simpa [hx] using hid
              subst this
              exact ⟨o', h0, hb.1.2, o, h1, by rw [k1 id hx, Al.get_set_same], hb.1.1⟩
end Go.Rx
