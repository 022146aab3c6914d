/-
  What the run of closed code says of the machine: a region in its order. No program.
-/
import Derived.Test.YtohpjhplofimjaaZm
set_option linter.unusedSimpArgs false
set_option linter.unusedVariables false
set_option linter.unusedSectionVars false
namespace Go.Rx
open Go
variable {P : Program} {R : Ren} {N : Nat} {T : Tr LV} {a : Act} {H : Hp} {w : World} {nx : Nat}

theorem put_tmps (a : Act) (dst : Option Tmp) (v : Value) : (a.put dst v).tmps = (match dst with | some d => a.tmps.setIfInBounds d v | none => a.tmps) := by cases dst <;> rfl
theorem put_defers (a : Act) (dst : Option Tmp) (v : Value) : (a.put dst v).defers = a.defers := by cases dst <;> rfl
theorem putT_ok {T' : Tr LV} {dst : Option Tmp} {lv : LV} {v : Value} (h : putT T N dst lv = some T') (hF : FR R N T a.tmps) (hv : VR R lv v) : FR R N T' (a.put dst v).tmps := by
  cases dst with
  | none => simp [putT] at h; subst h; exact hF
  | some d =>
    unfold putT at h
    cases hb : Nat.blt d N
    · simp [hb] at h
    · simp [hb, Tr.force_eq] at h; subst h
      have hd : d < N := by simpa using hb
      refine ⟨by simp [Act.put, hF.size], fun t x hx => ?_⟩
      have hd' : d < a.tmps.size := by rw [hF.size]; exact hd
      by_cases e : t = d
      · subst e
        rw [Tr.get_set_same] at hx; cases hx
        simpa [Act.put, hd'] using hv
      · rw [Tr.get_set_ne _ _ e] at hx
        have := hF.at_ t x hx
        simpa [Act.put, Array.getD_eq_getD_getElem?, Array.getElem?_setIfInBounds_ne (Ne.symm e)] using this
theorem want_ok {ops : Array Oper} {o : Oper} {b : Bool} (h : want ops T o = some b) (hF : FR R N T a.tmps) : Region.wanted o (yielded ops a.tmps) = b := by
  unfold want at h
  unfold Region.wanted
  cases hg : o.guard with
  | none => simp [hg] at h; simp [h]
  | some q =>
    obtain ⟨j, wn⟩ := q
    simp only [hg] at h ⊢
    cases hd : (ops[j]?).bind (·.dst) with
    | none =>
      simp only [hd] at h
      have hy : yielded ops a.tmps j = none := by simp [yielded, hd]
      rw [hy]; simp at h ⊢; exact h
    | some d =>
      simp only [hd] at h
      cases ht : T.get d with
      | none => simp [ht] at h
      | some x =>
        have hx := hF.at_ d x ht
        simp only [ht] at h
        split at h
        · rename_i y e
          cases e
          have hx : a.tmps.getD d undef = .bool y := hx
          have hg' : a.tmps[d]? = some (.bool y) := by
            rw [Array.getD_eq_getD_getElem?] at hx
            cases hq : a.tmps[d]? with
            | none => rw [hq] at hx; cases hx
            | some u => rw [hq] at hx; simp at hx; rw [hx]
          have hy : yielded ops a.tmps j = some y := by simp [yielded, hd, hg']
          rw [hy]
          cases y <;> cases wn <;> simp at h <;> simp [← h]
        · rename_i e
          cases e
          simp at h; subst h
          have hy : yielded ops a.tmps j = none := by
            obtain ⟨u, hu, hu2⟩ := hx
            rw [Array.getD_eq_getD_getElem?] at hu
            simp only [yielded, hd, Option.bind_some]
            cases hq : a.tmps[d]? with
            | none => rfl
            | some z =>
              rw [hq] at hu; simp at hu
              subst hu; rfl
          rw [hy]; rfl
        · cases h
theorem mem_addW {id : Nat} : ∀ {l m : List Nat}, id ∈ addW l m ↔ id ∈ l ∨ id ∈ m
  | [], m => by simp [addW]
  | x :: l, m => by
    unfold addW
    cases hb : List.elem x m
    · simp only [cond_false]
      rw [mem_addW (l := l)]
      simp only [List.mem_cons]
      constructor
      · rintro (h | h | h) <;> simp [h]
      · rintro ((h | h) | h) <;> simp [h]
    · simp only [cond_true]
      rw [mem_addW (l := l)]
      have hx : x ∈ m := by simpa using hb
      constructor
      · rintro (h | h) <;> simp [h]
      · rintro (h | h)
        · rcases List.mem_cons.1 h with rfl | h
          · exact .inr hx
          · exact .inl h
        · exact .inr h

/-- The marks of the loops over functions that a function has entered. -/
def DR (R : Ren) : List Nat → List Deferred → Prop
  | [], ds => ds = []
  | d :: l, ds => ∃ b c r, R d = some (b, c) ∧ ds = { target := .collected b, args := #[] } :: r ∧ DR R l r
theorem DR.mono {R R' : Ren} (h : Le R R') : ∀ {l : List Nat} {ds : List Deferred}, DR R l ds → DR R' l ds
  | [], _, hd => hd
  | _ :: _, _, hd => by obtain ⟨b, c, r, h1, h2, h3⟩ := hd; exact ⟨b, c, r, h _ _ h1, h2, DR.mono h h3⟩
structure St (R : Ren) (s : S) (a : Act) (w : World) : Prop where
  F : FR R s.N s.T a.tmps
  M : Rel R s.H w
  D : DR R s.df a.defers
structure Up (s s' : S) : Prop where
  mx : s.mx ≤ s'.mx
  nx : s.nx ≤ s'.nx
  N : s'.N = s.N
  wr : ∀ id ∈ s.wr, id ∈ s'.wr
theorem Up.refl (s : S) : Up s s := ⟨Nat.le_refl _, Nat.le_refl _, rfl, fun _ h => h⟩
theorem Up.trans {s s₁ s₂ : S} (h : Up s s₁) (h' : Up s₁ s₂) : Up s s₂ := ⟨Nat.le_trans h.mx h'.mx, Nat.le_trans h.nx h'.nx, h'.N.trans h.N, fun id hi => h'.wr id (h.wr id hi)⟩
theorem Free.less {R : Ren} {a b b' : Nat} (h : Free R a b') (hle : b ≤ b') : Free R a b := fun id h1 h2 => h id h1 (by omega)
theorem Free.after {R R' : Ren} {nx nx' nx'' : Nat} {wr : List Nat} {w w' : World} (h : Free R nx nx'') (hx : Ext R R' nx nx' wr w w') (hle : nx ≤ nx') : Free R' nx' nx'' := fun id h1 h2 => by
  rw [hx.out id (.inr h1)]; exact h id (by omega) h2
theorem match_self {β : Type} (l : List Nat) (f : List Nat → β) : (match l with | [] => f [] | x :: r => f (x :: r)) = f l := by cases l <;> rfl
theorem more'_le (a b : Nat) : a ≤ more' a b ∧ b ≤ more' a b := by
  unfold more'
  cases h : Nat.ble b a
  · have : ¬ b ≤ a := fun hle => by
      have e : Nat.ble b a = true := by simpa using hle
      rw [e] at h; cases h
    exact ⟨show a ≤ b by omega, Nat.le_refl _⟩
  · exact ⟨Nat.le_refl _, by simpa using h⟩
/-- One operation of a region. -/
theorem evOps_cons {call : CallT} {ops : Array Oper} {o : Oper} {rest : List Oper} {s s' : S} (h : evOps P call ops (o :: rest) s = some s') :
    (want ops s.T o = some false ∧ ∃ T', putT s.T s.N o.dst (.tup []) = some T' ∧ evOps P call ops rest { s with T := T' } = some s') ∨
    (want ops s.T o = some true ∧ ∃ r T', evOp P call s.T s.H s.nx o.op = some r ∧ s.nx ≤ r.o.nx ∧ r.o.nx ≤ r.mx ∧ putT s.T s.N o.dst r.o.v = some T' ∧ evOps P call ops rest ⟨T', s.N, r.o.H, r.o.nx, addW r.o.wr s.wr, s.df, more' s.mx r.mx⟩ = some s') := by
  obtain ⟨T, N, H, nx, wr, df, mx⟩ := s
  simp only [evOps] at h
  cases hw : want ops T o with
  | none => simp [hw] at h
  | some b =>
    cases b with
    | false =>
      simp only [hw] at h
      cases hp : putT T N o.dst (.tup []) with
      | none => simp [hp] at h
      | some T' => simp only [hp] at h; exact .inl ⟨rfl, T', rfl, h⟩
    | true =>
      simp only [hw] at h
      cases he : evOp P call T H nx o.op with
      | none => simp [he] at h
      | some r =>
        obtain ⟨⟨v, H', nx', wr'⟩, m⟩ := r
        simp only [he] at h
        cases hb : (Nat.ble nx nx' && Nat.ble nx' m)
        · simp [hb] at h
        · simp only [hb, cond_true] at h
          simp only [Bool.and_eq_true] at hb
          cases hp : putT T N o.dst v with
          | none => simp [hp] at h
          | some T' =>
            simp only [hp, nN_eq] at h
            refine .inr ⟨rfl, ⟨⟨v, H', nx', wr'⟩, m⟩, T', rfl, by simpa using hb.1, by simpa using hb.2, hp, ?_⟩
            cases hl : addW wr' wr with
            | nil => rw [hl] at h; exact h
            | cons x l => rw [hl] at h; exact h
theorem evOps_up {call : CallT} {ops : Array Oper} : ∀ {l : List Oper} {s s' : S}, evOps P call ops l s = some s' → Up s s'
  | [], s, s', h => by simp [evOps] at h; subst h; exact Up.refl s
  | o :: l, s, s', h => by
    rcases evOps_cons h with ⟨_, T', _, h'⟩ | ⟨_, r, T', _, hle, _, _, h'⟩
    · have := evOps_up h'; exact ⟨this.mx, this.nx, this.N, this.wr⟩
    · have := evOps_up h'
      exact ⟨Nat.le_trans (more'_le _ _).1 this.mx, Nat.le_trans hle this.nx, this.N, fun id hi => this.wr id (mem_addW.2 (.inr hi))⟩
theorem evOps_ok {call : CallT} (hcall : CallOK P call) {ops : Array Oper} {ro : Option Nat} {n : Nat} {Q : Exit → Act → World → Prop} : ∀ {l : List Oper} {k : Nat} {s s' : S} {R : Ren} {a : Act} {w : World}, (∀ j, l[j]? = ops[k + j]?) →
    evOps P call ops l s = some s' → St R s a w → Free R s.nx s'.mx → (∀ R' a' w', Ext R R' s.nx s'.nx s'.wr w w' → St R' s' a' w' → Q .normal a' w') → wpOpsIn (Fw ro) n P ops Q (List.range' k l.length) a w
  | [], k, s, s', R, a, w, _, h, hs, _, hQ => by
    simp [evOps] at h; subst h
    exact hQ R a w (Ext.refl R _ _ w) hs
  | o :: l, k, s, s', R, a, w, hl, h, hs, hf, hQ => by
    have h0 : ops[k]? = some o := by simpa using (hl 0).symm
    have hl' : ∀ j, l[j]? = ops[k + 1 + j]? := fun j => by have := hl (j + 1); simpa [Nat.add_assoc, Nat.add_comm 1 j] using this
    simp only [List.length_cons, List.range'_succ, wpOpsIn, h0]
    rcases evOps_cons h with ⟨hw, T', hp, h'⟩ | ⟨hw, r, T', he, hle, hle', hp, h'⟩
    · rw [want_ok hw hs.F, if_neg (by simp)]
      refine ⟨fun _ _ => trivial, evOps_ok hcall hl' h' ⟨putT_ok hp hs.F ⟨#[], rfl, rfl⟩, hs.M, by rw [put_defers]; exact hs.D⟩ hf hQ⟩
    · rw [want_ok hw hs.F, if_pos rfl]
      have hup := evOps_up h'
      refine evOp_ok hcall hs.F hs.M (hf.less (Nat.le_trans (more'_le _ _).2 hup.mx)) he ?_
      rintro v w1 ⟨R1, hx, hm, hv⟩
      have hx' : Ext R R1 s.nx r.o.nx s'.wr w w1 := hx.wider fun id hi => hup.wr id (mem_addW.2 (.inl hi))
      refine evOps_ok hcall hl' h' ⟨putT_ok hp (hs.F.mono hx.le) hv, hm, by rw [put_defers]; exact hs.D.mono hx.le⟩ (hf.after hx hle) ?_
      intro R' a' w' hx2 hs'
      exact hQ R' a' w' (hx'.trans hx2 hle hup.nx) hs'
end Go.Rx
